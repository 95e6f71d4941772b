package tern

import (
	"slices"
	"strings"
	"testing"

	"turnout/api"
)

// samples yields numbers without a pattern, always the same ones.
type samples uint64

func newSamples() *samples {
	x := samples(88172645463325252)
	return &x
}

func (x *samples) next() uint64 {
	*x ^= *x << 13
	*x ^= *x >> 7
	*x ^= *x << 17
	return uint64(*x)
}

// below yields a number from 0 to n - 1.
func (x *samples) below(n int) int {
	return int(x.next() >> 33 % uint64(n))
}

// bytes yields n bytes.
func (x *samples) bytes(n int) string {
	b := make([]byte, n)
	for i := range b {
		b[i] = byte(x.next() >> 29)
	}
	return string(b)
}

// patterned makes an item of a text of digits, of which some may be masked, by 8 for each byte: 1, 0, and - where there is no mask.
func patterned(text string, prio, v int) Item {
	text = strings.ReplaceAll(text, " ", "")
	key, mask := make([]byte, len(text)/8), make([]byte, len(text)/8)
	for i := range len(text) {
		bit := byte(0x80) >> (i % 8)
		if text[i] != '-' {
			mask[i/8] |= bit
		}
		if text[i] == '1' {
			key[i/8] |= bit
		}
	}
	return Item{string(key), string(mask), prio, v}
}

// masked is s, where each bit that mask does not have is 0.
func masked(s, mask string) string {
	b := []byte(s)
	for i := range b {
		b[i] &= mask[i]
	}
	return string(b)
}

// filled is s, where each bit that mask does not have is that of other.
func filled(s, mask, other string) string {
	b := []byte(s)
	for i := range b {
		b[i] = s[i]&mask[i] | other[i]&^mask[i]
	}
	return string(b)
}

// flipped is s with another bit at the offset at.
func flipped(s string, at int) string {
	b := []byte(s)
	b[at/8] ^= 0x80 >> (at % 8)
	return string(b)
}

// agree tells bit by bit whether x matches s.
func agree(x Item, s string) bool {
	if len(x.Key) != len(x.Mask) || len(s) != len(x.Mask) {
		return false
	}
	for at := range 8 * len(s) {
		bit := func(of string) byte { return of[at/8] >> (7 - at%8) & 1 }
		if bit(x.Mask) == 1 && bit(s) != bit(x.Key) || bit(x.Mask) == 0 && bit(x.Key) == 1 {
			return false
		}
	}
	return true
}

// model is a plain list of items, in order.
type model []Item

// place is where the same item is; -1 if it is nowhere.
func (w model) place(x Item) int {
	return slices.IndexFunc(w, func(y Item) bool { return y.Key == x.Key && y.Mask == x.Mask && y.Prio == x.Prio })
}

// with is the list with an item put, and w as it was.
func (w model) with(x Item) model {
	return append(w.without(x), x)
}

// without is the list with an item deleted, and w as it was.
func (w model) without(x Item) model {
	at := w.place(x)
	if at < 0 {
		return slices.Clone(w)
	}
	return slices.Delete(slices.Clone(w), at, at+1)
}

// groups are the masks, by their greatest priorities and then ascending, and these priorities.
func (w model) groups() ([]string, map[string]int) {
	greatest := map[string]int{}
	var masks []string
	for _, x := range w {
		prio, had := greatest[x.Mask]
		if !had {
			masks = append(masks, x.Mask)
		}
		if !had || x.Prio > prio {
			greatest[x.Mask] = x.Prio
		}
	}
	slices.Sort(masks)
	slices.SortStableFunc(masks, func(a, b string) int {
		switch {
		case greatest[a] > greatest[b]:
			return -1
		case greatest[a] < greatest[b]:
			return 1
		}
		return 0
	})
	return masks, greatest
}

// find is the first one of those that match and have the greatest priority.
func (w model) find(s string) (best Item, is bool) {
	for _, x := range w {
		if agree(x, s) && (!is || x.Prio > best.Prio) {
			best, is = x, true
		}
	}
	return best, is
}

// looks is how many groups are searched, one after another.
func (w model) looks(s string) int {
	masks, greatest := w.groups()
	best, found := 0, false
	for i, mask := range masks {
		if found && best > greatest[mask] {
			return i
		}
		for _, x := range w {
			if x.Mask == mask && agree(x, s) && (!found || x.Prio > best) {
				best, found = x.Prio, true
			}
		}
	}
	return len(masks)
}

// queries are strings that match an item, that differ from it in one bit, with a mask or without, or in length, and other ones.
func queries(w model) []string {
	r := newSamples()
	l := []string{"", "\x00", "\xff", "\x5a\x5a", strings.Repeat("\x00", 33), strings.Repeat("\xff", 100)}
	for _, x := range w {
		n := len(x.Key)
		l = append(l, x.Key, x.Key+"\x00", x.Key+"\xff", x.Mask, filled(x.Key, x.Mask, strings.Repeat("\xff", n)), filled(x.Key, x.Mask, r.bytes(n)))
		if n > 0 {
			l = append(l, x.Key[:n-1], x.Key[1:], flipped(x.Key, 0), flipped(x.Key, 8*n-1), flipped(x.Key, r.below(8*n)))
		}
	}
	slices.Sort(l)
	return slices.Compact(l)
}

// alike ends the test where s is not as w is, in anything that a call answers.
func alike(t *testing.T, s *Set, w model) {
	t.Helper()
	lists(t, s, w)
	for _, key := range queries(w) {
		finds(t, s, w, key)
	}
}

// lists ends the test where the items of s are not these.
func lists(t *testing.T, s *Set, w model) {
	t.Helper()
	masks, _ := w.groups()
	if got := s.All(); !slices.Equal(got, w) || s.Len() != len(w) || s.Masks() != len(masks) {
		t.Fatalf("%d items under %d masks, %#v, not %d under %d, %#v", s.Len(), s.Masks(), got, len(w), len(masks), w)
	}
}

// finds ends the test where Find and Looks of a string do not answer what w says.
func finds(t *testing.T, s *Set, w model, key string) {
	t.Helper()
	x, is := w.find(key)
	found(t, s, key, x, is)
	looks(t, s, key, w.looks(key))
}

// found ends the test where the answer of Find is not this one.
func found(t *testing.T, s *Set, key string, want Item, is bool) {
	t.Helper()
	if x, had := s.Find(key); x != want || had != is {
		t.Fatalf("for %.80x: %#v, %v, not %#v, %v", key, x, had, want, is)
	}
}

// looks ends the test where the answer of Looks is not this one.
func looks(t *testing.T, s *Set, key string, want int) {
	t.Helper()
	if n := s.Looks(key); n != want {
		t.Fatalf("for %.80x: %d of %d groups are searched, not %d", key, n, s.Masks(), want)
	}
}

// puts ends the test where the answer of Put is not this one.
func puts(t *testing.T, s *Set, x Item, want api.Errno) {
	t.Helper()
	if e := s.Put(x); e != want {
		t.Fatalf("%#v put: error %d, not %d", x, e, want)
	}
}

// dels ends the test where the answer of Del is not this one.
func dels(t *testing.T, s *Set, x Item, want bool) {
	t.Helper()
	if had := s.Del(x.Key, x.Mask, x.Prio); had != want {
		t.Fatalf("%#v deleted: it was there: %v", x, had)
	}
}

// of is a set of these items, put in this order, and a list of them.
func of(t *testing.T, l ...Item) (*Set, model) {
	t.Helper()
	s, w := New(), model{}
	for _, x := range l {
		puts(t, s, x, api.OK)
		w = w.with(x)
	}
	return s, w
}
