package trie

import (
	"slices"
	"strconv"
	"strings"
	"testing"

	"turnout/api"
)

// samples yields numbers without a pattern, always the same ones.
type samples uint64

func newSamples() *samples {
	x := samples(88172645463325252)
	return &x
}

func (x *samples) next() uint64 {
	*x ^= *x << 13
	*x ^= *x >> 7
	*x ^= *x << 17
	return uint64(*x)
}

// below yields a number from 0 to n - 1.
func (x *samples) below(n int) int {
	return int(x.next() >> 33 % uint64(n))
}

// digits yields n binary digits.
func (x *samples) digits(n int) string {
	b := make([]byte, n)
	for i := range b {
		b[i] = byte('0' + x.below(2))
	}
	return string(b)
}

// model is a plain list of prefixes, whose bits are written as digits, each with its number.
type model []pair

type pair struct {
	digits string
	v      int
}

func (w model) place(digits string) int {
	return slices.IndexFunc(w, func(p pair) bool { return p.digits == digits })
}

func (w model) get(digits string) (int, bool) {
	if at := w.place(digits); at >= 0 {
		return w[at].v, true
	}
	return 0, false
}

// with is the list with a prefix put, and w as it was.
func (w model) with(digits string, v int) model {
	return append(w.without(digits), pair{digits, v})
}

// without is the list with a prefix deleted, and w as it was.
func (w model) without(digits string) model {
	return slices.DeleteFunc(slices.Clone(w), func(p pair) bool { return p.digits == digits })
}

func (w model) longest(key string) (n, v int, is bool) {
	of := digitsOf(key)
	for _, p := range w {
		if strings.HasPrefix(of, p.digits) && (!is || len(p.digits) > n) {
			n, v, is = len(p.digits), p.v, true
		}
	}
	return n, v, is
}

// all are the prefixes, sorted by their digits: a text is before those that extend it.
func (w model) all() []Item {
	sorted := slices.SortedFunc(slices.Values(w), func(a, b pair) int { return strings.Compare(a.digits, b.digits) })
	l := make([]Item, len(sorted))
	for i, p := range sorted {
		l[i] = Item{Key: keyOf(p.digits), Len: len(p.digits), V: p.v}
	}
	return l
}

// keyOf is the bytes that represent the bits that are written as digits.
func keyOf(digits string) string {
	var b strings.Builder
	for ; len(digits) > 8; digits = digits[8:] {
		b.WriteByte(byteOf(digits[:8]))
	}
	if digits != "" {
		b.WriteByte(byteOf((digits + "0000000")[:8]))
	}
	return b.String()
}

func byteOf(digits string) byte {
	n, err := strconv.ParseUint(digits, 2, 8)
	if err != nil {
		panic(err)
	}
	return byte(n)
}

// digitsOf is the bits of s, one by one, as 0 and 1.
func digitsOf(s string) string {
	b := make([]byte, 0, 8*len(s))
	for i := range len(s) {
		for place := 7; place >= 0; place-- {
			b = append(b, '0'+s[i]>>place&1)
		}
	}
	return string(b)
}

// queries are keys that end on the way to a prefix, at it, or behind it, that leave the way to it, and other ones.
func queries(w model) []string {
	l := []string{"", "\x00", "\xff", "\x80\x7f", strings.Repeat("\x00", 33), strings.Repeat("\xff", 33), strings.Repeat("\x5a", 1000)}
	for _, p := range w {
		key := keyOf(p.digits)
		l = append(l, key, key+"\x00", key+"\xff\xff", key+strings.Repeat("\xa5", 40))
		if n := len(p.digits); n > 0 {
			other := p.digits[:n-1] + string('0'+'1'-p.digits[n-1])
			l = append(l, key[:n/8], key[:n/16], keyOf(other), keyOf(other)+"\x80", keyOf(p.digits[:n/2]+"1"), keyOf(p.digits+"11"))
		}
	}
	slices.Sort(l)
	return slices.Compact(l)
}

// alike ends the test where x is not as w is, in anything that a call answers.
func alike(t *testing.T, x *Trie, w model) {
	t.Helper()
	all := w.all()
	lists(t, x, all)
	for _, p := range w {
		gets(t, x, p.digits)(p.v, true)
		for _, near := range []string{p.digits + "0", p.digits + "1", p.digits[:len(p.digits)/2], p.digits[:max(len(p.digits)-1, 0)]} {
			gets(t, x, near)(w.get(near))
		}
	}
	for _, key := range queries(w) {
		found(t, x, key)(w.longest(key))
	}
}

// lists ends the test where the prefixes of x are not these.
func lists(t *testing.T, x *Trie, want []Item) {
	t.Helper()
	if got := x.All(); !slices.Equal(got, want) || x.Len() != len(want) {
		t.Fatalf("%d prefixes, %v, not %v", x.Len(), got, want)
	}
}

// gets returns what ends the test where the answer of Get is not this one.
func gets(t *testing.T, x *Trie, digits string) func(int, bool) {
	t.Helper()
	return getsOf(t, x, keyOf(digits), len(digits))
}

func getsOf(t *testing.T, x *Trie, key string, n int) func(int, bool) {
	t.Helper()
	v, is := x.Get(key, n)
	return func(want int, present bool) {
		t.Helper()
		if v != want || is != present {
			t.Fatalf("%x, %d: %d, %v, not %d, %v", key, n, v, is, want, present)
		}
	}
}

// found returns what ends the test where the answer of Longest is not this one.
func found(t *testing.T, x *Trie, key string) func(int, int, bool) {
	t.Helper()
	n, v, is := x.Longest(key)
	return func(length, want int, there bool) {
		t.Helper()
		if n != length || v != want || is != there {
			t.Fatalf("of %.80x: %d, %d, %v, not %d, %d, %v", key, n, v, is, length, want, there)
		}
	}
}

// puts ends the test where the answer of Put is not this one.
func puts(t *testing.T, x *Trie, key string, n, v int, want api.Errno) {
	t.Helper()
	if e := x.Put(key, n, v); e != want {
		t.Fatalf("%x, %d put with %d: error %d, not %d", key, n, v, e, want)
	}
}

// put puts what is a prefix.
func put(t *testing.T, x *Trie, digits string, v int) {
	t.Helper()
	puts(t, x, keyOf(digits), len(digits), v, api.OK)
}

// dels ends the test where the answer of Del is not this one.
func dels(t *testing.T, x *Trie, digits string, want bool) {
	t.Helper()
	delsOf(t, x, keyOf(digits), len(digits), want)
}

func delsOf(t *testing.T, x *Trie, key string, n int, want bool) {
	t.Helper()
	if had := x.Del(key, n); had != want {
		t.Fatalf("%x, %d deleted: it was there: %v", key, n, had)
	}
}

// of is a trie of these prefixes, put in this order, with their places as numbers, and a list of them.
func of(t *testing.T, l ...string) (*Trie, model) {
	t.Helper()
	x, w := New(), model{}
	for i, digits := range l {
		put(t, x, digits, i)
		w = w.with(digits, i)
	}
	return x, w
}
