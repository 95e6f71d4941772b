package rang

import (
	"slices"
	"testing"

	"turnout/api"
)

// samples yields numbers without a pattern, always the same ones.
type samples uint64

func newSamples() *samples {
	x := samples(88172645463325252)
	return &x
}

func (x *samples) next() uint64 {
	*x ^= *x << 13
	*x ^= *x >> 7
	*x ^= *x << 17
	return uint64(*x)
}

// below yields a number from 0 to n - 1.
func (x *samples) below(n int) int {
	return int(x.next() >> 33 % uint64(n))
}

// bytes yields n bytes.
func (x *samples) bytes(n int) string {
	b := make([]byte, n)
	for i := range b {
		b[i] = byte(x.next() >> 29)
	}
	return string(b)
}

// item yields a range of keys with these parts.
func (x *samples) item(widths []int, prio, v int) Item {
	var low, high string
	for _, width := range widths {
		a, b := x.bytes(width), x.bytes(width)
		if compare(a, b) > 0 {
			a, b = b, a
		}
		low, high = low+a, high+b
	}
	return Item{low, high, prio, v}
}

// compare compares two strings of one length, byte by byte: it is -1, 0 or 1.
func compare(a, b string) int {
	for i := range len(a) {
		switch x, y := int(a[i]), int(b[i]); {
		case x < y:
			return -1
		case x > y:
			return 1
		}
	}
	return 0
}

// sum is how many bytes keys with these parts have.
func sum(widths []int) int {
	n := 0
	for _, width := range widths {
		n += width
	}
	return n
}

// parts are the parts of a key.
func parts(widths []int, key string) []string {
	var l []string
	for _, width := range widths {
		l = append(l, key[:width])
		key = key[width:]
	}
	return l
}

// near are the numbers one below and one above part, of as many bytes, where there are such.
func near(part string) []string {
	var l []string
	for _, by := range []int{-1, 1} {
		b := []byte(part)
		for at := len(b) - 1; at >= 0; at-- {
			n := int(b[at]) + by
			b[at] = byte(n)
			if n >= 0 && n <= 255 {
				l = append(l, string(b))
				break
			}
		}
	}
	return l
}

// with is key with another part.
func with(widths []int, key string, i int, part string) string {
	from := sum(widths[:i])
	return key[:from] + part + key[from+widths[i]:]
}

// model is the widths of the parts, and a plain list of ranges in the order in which they were put.
type model struct {
	widths []int
	items  []Item
}

// contains tells part by part whether x contains key.
func (w model) contains(x Item, key string) bool {
	if len(key) != sum(w.widths) {
		return false
	}
	low, high := parts(w.widths, x.Low), parts(w.widths, x.High)
	for i, part := range parts(w.widths, key) {
		if compare(low[i], part) > 0 || compare(part, high[i]) > 0 {
			return false
		}
	}
	return true
}

// place is where the same range is; -1 if it is nowhere.
func (w model) place(x Item) int {
	return slices.IndexFunc(w.items, func(y Item) bool { return y.Low == x.Low && y.High == x.High && y.Prio == x.Prio })
}

// put is the model with a range put, and w as it was.
func (w model) put(x Item) model {
	w = w.del(x)
	return model{w.widths, append(w.items, x)}
}

// del is the model with a range deleted, and w as it was.
func (w model) del(x Item) model {
	items := slices.Clone(w.items)
	if at := w.place(x); at >= 0 {
		items = slices.Delete(items, at, at+1)
	}
	return model{w.widths, items}
}

// best is the first of the ranges with the greatest priority of those that contain key.
func (w model) best(key string) (Item, bool) {
	var l []Item
	for _, x := range w.items {
		if w.contains(x, key) {
			l = append(l, x)
		}
	}
	slices.SortStableFunc(l, func(a, b Item) int {
		switch {
		case a.Prio > b.Prio:
			return -1
		case a.Prio < b.Prio:
			return 1
		}
		return 0
	})
	if len(l) == 0 {
		return Item{}, false
	}
	return l[0], true
}

// queries are keys at both ends of each range, with each part at one of them, one below and one above; others; and
// keys of other lengths.
func (w model) queries() []string {
	r := newSamples()
	n := sum(w.widths)
	l := []string{"", r.bytes(n), r.bytes(n), r.bytes(n + 1), string(make([]byte, n)), string(make([]byte, n+1)), string(make([]byte, 65))}
	for _, x := range w.items {
		l = append(l, x.Low, x.High, x.Low+"\x00", x.High+x.High[:1], x.Low[1:], x.High[:n-1])
		low, high := parts(w.widths, x.Low), parts(w.widths, x.High)
		for i := range w.widths {
			for _, part := range append(append(near(low[i]), near(high[i])...), low[i], high[i]) {
				l = append(l, with(w.widths, x.Low, i, part), with(w.widths, x.High, i, part))
			}
		}
	}
	slices.Sort(l)
	return slices.Compact(l)
}

// alike ends the test where s is not as w is, in anything that a call answers.
func alike(t *testing.T, s *Set, w model) {
	t.Helper()
	lists(t, s, w)
	for _, key := range w.queries() {
		finds(t, s, w, key)
	}
}

// lists ends the test where the ranges of s are not those of w.
func lists(t *testing.T, s *Set, w model) {
	t.Helper()
	if got := s.All(); !slices.Equal(got, w.items) || s.Len() != len(w.items) {
		t.Fatalf("%d ranges, %#v, not %d, %#v", s.Len(), got, len(w.items), w.items)
	}
}

// finds ends the test where Find of a key does not answer what w says.
func finds(t *testing.T, s *Set, w model, key string) {
	t.Helper()
	x, is := w.best(key)
	found(t, s, key, x.V, is)
}

// found ends the test where the answer of Find is not this one.
func found(t *testing.T, s *Set, key string, want int, is bool) {
	t.Helper()
	if v, had := s.Find(key); v != want || had != is {
		t.Fatalf("for %.80x: %d, %v, not %d, %v", key, v, had, want, is)
	}
}

// puts ends the test where the answer of Put is not this one.
func puts(t *testing.T, s *Set, x Item, want api.Errno) {
	t.Helper()
	if e := s.Put(x.Low, x.High, x.Prio, x.V); e != want {
		t.Fatalf("%#v put: error %d, not %d", x, e, want)
	}
}

// dels ends the test where the answer of Del is not this one.
func dels(t *testing.T, s *Set, x Item, want bool) {
	t.Helper()
	if had := s.Del(x.Low, x.High, x.Prio); had != want {
		t.Fatalf("%#v deleted: it was there: %v", x, had)
	}
}

// empty is a new set with parts of these widths.
func empty(t *testing.T, widths []int) *Set {
	t.Helper()
	s, e := New(widths)
	if s == nil || e != api.OK {
		t.Fatalf("%v: %v, error %d", widths, s, e)
	}
	return s
}

// of is a set of these ranges, put in this order, and a model of it.
func of(t *testing.T, widths []int, l ...Item) (*Set, model) {
	t.Helper()
	s, w := empty(t, widths), model{widths: widths}
	for _, x := range l {
		puts(t, s, x, api.OK)
		w = w.put(x)
	}
	return s, w
}
