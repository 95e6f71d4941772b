package exact

import (
	"bytes"
	"iter"
	"slices"
	"strconv"
	"testing"

	"turnout/hash"
)

// samples yields numbers without a pattern, always the same ones.
type samples uint64

func newSamples() *samples {
	x := samples(88172645463325252)
	return &x
}

func (x *samples) next() uint64 {
	*x ^= *x << 13
	*x ^= *x >> 7
	*x ^= *x << 17
	return uint64(*x)
}

// below yields a number from 0 to n - 1.
func (x *samples) below(n int) int {
	return int(x.next() >> 33 % uint64(n))
}

// pair is a key of a model, and its number.
type pair struct {
	key string
	v   int
}

// model is a map by the chapter's words: keys are looked for in all slots, and probing is a list of slots.
type model struct{ cells []*pair }

func newModel() *model { return &model{cells: make([]*pair, 8)} }

func (w *model) copy() *model { return &model{cells: slices.Clone(w.cells)} }

// place is the slot that holds key, or -1.
func (w *model) place(key string) int {
	return slices.IndexFunc(w.cells, func(p *pair) bool { return p != nil && p.key == key })
}

func (w *model) len() int {
	n := 0
	for _, p := range w.cells {
		if p != nil {
			n++
		}
	}
	return n
}

func (w *model) keys() []string {
	var l []string
	for _, p := range w.cells {
		if p != nil {
			l = append(l, p.key)
		}
	}
	slices.SortFunc(l, byBytes)
	return l
}

func byBytes(a, b string) int { return bytes.Compare([]byte(a), []byte(b)) }

func (w *model) get(key string) (int, bool) {
	if at := w.place(key); at >= 0 {
		return w.cells[at].v, true
	}
	return 0, false
}

func (w *model) looks(key string) int {
	visited := 0
	for at := range rowOf(homeOf(key, len(w.cells)), len(w.cells)) {
		visited++
		if p := w.cells[at]; p == nil || p.key == key {
			break
		}
	}
	return visited
}

func (w *model) put(key string, v int) (int, bool) {
	was, had := w.get(key)
	if had {
		w.cells[w.place(key)] = &pair{key, v}
		return was, true
	}
	if float64(w.len()+1) > float64(len(w.cells))/2 {
		old := w.cells
		w.cells = make([]*pair, 2*len(old))
		for _, p := range old {
			if p != nil {
				w.store(p)
			}
		}
	}
	w.store(&pair{key, v})
	return 0, false
}

func (w *model) store(p *pair) {
	for at := range rowOf(homeOf(p.key, len(w.cells)), len(w.cells)) {
		if w.cells[at] == nil {
			w.cells[at] = p
			return
		}
	}
	panic("no slot is free")
}

func (w *model) del(key string) bool {
	freed := w.place(key)
	if freed < 0 {
		return false
	}
	w.cells[freed] = nil
	n := len(w.cells)
	for at := range rowOf((freed+1)%n, n) {
		p := w.cells[at]
		if p == nil {
			break
		}
		if firstOf(rowOf(homeOf(p.key, n), n), freed, at) == freed {
			w.cells[freed], w.cells[at] = p, nil
			freed = at
		}
	}
	return true
}

// rowOf yields the slots of n that probing from a slot visits, one after another: each once.
func rowOf(from, n int) iter.Seq[int] {
	return func(yield func(int) bool) {
		for at := from; at < n; at++ {
			if !yield(at) {
				return
			}
		}
		for at := range from {
			if !yield(at) {
				return
			}
		}
	}
}

// firstOf is which of two slots a row has first.
func firstOf(row iter.Seq[int], a, b int) int {
	for at := range row {
		if at == a || at == b {
			return at
		}
	}
	return -1
}

func homeOf(key string, n int) int { return hash.Slot(hash.Mix(hash.Of(key)), n) }

// named is so many different keys that begin with a text and have this home slot of n.
func named(text string, home, n, many int) []string {
	var l []string
	for i := 0; len(l) < many; i++ {
		if key := text + strconv.Itoa(i); homeOf(key, n) == home {
			l = append(l, key)
		}
	}
	return l
}

// strangers are keys that no test puts: one for each home slot of n, found once for each n.
var strangers = func() func(n int) []string {
	known := map[int][]string{}
	return func(n int) []string {
		if known[n] == nil {
			known[n] = make([]string, n)
			left := n
			for i := 0; left > 0; i++ {
				key := "stranger " + strconv.Itoa(i)
				if home := homeOf(key, n); known[n][home] == "" {
					known[n][home] = key
					left--
				}
			}
		}
		return known[n]
	}
}()

// alike ends the test where m is not as w is, in anything that a call answers.
func alike(t *testing.T, m *Map, w *model) {
	t.Helper()
	if m.Len() != w.len() || m.Slots() != len(w.cells) {
		t.Fatalf("%d keys in %d slots, not %d in %d", m.Len(), m.Slots(), w.len(), len(w.cells))
	}
	keys := w.keys()
	if got := m.Keys(); !slices.Equal(got, keys) {
		t.Fatalf("the keys are %.200q, not %.200q", got, keys)
	}
	for _, p := range w.cells {
		if p != nil {
			gets(t, m, p.key)(p.v, true)
			looksAlike(t, m, w, p.key)
		}
	}
	for _, key := range strangers(m.Slots()) {
		gets(t, m, key)(0, false)
		looksAlike(t, m, w, key)
	}
}

// alikeIn ends the test where m is not as w is in this key.
func alikeIn(t *testing.T, m *Map, w *model, key string) {
	t.Helper()
	gets(t, m, key)(w.get(key))
	looksAlike(t, m, w, key)
}

// looksAlike ends the test where m does not look for this key as w does.
func looksAlike(t *testing.T, m *Map, w *model, key string) {
	t.Helper()
	if got, want := m.Looks(key), w.looks(key); got != want {
		t.Fatalf("%.40q: found by %d looks, not %d, of %d slots", key, got, want, m.Slots())
	}
}

// bound ends the test where P10.4 or P10.5 does not hold.
func bound(t *testing.T, m *Map) {
	t.Helper()
	n := m.Slots()
	if n < 8 || n&(n-1) != 0 || n < 2*m.Len() {
		t.Fatalf("%d slots for %d keys", n, m.Len())
	}
	for _, key := range m.Keys() {
		if looks := m.Looks(key); looks < 1 || looks > m.Len() {
			t.Fatalf("%.40q: %d looks among %d keys", key, looks, m.Len())
		}
	}
	for _, key := range strangers(n) {
		if looks := m.Looks(key); looks < 1 || looks > m.Len()+1 {
			t.Fatalf("%.40q, which is absent: %d looks among %d keys", key, looks, m.Len())
		}
	}
}

// layout is the keys of m, each of one byte, at their slots, which Looks tells; a dot for a free slot.
func layout(t *testing.T, m *Map) string {
	t.Helper()
	n := m.Slots()
	out := slices.Repeat([]byte{'.'}, n)
	for _, key := range m.Keys() {
		at := (homeOf(key, n) + m.Looks(key) - 1) % n
		if len(key) != 1 || out[at] != '.' {
			t.Fatalf("%q is at slot %d, behind %q", key, at, out)
		}
		out[at] = key[0]
	}
	return string(out)
}

// laid ends the test where the slots of m are not these.
func laid(t *testing.T, m *Map, want string) {
	t.Helper()
	if got := layout(t, m); got != want {
		t.Fatalf("the slots are %s, not %s", got, want)
	}
}

// of is a map into which the bytes of a text were put, one after another, with their places as numbers.
func of(text string) *Map {
	m := New()
	for i := range len(text) {
		m.Put(text[i:i+1], i)
	}
	return m
}

// gets returns what ends the test where the answer of Get is not this one.
func gets(t *testing.T, m *Map, key string) func(int, bool) {
	t.Helper()
	v, is := m.Get(key)
	return func(want int, present bool) {
		t.Helper()
		if v != want || is != present {
			t.Fatalf("%.40q: %d, %v, not %d, %v", key, v, is, want, present)
		}
	}
}

// puts ends the test where the answer of Put is not this one.
func puts(t *testing.T, m *Map, key string, v, want int, present bool) {
	t.Helper()
	if was, had := m.Put(key, v); was != want || had != present {
		t.Fatalf("%.40q put: it was %d, %v, not %d, %v", key, was, had, want, present)
	}
}

// dels ends the test where the answer of Del is not this one.
func dels(t *testing.T, m *Map, key string, want bool) {
	t.Helper()
	if had := m.Del(key); had != want {
		t.Fatalf("%.40q deleted: it was there: %v", key, had)
	}
}

// has ends the test where m does not have so many keys in so many slots.
func has(t *testing.T, m *Map, keys, slots int) {
	t.Helper()
	if m.Len() != keys || m.Slots() != slots || len(m.Keys()) != keys {
		t.Fatalf("%d keys (a list of %d) in %d slots, not %d in %d", m.Len(), len(m.Keys()), m.Slots(), keys, slots)
	}
}
