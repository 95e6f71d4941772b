package rang

import (
	"iter"
	"math"
	"slices"
	"strings"
	"testing"
	"unsafe"

	"turnout/api"
)

// extremes are numbers at both ends, and around 0.
func extremes() []int {
	return []int{0, 1, -1, 5, math.MaxInt, math.MinInt, math.MaxInt - 1, math.MinInt + 1, math.MaxInt32, math.MinInt32, 1 << 32}
}

// shapes are widths: of one part up to the most, of one byte up to the most.
func shapes() [][]int {
	return [][]int{{1}, {2}, {15}, {16}, {1, 1}, {1, 2}, {2, 1}, {16, 1}, {1, 16}, {3, 1, 2}, {1, 1, 1}, {4, 4, 2, 1}, {1, 1, 1, 1}, {16, 16, 16, 16}}
}

// odd are ranges of such keys: of one key, of all keys, with bytes around 127 and at both ends, some with a low key
// that is equal to the high one in one part or differs there alone, and others; each number is the place.
func odd(widths []int) []Item {
	r := newSamples()
	n := sum(widths)
	fill := func(c string) string { return strings.Repeat(c, n) }
	same := r.bytes(n)
	l := []Item{{Low: same, High: same}, {Low: fill("\x00"), High: fill("\xff")}, {Low: fill("\x00"), High: fill("\x00")}, {Low: fill("\xff"), High: fill("\xff")}, {Low: fill("\x7f"), High: fill("\x80")}, {Low: fill("\x80"), High: fill("\xff")}, {Low: fill("\xfe"), High: fill("\xff")}}
	for range 6 {
		l = append(l, r.item(widths, 0, 0))
	}
	for i, width := range widths {
		x, y := r.item(widths, 0, 0), r.item(widths, 0, 0)
		part := parts(widths, x.Low)[i]
		x.High = with(widths, x.High, i, part)
		l = append(l, x, Item{Low: with(widths, y.Low, i, strings.Repeat("\x30", width)), High: with(widths, y.Low, i, strings.Repeat("\x90", width))})
	}
	for i := range l {
		l[i].Prio, l[i].V = extremes()[r.below(11)], i
	}
	return l
}

// wrong are ranges whose keys have another length, each or both, or of which one part of the low key alone is greater
// than that of the high one: by one, at either end, with all others equal to it or below.
func wrong(widths []int) []Item {
	var l []Item
	put := func(low, high string) { l = append(l, Item{low, high, 1, 2}) }
	n := sum(widths)
	for _, x := range odd(widths)[:8] {
		for _, y := range []string{"", x.High[:n-1], x.High[1:], x.High + "\x00", x.High + "\xff", x.High + x.High, x.High + strings.Repeat("\xff", 16)} {
			put(x.Low, y)
			put(y, x.High)
			put(y, y)
		}
		put(x.Low[:n-1], x.High+"\xff")
		put(x.Low+"\x00", x.High[:n-1])
		for i, part := range parts(widths, x.Low) {
			for _, below := range []string{part, strings.Repeat("\x00", len(part))} {
				for _, above := range near(below) {
					low, high := with(widths, x.Low, i, below), with(widths, x.High, i, above)
					if compare(below, above) < 0 {
						low, high = with(widths, x.Low, i, above), with(widths, x.High, i, below)
					}
					put(low, high)
					put(with(widths, low, i, strings.Repeat("\xff", len(part))), with(widths, low, i, strings.Repeat("\x7f", len(part))))
					put(with(widths, high, i, strings.Repeat("\x80", len(part))), with(widths, high, i, strings.Repeat("\x7f", len(part))))
				}
			}
		}
	}
	return l
}

func TestExamplesP13_1(t *testing.T) {
	s := empty(t, []int{1, 2})
	a, b, c := Item{"\x05\x00\x00", "\x07\x01\x00", 1, 1}, Item{"\x00\x00\x00", "\xff\x00\x10", 1, 2}, Item{"\x06\x00\x05", "\x06\x00\x05", 2, 3}
	for _, x := range []Item{a, b, c} {
		puts(t, s, x, api.OK)
	}
	found(t, s, "\x06\x00\x05", 3, true)
	found(t, s, "\x05\x00\x80", 1, true)
	found(t, s, "\x06\x00\x04", 1, true)
	found(t, s, "\x08\x00\x08", 2, true)
	found(t, s, "\x06\x02\x00", 0, false)
	found(t, s, "\x06\x00", 0, false)
	puts(t, s, Item{"\x05\x00\x00", "\x04\xff\xff", 1, 1}, api.ErrForm)
	alike(t, s, model{[]int{1, 2}, []Item{a, b, c}})
	puts(t, s, a, api.OK)
	found(t, s, "\x06\x00\x04", 2, true)
	alike(t, s, model{[]int{1, 2}, []Item{b, c, a}})
}

func TestNewP13_1(t *testing.T) {
	var rows [][]int
	for n := range 7 {
		for _, width := range []int{1, 7, 16} {
			rows = append(rows, slices.Repeat([]int{width}, n))
		}
	}
	for _, widths := range append(rows, shapes()...) {
		s, e := New(widths)
		if n := len(widths); n < 1 || n > 4 {
			if s != nil || e != api.ErrArg {
				t.Errorf("%v: %v, error %d", widths, s, e)
			}
			continue
		}
		if s == nil || e != api.OK {
			t.Fatalf("%v: %v, error %d", widths, s, e)
		}
		alike(t, s, model{widths: widths})
	}
	if s, e := New(nil); s != nil || e != api.ErrArg {
		t.Errorf("%v, error %d", s, e)
	}
}

// One width that is out of range, at each place among others that are not, and beside too many of them.
func TestNewWrongP13_1(t *testing.T) {
	bad := append([]int{0, 17, 18, 32, 256, 1<<32 + 1, -16}, extremes()...)
	for _, width := range bad {
		for _, beside := range []int{1, 16} {
			for n := 1; n <= 6; n++ {
				for at := range n {
					widths := slices.Repeat([]int{beside}, n)
					widths[at] = width
					s, e := New(widths)
					if right := width >= 1 && width <= 16 && n <= 4; (e == api.OK) != right || (s != nil) != right || !right && e != api.ErrArg {
						t.Errorf("%v: %v, error %d", widths, s, e)
					}
				}
			}
		}
	}
	for width := -300; width <= 300; width++ {
		s, e := New([]int{width})
		if right := width >= 1 && width <= 16; (e == api.OK) != right || (s != nil) != right || !right && e != api.ErrArg {
			t.Errorf("%d: %v, error %d", width, s, e)
		}
	}
}

func TestEmptyP13_2(t *testing.T) {
	for _, widths := range shapes() {
		w := model{widths: widths}
		emptied, _ := of(t, widths, odd(widths)...)
		for _, x := range odd(widths) {
			dels(t, emptied, x, true)
		}
		for _, s := range []*Set{empty(t, widths), empty(t, widths).Copy(), emptied, emptied.Copy()} {
			alike(t, s, w)
			alike(t, s.Copy(), w)
			for _, x := range append(odd(widths), wrong(widths)...) {
				dels(t, s, x, false)
				found(t, s, x.Low, 0, false)
				found(t, s, x.High, 0, false)
			}
			for _, x := range wrong(widths) {
				puts(t, s, x, api.ErrForm)
			}
			alike(t, s, w)
			x, y := odd(widths)[1], odd(widths)[4]
			puts(t, s, x, api.OK)
			alike(t, s, w.put(x))
			puts(t, s, y, api.OK)
			alike(t, s, w.put(x).put(y))
		}
	}
}

func TestNilP13_2(t *testing.T) {
	var s *Set
	for _, widths := range shapes() {
		for _, x := range append(append(odd(widths), wrong(widths)...), Item{}) { // also what would be malformed
			puts(t, s, x, api.ErrNil)
			dels(t, s, x, false)
			found(t, s, x.Low, 0, false)
			found(t, s, x.High, 0, false)
		}
	}
	if s.Len() != 0 || len(s.All()) != 0 || s.Copy() != nil {
		t.Error("nil", s.Len(), s.All(), s.Copy())
	}
}

// A Set that New did not make has no widths: their sum is 0, and its one key is that of no bytes.
func TestZeroP13_2(t *testing.T) {
	for _, s := range []*Set{{}, (&Set{}).Copy()} {
		for _, x := range append(odd([]int{1, 2}), wrong([]int{1})...) {
			if x.Low != "" || x.High != "" {
				puts(t, s, x, api.ErrForm)
			}
			dels(t, s, x, false)
			found(t, s, x.Low, 0, false)
		}
		if s.Len() != 0 || len(s.All()) != 0 {
			t.Fatal(s.Len(), s.All())
		}
		x, y := Item{Prio: 1, V: 7}, Item{Prio: 2, V: 8}
		puts(t, s, x, api.OK)
		found(t, s, "", 7, true)
		found(t, s, "\x00", 0, false)
		puts(t, s, y, api.OK)
		found(t, s, "", 8, true)
		lists(t, s, model{items: []Item{x, y}})
		lists(t, s.Copy(), model{items: []Item{x, y}})
		dels(t, s, y, true)
		found(t, s, "", 7, true)
		dels(t, s, x, true)
		found(t, s, "", 0, false)
	}
}

// What is no range is refused, and changes nothing.
func TestWrongP13_1(t *testing.T) {
	for _, widths := range shapes() {
		s, w := of(t, widths, odd(widths)...)
		for _, x := range wrong(widths) {
			puts(t, s, x, api.ErrForm)
			dels(t, s, x, false)
			if s.Len() != len(w.items) {
				t.Fatalf("%#v changed something", x)
			}
		}
		alike(t, s, w)
	}
}

// A part of the low key is below, equal to or above that of the high one, for all parts in all ways.
func TestPartsOfARangeP13_1(t *testing.T) {
	pairs := [][2]string{{"\x40\x80", "\x40\x81"}, {"\x40\x80", "\x41\x00"}, {"\x7f\xff", "\x80\x00"}, {"\x00\x00", "\xff\xff"}, {"\x40\x80", "\x40\x80"}, {"\x40\x81", "\x40\x80"}, {"\x41\x00", "\x40\xff"}, {"\x80\x00", "\x7f\xff"}, {"\xff\xff", "\x00\x00"}}
	const right = 5 // of the pairs
	widths := []int{2, 2, 2}
	for _, a := range pairs {
		for _, b := range pairs {
			for _, c := range pairs {
				x := Item{a[0] + b[0] + c[0], a[1] + b[1] + c[1], 1, 7}
				s := empty(t, widths)
				if slices.Index(pairs, a) < right && slices.Index(pairs, b) < right && slices.Index(pairs, c) < right {
					puts(t, s, x, api.OK)
					found(t, s, x.Low, 7, true)
					found(t, s, x.High, 7, true)
				} else {
					puts(t, s, x, api.ErrForm)
					lists(t, s, model{})
				}
			}
		}
	}
}

// The low key is less than the high one as a whole, though one of its later parts is greater.
func TestLaterPartP13_1(t *testing.T) {
	for _, c := range []struct {
		widths    []int
		low, high string
	}{
		{[]int{1, 1}, "\x01\x01", "\x02\x00"},
		{[]int{1, 2}, "\x05\x01\x00", "\x06\x00\xff"},
		{[]int{1, 1, 1}, "\x01\x02\x00", "\x02\x01\xff"},
		{[]int{1, 1, 1}, "\x01\x00\xff", "\x02\xff\x80"},
		{[]int{2, 1, 1, 2}, "\x00\xff\x10\x05\x00\x01", "\x01\x00\x10\x05\x00\x00"},
	} {
		s := empty(t, c.widths)
		puts(t, s, Item{c.low, c.high, 0, 1}, api.ErrForm)
		puts(t, s, Item{c.high, c.low, 0, 1}, api.ErrForm)
		alike(t, s, model{widths: c.widths})
		one := empty(t, []int{len(c.low)}) // as one part they are a range
		puts(t, one, Item{c.low, c.high, 0, 1}, api.OK)
	}
}

// Within one part later bytes of a low key may be greater, and parts are compared as a whole.
func TestBytesOfAPartP13_6(t *testing.T) {
	x := Item{"\x01\xf0\x7f\xff", "\x03\x10\x80\x01", 1, 9}
	s, w := of(t, []int{2, 2}, x)
	alike(t, s, w)
	for key, is := range map[string]bool{
		"\x02\x00\x80\x00": true,
		"\x02\xff\x7f\xff": true,
		"\x01\xf1\x80\x01": true,
		"\x03\x0f\x80\x01": true,
		"\x01\xef\x80\x00": false,
		"\x03\x11\x80\x00": false,
		"\x02\x00\x7f\xfe": false,
		"\x02\x00\x80\x02": false,
		"\x01\x00\x80\x00": false,
		"\x03\xf0\x80\x00": false,
	} {
		found(t, s, key, map[bool]int{true: 9}[is], is)
	}
}

// All ranges and keys of one byte around the ends and the middle of what a byte may be, unsigned.
func TestUnsignedP13_6(t *testing.T) {
	ends := []int{0, 1, 2, 126, 127, 128, 129, 253, 254, 255}
	for _, low := range ends {
		for _, high := range ends {
			x := Item{string([]byte{byte(low)}), string([]byte{byte(high)}), 0, 1}
			s := empty(t, []int{1})
			if low > high {
				puts(t, s, x, api.ErrForm)
				continue
			}
			puts(t, s, x, api.OK)
			for b := range 256 {
				is := low <= b && b <= high
				found(t, s, string([]byte{byte(b)}), map[bool]int{true: 1}[is], is)
			}
		}
	}
}

// Each range alone: both its keys are within it, and keys one below and one above in each part are not, unless that part
// is another one's.
func TestOneP13_6(t *testing.T) {
	for _, widths := range shapes() {
		for _, x := range odd(widths) {
			s, w := of(t, widths, x)
			alike(t, s, w)
			alike(t, s.Copy(), w)
			found(t, s, x.Low, x.V, true)
			found(t, s, x.High, x.V, true)
			low, high := parts(widths, x.Low), parts(widths, x.High)
			for i := range widths {
				for _, key := range []string{x.Low, x.High} {
					for _, part := range append(near(low[i]), near(high[i])...) {
						is := compare(low[i], part) <= 0 && compare(part, high[i]) <= 0
						found(t, s, with(widths, key, i, part), map[bool]int{true: x.V}[is], is)
					}
				}
			}
			dels(t, s, x, true)
			dels(t, s, x, false)
			alike(t, s, model{widths: widths})
		}
	}
}

// A key is within a range exactly if each of its parts is, whichever of them are.
func TestEachPartP13_6(t *testing.T) {
	widths := []int{1, 3, 2, 16}
	r := newSamples()
	for range 200 {
		x := r.item(widths, 3, 4)
		s, _ := of(t, widths, x)
		low, high := parts(widths, x.Low), parts(widths, x.High)
		for pattern := range 16 {
			key, is := "", true
			for i := range widths {
				part := []string{low[i], high[i]}[r.below(2)]
				if pattern>>i&1 == 1 {
					outer := slices.DeleteFunc(append(near(low[i]), near(high[i])...), func(p string) bool {
						return compare(low[i], p) <= 0 && compare(p, high[i]) <= 0
					})
					if len(outer) > 0 {
						part, is = outer[r.below(len(outer))], false
					}
				}
				key += part
			}
			found(t, s, key, map[bool]int{true: 4}[is], is)
		}
	}
}

// Ranges with the same parts, cut in different ways, contain different keys.
func TestWidthsP13_1(t *testing.T) {
	low, high := "\x01\x01\x01\x01", "\x02\x02\x02\x02"
	keys := []string{"\x01\x03\x01\x03", "\x01\x03\x01\x01", "\x01\x01\x01\x03", "\x01\x01\x03\x01", "\x02\x00\x01\x01", "\x01\x03\x03\x03", "\x01\xff\xff\xff", "\x02\x02\x03\x00"}
	for _, c := range []struct {
		widths []int
		within string // which of the keys
	}{
		{[]int{1, 1, 1, 1}, "--------"},
		{[]int{2, 2}, "ABC-E---"},
		{[]int{4}, "ABCDEFG-"},
		{[]int{1, 3}, "--CD----"},
		{[]int{3, 1}, "-B-DE---"},
		{[]int{1, 2, 1}, "---D----"},
		{[]int{2, 1, 1}, "-B--E---"},
		{[]int{1, 1, 2}, "--C-----"},
	} {
		s, w := of(t, c.widths, Item{low, high, 0, 5})
		alike(t, s, w)
		for i, key := range keys {
			is := c.within[i] != '-'
			found(t, s, key, map[bool]int{true: 5}[is], is)
		}
	}
}

// Keys of another length are in no range, whatever they begin or end with.
func TestLengthsP13_2(t *testing.T) {
	for _, widths := range shapes() {
		n := sum(widths)
		s, w := of(t, widths, Item{strings.Repeat("\x00", n), strings.Repeat("\xff", n), 0, 6})
		for size := range 130 {
			for _, c := range []string{"\x00", "\x55", "\xff"} {
				found(t, s, strings.Repeat(c, size), map[bool]int{true: 6}[size == n], size == n)
			}
		}
		found(t, s, strings.Repeat("\x00", 1<<16), 0, false)
		alike(t, s, w)
	}
}

func TestExtremesP13_1(t *testing.T) {
	for _, prio := range extremes() {
		for _, v := range extremes() {
			s, w := of(t, []int{1}, Item{"a", "b", prio, v})
			alike(t, s, w)
			found(t, s, "a", v, true)
		}
	}
	for step := range 11 {
		var l []Item
		for i := range 11 {
			l = append(l, Item{"\x40\x00", "\x80\xff", extremes()[(i+step)%11], i})
		}
		s, w := of(t, []int{1, 1}, l...)
		for len(w.items) > 0 { // the best one, again and again
			alike(t, s, w)
			x, _ := w.best("\x50\x10")
			found(t, s, "\x50\x10", x.V, true)
			dels(t, s, x, true)
			w = w.del(x)
		}
		alike(t, s, w)
	}
}

// Two ranges of one priority that both contain the key, in either order: the one that was put first is found.
func TestTiesP13_3(t *testing.T) {
	widths, key := []int{1, 2}, "\x50\x60\x70"
	ranges := []Item{{Low: key, High: key}, {Low: "\x00\x00\x00", High: "\xff\xff\xff"}, {Low: key, High: "\x60\x60\x70"}, {Low: "\x40\x60\x70", High: key}, {Low: "\x50\x00\x00", High: "\x50\xff\xff"}, {Low: "\x00\x60\x70", High: "\x90\x60\x70"}}
	for i, x := range ranges {
		for j, y := range ranges {
			if i == j {
				continue
			}
			for _, prio := range extremes() {
				x.Prio, y.Prio, x.V, y.V = prio, prio, 1, 2
				s, w := of(t, widths, x, y)
				found(t, s, key, 1, true)
				puts(t, s, x, api.OK)
				found(t, s, key, 2, true)
				w = w.put(x)
				alike(t, s, w)
				dels(t, s, y, true)
				found(t, s, key, 1, true)
				puts(t, s, y, api.OK)
				found(t, s, key, 1, true)
				alike(t, s, w.del(y).put(y))
			}
		}
	}
}

// Two ranges that both contain the key, in either order: that of the greater priority is found.
func TestGreaterP13_3(t *testing.T) {
	prios := extremes()
	slices.Sort(prios)
	for i, less := range prios {
		for _, greater := range prios[i+1:] {
			x, y := Item{"\x00\x00", "\x20\x20", less, 1}, Item{"\x10\x10", "\x30\x30", greater, 2}
			for _, l := range [][]Item{{x, y}, {y, x}} {
				s, w := of(t, []int{1, 1}, l...)
				found(t, s, "\x18\x18", 2, true)
				found(t, s, "\x08\x08", 1, true)
				found(t, s, "\x28\x28", 2, true)
				found(t, s, "\x08\x28", 0, false)
				alike(t, s, w)
				dels(t, s, y, true)
				found(t, s, "\x18\x18", 1, true)
				alike(t, s, w.del(y))
			}
		}
	}
}

// Several ranges that contain a key, put in each order, and the best one deleted again and again.
func TestOrdersP13_3(t *testing.T) {
	l := []Item{{"\x00", "\xff", 2, 0}, {"\x40", "\x60", 2, 1}, {"\x50", "\x50", 2, 2}, {"\x00", "\x50", 3, 3}, {"\x50", "\x51", 3, 4}, {"\x51", "\xff", 9, 5}}
	count := 0
	for order := range orders(l) {
		s, w := of(t, []int{1}, order...)
		lists(t, s, w)
		for range 5 {
			x, _ := w.best("\x50")
			found(t, s, "\x50", x.V, true)
			dels(t, s, x, true)
			w = w.del(x)
		}
		found(t, s, "\x50", 0, false)
		found(t, s, "\x51", 5, true)
		count++
	}
	if count != 720 {
		t.Errorf("%d orders", count)
	}
}

// orders yields each order of the items.
func orders(l []Item) iter.Seq[[]Item] {
	return func(yield func([]Item) bool) {
		if len(l) == 0 {
			yield(nil)
			return
		}
		for i := range l {
			rest := slices.Delete(slices.Clone(l), i, i+1)
			for order := range orders(rest) {
				if !yield(append([]Item{l[i]}, order...)) {
					return
				}
			}
		}
	}
}

// What is found is, of All, the first one of the greatest priority that contains the key.
func TestBestP13_3(t *testing.T) {
	r := newSamples()
	for range 60 {
		widths := shapes()[r.below(len(shapes()))]
		s, w := empty(t, widths), model{widths: widths}
		for i := range r.below(40) {
			x := r.item(widths, r.below(6)-3, i)
			puts(t, s, x, api.OK)
			w = w.put(x)
		}
		all := model{widths, s.All()}
		for _, key := range w.queries() {
			v, is := s.Find(key)
			at := slices.IndexFunc(all.items, func(x Item) bool { return is && x.V == v })
			if is && (at < 0 || !all.contains(all.items[at], key)) {
				t.Fatalf("%x: %d is not there, or does not contain it", key, v)
			}
			for i, y := range all.items {
				if all.contains(y, key) && (!is || y.Prio > all.items[at].Prio || y.Prio == all.items[at].Prio && i < at) {
					t.Fatalf("%x: %d rather than %#v", key, v, y)
				}
			}
		}
	}
}

// An additional range is found exactly if it contains the key and none of the others that contain it has the same or a
// greater priority.
func TestOneMoreP13_4(t *testing.T) {
	r := newSamples()
	for range 80 {
		widths := shapes()[r.below(len(shapes()))]
		s, w := empty(t, widths), model{widths: widths}
		for i := range r.below(12) {
			x := r.item(widths, r.below(5)-2, i)
			puts(t, s, x, api.OK)
			w = w.put(x)
		}
		for prio := -3; prio <= 3; prio++ {
			x := r.item(widths, prio, 1000)
			if w.place(x) >= 0 {
				continue
			}
			more := s.Copy()
			puts(t, more, x, api.OK)
			for _, key := range w.put(x).queries() {
				v, is := s.Find(key)
				beaten := slices.ContainsFunc(w.items, func(y Item) bool { return w.contains(y, key) && y.Prio >= prio })
				if w.contains(x, key) && !beaten {
					v, is = 1000, true
				}
				found(t, more, key, v, is)
			}
		}
	}
}

// Putting a range that was absent and deleting it again restores the set; deleting one that was not found leaves what was.
func TestOneLessP13_5(t *testing.T) {
	for _, widths := range shapes() {
		s, w := of(t, widths, odd(widths)...)
		r := newSamples()
		for range 20 {
			x := r.item(widths, extremes()[r.below(11)], 77)
			had := w.place(x) >= 0
			puts(t, s, x, api.OK)
			dels(t, s, x, true)
			if had {
				w = w.del(x)
			}
			lists(t, s, w)
		}
		alike(t, s, w)
		for _, x := range w.items {
			less := s.Copy()
			dels(t, less, x, true)
			for _, key := range w.queries() {
				if y, is := w.best(key); y != x {
					found(t, less, key, y.V, is)
				}
			}
			alike(t, less, w.del(x))
		}
		alike(t, s, w)
	}
}

// A range that is put again: the first one, one in the middle, the last one, or one alone; with another number and with
// the same; beside others of its priority and of others.
func TestPutAgainP13_1(t *testing.T) {
	row := []Item{{"\x10", "\x90", 4, 0}, {"\x11", "\x90", 4, 1}, {"\x10", "\x91", 4, 2}, {"\x00", "\xff", 4, 3}, {"\x50", "\x50", 4, 4}, {"\x10", "\x90", 3, 5}, {"\x11", "\x90", 5, 6}}
	for n := 1; n <= len(row); n++ {
		for i := range n {
			for _, v := range append(extremes(), i) {
				s, w := of(t, []int{1}, row[:n]...)
				again := row[i]
				again.V = v
				for range 3 {
					puts(t, s, again, api.OK)
					w = w.put(again)
					alike(t, s, w)
				}
				want := append(slices.Delete(slices.Clone(row[:n]), i, i+1), again)
				lists(t, s, model{items: want})
				dels(t, s, again, true)
				alike(t, s, w.del(again))
				dels(t, s, again, false)
			}
		}
	}
}

// Everything is put again, and each number is the new one.
func TestAllPutAgainP13_1(t *testing.T) {
	for _, widths := range shapes() {
		s, w := of(t, widths, odd(widths)...)
		for i, x := range w.items {
			x.V = -i - 1
			puts(t, s, x, api.OK)
			w = w.put(x)
			lists(t, s, w)
		}
		alike(t, s, w)
		for i, x := range s.All() {
			if x.V != -i-1 {
				t.Fatalf("%d is the number of range %d", x.V, i)
			}
		}
	}
}

// The same two keys with many priorities are as many ranges, put in several orders, and taken away from either end.
func TestManyPrioritiesP13_1(t *testing.T) {
	r := newSamples()
	for _, step := range []int{1, -1, 7, 30} {
		var l []Item
		for i := range 61 {
			prio := ((i*step)%61 + 61) % 61
			l = append(l, Item{"\x20\x20", "\x2f\x2f", prio - 30, i})
		}
		s, w := of(t, []int{1, 1}, append(l, Item{"\x00\x00", "\xff\xff", 0, 99})...)
		alike(t, s, w)
		for range l {
			at := r.below(len(w.items) - 1)
			switch r.below(3) {
			case 0:
				x, _ := w.best("\x2a\x2a")
				at = w.place(x)
			case 1:
				at = 0
			}
			x := w.items[at]
			dels(t, s, x, true)
			dels(t, s, x, false)
			w = w.del(x)
			alike(t, s, w)
		}
	}
}

// Only the range with both keys and the priority is deleted; its number does not matter.
func TestDelP13_1(t *testing.T) {
	widths := []int{1, 2}
	x := Item{"\x10\x20\x30", "\x40\x50\x60", 5, 1}
	others := []Item{
		{"\x10\x20\x31", "\x40\x50\x60", 5, 1},
		{"\x11\x20\x30", "\x40\x50\x60", 5, 1},
		{"\x10\x20\x30", "\x40\x50\x61", 5, 1},
		{"\x10\x20\x30", "\x41\x50\x60", 5, 1},
		{"\x10\x20\x30", "\x40\x50\x60", 4, 1},
		{"\x10\x20\x30", "\x40\x50\x60", 6, 1},
		{"\x10\x20\x30", "\x40\x50\x60", -5, 1},
		{"\x10\x20\x30", "\x10\x20\x30", 5, 1},
		{"\x40\x50\x60", "\x40\x50\x60", 5, 1},
	}
	s, w := of(t, widths, x)
	more := append(wrong(widths), Item{x.High, x.Low, 5, 1}, Item{x.Low, "", 5, 1}, Item{"", x.High, 5, 1}, Item{"", "", 5, 1}, Item{x.Low + x.High, "", 5, 1}, Item{x.Low[:2], x.Low[2:] + x.High, 5, 1})
	for _, y := range append(more, others...) {
		dels(t, s, y, false)
	}
	alike(t, s, w)
	for _, v := range extremes() {
		dels(t, s, Item{x.Low, x.High, x.Prio, v}, true)
		alike(t, s, model{widths: widths})
		puts(t, s, x, api.OK)
		alike(t, s, w)
	}
	s, w = of(t, widths, append([]Item{x}, others...)...)
	alike(t, s, w)
	for i := range others {
		dels(t, s, others[i], true)
		w = w.del(others[i])
		alike(t, s, w)
		dels(t, s, others[i], false)
	}
	alike(t, s, model{widths, []Item{x}})
}

// Each range of a row is deleted from all others, and then each other one; and put again.
func TestDelOfEachP13_5(t *testing.T) {
	for _, widths := range [][]int{{1}, {2, 1}, {1, 1, 1}} {
		row := odd(widths)
		all, w := of(t, widths, row...)
		for _, x := range w.items {
			s := all.Copy()
			dels(t, s, x, true)
			alike(t, s, w.del(x))
			for _, y := range w.items {
				c := s.Copy()
				dels(t, c, y, y != x)
				lists(t, c, w.del(x).del(y))
				for _, key := range []string{x.Low, x.High, y.Low, y.High} {
					finds(t, c, w.del(x).del(y), key)
				}
			}
			puts(t, s, x, api.OK)
			alike(t, s, w.put(x))
		}
		alike(t, all, w)
	}
}

func TestAllP13_2(t *testing.T) {
	widths := []int{2, 3}
	s, w := of(t, widths, odd(widths)...)
	for _, i := range []int{5, 0, len(w.items) - 1, 7, 8, 0} {
		x := w.items[i]
		dels(t, s, x, true)
		w = w.del(x)
		lists(t, s, w)
		y := w.items[i/2]
		y.V = 1000 + i
		puts(t, s, y, api.OK)
		w = w.put(y)
		lists(t, s, w)
		puts(t, s, x, api.OK)
		w = w.put(x)
		alike(t, s, w)
	}
}

func TestAllWrittenOverP13_2(t *testing.T) {
	widths := []int{2, 1}
	s, w := of(t, widths, odd(widths)...)
	l, other := s.All(), s.All()
	for i := range l {
		l[i] = Item{"x", "y", 8, 9}
	}
	_ = append(l[:0], Item{"y", "z", 8, 9}, Item{"z", "z", 8, 9})
	if !slices.Equal(other, w.items) {
		t.Errorf("%#v", other)
	}
	alike(t, s, w)
}

// The widths that were passed may become something else later; they are not changed.
func TestWidthsWrittenOverP13_1(t *testing.T) {
	for _, now := range []int{0, 1, 3, 16, 17, -1, math.MaxInt, math.MinInt} {
		passed := []int{2, 1, 2}
		s, w := of(t, passed, odd(passed)...)
		c := s.Copy()
		if !slices.Equal(passed, []int{2, 1, 2}) {
			t.Fatal(passed)
		}
		w.widths = []int{2, 1, 2}
		for i := range passed {
			passed[i] = now
		}
		for _, x := range []*Set{s, c, s.Copy()} {
			alike(t, x, w)
			for _, y := range wrong(w.widths) {
				puts(t, x, y, api.ErrForm)
			}
			y := Item{"\x00\x70\x20\x00\x70", "\x70\x00\x30\x70\x00", 7, 7}
			puts(t, x, y, api.OK)
			alike(t, x, w.put(y))
			dels(t, x, y, true)
		}
	}
}

// What was passed may become something else later, and nothing that is answered is a part of it, or of another answer.
func TestOwnMemoryP13_2(t *testing.T) {
	data := []byte("\x12\x34\x56\x78\x9a\xbc")
	passed := unsafe.String(&data[0], len(data))
	w := model{[]int{1, 2}, []Item{{"\x12\x34\x56", "\x78\x9a\xbc", 3, 1}, {"\x12\x34\x56", "\x12\x34\x56", 3, 2}}}
	s := empty(t, w.widths)
	for range 2 { // as new ones, and again
		puts(t, s, Item{passed[:3], passed[3:], 3, 1}, api.OK)
		puts(t, s, Item{passed[:3], passed[:3], 3, 2}, api.OK)
	}
	c := s.Copy()
	answers := append(append(s.All(), s.All()...), c.All()...)
	var texts []string
	for _, x := range answers {
		texts = append(texts, x.Low, x.High)
	}
	for i, p := range texts {
		if within(p, passed) {
			t.Errorf("%x is a part of what was passed", p)
		}
		for _, q := range texts[:i] {
			if within(p, q) {
				t.Errorf("%x and %x are the same memory", p, q)
			}
		}
	}
	clear(data)
	alike(t, s, w)
	alike(t, c, w)
}

// within tells whether part is in the memory of s.
func within(part, s string) bool {
	p, from := uintptr(unsafe.Pointer(unsafe.StringData(part))), uintptr(unsafe.Pointer(unsafe.StringData(s)))
	return from <= p && p < from+uintptr(len(s))
}

// A copy and its original, each changed in each way afterwards, with the other one as it was.
func TestCopyP13_7(t *testing.T) {
	for _, widths := range shapes() {
		row := odd(widths)
		again, other := row[2], newSamples().item(widths, 12345, 6)
		again.V = 999
		changes := []struct {
			set func(s *Set)
			of  func(w model) model
		}{
			{func(s *Set) { puts(t, s, other, api.OK) }, func(w model) model { return w.put(other) }},
			{func(s *Set) { puts(t, s, again, api.OK) }, func(w model) model { return w.put(again) }},
			{func(s *Set) { dels(t, s, row[0], true) }, func(w model) model { return w.del(row[0]) }},
			{func(s *Set) { dels(t, s, row[3], true); puts(t, s, other, api.OK) }, func(w model) model { return w.del(row[3]).put(other) }},
		}
		for _, one := range changes {
			for _, two := range changes {
				s, w := of(t, widths, row...)
				c := s.Copy()
				alike(t, c, w)
				one.set(c)
				alike(t, s, w)
				two.set(s)
				alike(t, c, one.of(w))
				alike(t, s, two.of(w))
			}
		}
	}
}

// Copies are made of sets, and of copies; then all are changed, in different ways.
func TestCopiesP13_7(t *testing.T) {
	r := newSamples()
	for n := range 30 {
		s, w := empty(t, []int{1, 1}), model{widths: []int{1, 1}}
		for i := range n {
			x := few(r, i)
			puts(t, s, x, api.OK)
			w = w.put(x)
		}
		sets, models := []*Set{s}, []model{w}
		for i := range 5 {
			sets = append(sets, sets[i/2].Copy())
			models = append(models, models[i/2])
			alike(t, sets[i+1], models[i+1])
		}
		for i := range sets {
			for j := range 5 {
				x := few(r, 100*i)
				if len(w.items) > 0 && j%2 == 0 {
					x = w.items[r.below(len(w.items))]
					x.V = i
				}
				if i%3 != 0 {
					dels(t, sets[i], x, models[i].place(x) >= 0)
					models[i] = models[i].del(x)
				}
				if i%2 == 0 {
					puts(t, sets[i], x, api.OK)
					models[i] = models[i].put(x)
				}
				for k := range sets {
					lists(t, sets[k], models[k])
					finds(t, sets[k], models[k], x.Low)
				}
			}
		}
		for i := range sets {
			alike(t, sets[i], models[i])
		}
	}
}

// few is a range of two small parts and of a few priorities, so that many are the same, or contain the same keys.
func few(r *samples, v int) Item {
	low := []byte{byte(r.below(3)), byte(r.below(3))}
	high := []byte{low[0] + byte(r.below(3)), low[1] + byte(r.below(3))}
	return Item{string(low), string(high), r.below(4) - 1, v}
}

func TestReadingChangesNothingP13_2(t *testing.T) {
	for _, widths := range shapes() {
		s, w := of(t, widths, odd(widths)...)
		for range 2 {
			for _, key := range w.queries() {
				s.Find(key)
				s.Del(key, key, 1000)
			}
			s.All()
			s.Len()
			s.Copy()
			alike(t, s, w)
		}
	}
}

// All sets of the ranges of numbers from 0 to 3, of up to three of them with up to two priorities: each against a list,
// and the one that is found for a key put again, and deleted.
func TestAllSmallSetsP13_1(t *testing.T) {
	var l []Item
	for low := range 4 {
		for high := low; high < 4; high++ {
			for prio := range 2 {
				l = append(l, Item{string([]byte{byte(low)}), string([]byte{byte(high)}), prio, len(l)})
			}
		}
	}
	for _, a := range l {
		for _, b := range l {
			for _, c := range l {
				testSmall(t, a, b, c)
			}
		}
	}
}

// testSmall puts these ranges, of which some may be the same, and asks for each key.
func testSmall(t *testing.T, l ...Item) {
	t.Helper()
	for i := range l {
		l[i].V = i
	}
	s, w := of(t, []int{1}, l...)
	lists(t, s, w)
	for b := range 5 {
		finds(t, s, w, string([]byte{byte(b)}))
	}
	key := l[0].High
	x, _ := w.best(key)
	x.V = 100
	puts(t, s, x, api.OK)
	finds(t, s, w.put(x), key)
	dels(t, s, x, true)
	finds(t, s, w.del(x), key)
	lists(t, s, w.del(x))
}

// Long rows of acts: of few ranges, of many, and of long ones; more puts than deletes, and then the other way round.
func TestLongRowsP13_1(t *testing.T) {
	r := newSamples()
	var small, many, long []Item
	for i := range 12 {
		small = append(small, few(r, i))
	}
	for i := range 300 {
		many = append(many, few(r, i))
	}
	widths := []int{16, 16, 7, 1}
	for i := range 100 {
		x := r.item(widths, r.below(5), i)
		if i%2 == 0 && i > 0 { // one that differs from another one in its last bytes alone
			y := long[r.below(i)]
			x = Item{y.Low[:39] + "\x00", y.High[:39] + "\xff", y.Prio, i}
		}
		long = append(long, x)
	}
	testRow(t, []int{1, 1}, small, 4000, 7)
	testRow(t, []int{1, 1}, many, 4000, 101)
	testRow(t, widths, long, 3000, 101)
}

// testRow makes so many changes of a set and a list, and compares both after every so many.
func testRow(t *testing.T, widths []int, items []Item, changes, every int) {
	t.Helper()
	r := newSamples()
	s, w := empty(t, widths), model{widths: widths}
	for i := range changes {
		x := items[r.below(len(items))]
		x.V = int(r.next())
		if more := i/(changes/4)%2 == 0; r.below(10) < 7 == more {
			puts(t, s, x, api.OK)
			w = w.put(x)
		} else {
			dels(t, s, x, w.place(x) >= 0)
			w = w.del(x)
		}
		finds(t, s, w, x.Low)
		y := items[r.below(len(items))]
		finds(t, s, w, y.High)
		finds(t, s, w, x.Low[:len(x.Low)-1]+y.Low[len(x.Low)-1:])
		if i%every == 0 {
			alike(t, s, w)
		}
	}
	alike(t, s, w)
}
