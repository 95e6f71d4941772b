package tern

import (
	"iter"
	"math"
	"slices"
	"strings"
	"testing"
	"unsafe"

	"turnout/api"
)

// extremes are numbers at both ends, and around 0.
func extremes() []int {
	return []int{0, 1, -1, 5, math.MaxInt, math.MinInt, math.MaxInt - 1, math.MinInt + 1, math.MaxInt32, math.MinInt32, 1 << 32}
}

// lengths are numbers of bytes: none, one, two, and many.
func lengths() []int { return []int{0, 1, 2, 3, 8, 31, 32, 33, 100} }

// masksOf are masks of n bytes: of no bits, of all, of every other one, of one at either end, and others.
func masksOf(n int) []string {
	r := newSamples()
	l := []string{strings.Repeat("\x00", n), strings.Repeat("\xff", n), strings.Repeat("\xaa", n), strings.Repeat("\x55", n), r.bytes(n), r.bytes(n)}
	if n > 0 {
		l = append(l, flipped(l[0], 0), flipped(l[0], 8*n-1), flipped(l[1], 0), flipped(l[1], 8*n-1), "\xff"+l[0][1:], l[0][1:]+"\xff")
	}
	slices.Sort(l)
	return slices.Compact(l)
}

// odd are items with such masks, with keys of no bits, of all that they may have, and others; each number is the place.
func odd() []Item {
	r := newSamples()
	var l []Item
	for _, n := range lengths() {
		for _, mask := range masksOf(n) {
			keys := []string{strings.Repeat("\x00", n), mask, masked(r.bytes(n), mask)}
			slices.Sort(keys)
			for _, key := range slices.Compact(keys) {
				l = append(l, Item{key, mask, extremes()[r.below(11)], len(l)})
			}
		}
	}
	return l
}

// wrong are items whose key and mask differ in length, or whose key has a bit that the mask does not have.
func wrong() []Item {
	var l []Item
	for _, n := range lengths() {
		for _, mask := range masksOf(n) {
			for _, other := range []string{mask + "\x00", mask + "\xff", "\x00" + mask, mask + mask + "\x00", strings.Repeat("\x00", n+1)} {
				l = append(l, Item{mask, other, 1, 2}, Item{masked(other[:n], mask), other, 1, 2}, Item{other, mask, 1, 2}, Item{strings.Repeat("\x00", n+1), mask, 1, 2})
			}
			for at := range 8 * n {
				if mask[at/8]>>(7-at%8)&1 == 0 {
					l = append(l, Item{flipped(strings.Repeat("\x00", n), at), mask, 1, 2}, Item{flipped(mask, at), mask, 1, 2})
				}
			}
		}
	}
	return l
}

func TestExamplesP12_1(t *testing.T) {
	s := New()
	a, b := Item{"\x10", "\xf0", 1, 7}, Item{"\x12", "\xff", 5, 8}
	puts(t, s, a, api.OK)
	puts(t, s, b, api.OK)
	found(t, s, "\x12", b, true)
	looks(t, s, "\x12", 1)
	found(t, s, "\x13", a, true)
	looks(t, s, "\x13", 2)
	puts(t, s, Item{"\x11", "\xf0", 1, 7}, api.ErrForm)
	found(t, s, "\x12\x12", Item{}, false)
	alike(t, s, model{a, b})
}

func TestEmptyP12_2(t *testing.T) {
	sets := map[string]*Set{"New": New(), "zero": {}, "a copy": New().Copy(), "a copy of zero": (&Set{}).Copy()}
	sets["emptied"], _ = of(t, odd()...)
	for _, x := range odd() {
		dels(t, sets["emptied"], x, true)
	}
	sets["a copy of an emptied one"] = sets["emptied"].Copy()
	for name, s := range sets {
		t.Run(name, func(t *testing.T) {
			alike(t, s, nil)
			alike(t, s.Copy(), nil)
			for _, x := range odd() {
				dels(t, s, x, false)
				found(t, s, x.Key, Item{}, false)
				looks(t, s, x.Key, 0)
			}
			for _, x := range wrong() {
				puts(t, s, x, api.ErrForm)
			}
			alike(t, s, nil)
			x, y := Item{"a", "\xff", 3, 4}, Item{"", "", 0, 0}
			puts(t, s, x, api.OK)
			alike(t, s, model{x})
			puts(t, s, y, api.OK)
			alike(t, s, model{x, y})
		})
	}
}

func TestNilP12_2(t *testing.T) {
	var s *Set
	for _, x := range append(odd(), wrong()...) {
		puts(t, s, x, api.ErrNil)
		dels(t, s, x, false)
		found(t, s, x.Key, Item{}, false)
		looks(t, s, x.Key, 0)
	}
	if s.Masks() != 0 || s.Len() != 0 || len(s.All()) != 0 || s.Copy() != nil {
		t.Error("nil", s.Masks(), s.Len(), s.All(), s.Copy())
	}
}

// What is no item is refused, and changes nothing: neither what is near nor what it would be, cut, filled or masked.
func TestWrongP12_1(t *testing.T) {
	empty := New()
	s, w := of(t, odd()...)
	for _, x := range wrong() {
		for _, y := range []*Set{empty, s} {
			puts(t, y, x, api.ErrForm)
			dels(t, y, x, false)
		}
		if empty.Len() != 0 || empty.Masks() != 0 || s.Len() != len(w) {
			t.Fatalf("%#v changed something", x)
		}
	}
	alike(t, empty, nil)
	alike(t, s, w)
}

// Each item alone, with all bits of strings that it matches or not, one by one.
func TestOneP12_1(t *testing.T) {
	for _, x := range odd() {
		s, w := of(t, x)
		alike(t, s, w)
		alike(t, s.Copy(), w)
		for at := range 8 * len(x.Key) {
			other := flipped(x.Key, at)
			if x.Mask[at/8]>>(7-at%8)&1 == 0 {
				found(t, s, other, x, true)
			} else {
				found(t, s, other, Item{}, false)
			}
			looks(t, s, other, 1)
		}
		dels(t, s, x, true)
		dels(t, s, x, false)
		alike(t, s, nil)
	}
}

func TestExtremesP12_1(t *testing.T) {
	for _, prio := range extremes() {
		for _, v := range extremes() {
			s, w := of(t, Item{"a", "\xff", prio, v}, Item{"", "", prio, v})
			alike(t, s, w)
		}
	}
	var l []Item
	for i, prio := range extremes() { // all match
		mask := "\xff" + strings.Repeat("\x00", i%3)
		l = append(l, Item{masked("abc"[:len(mask)], mask), mask, prio, i}, Item{"\x00\x00\x00"[:len(mask)], "\x00\x00\x00"[:len(mask)], -prio, -i})
	}
	s, w := of(t, l...)
	alike(t, s, w)
	for len(w) > 0 { // the one that is found, again and again
		for _, key := range []string{"abc", "ab", "a"} {
			finds(t, s, w, key)
			if x, is := w.find(key); is {
				dels(t, s, x, true)
				w = w.without(x)
			}
		}
	}
	alike(t, s, nil)
}

// The empty key under the empty mask matches the empty string alone.
func TestEmptyKeyP12_1(t *testing.T) {
	x := Item{"", "", 1, 9}
	s, w := of(t, x, Item{"", "", 0, 8}, Item{"", "", -1, 7}, Item{"\x00", "\x00", 5, 6})
	alike(t, s, w)
	found(t, s, "", x, true)
	looks(t, s, "", 2)
	dels(t, s, x, true)
	found(t, s, "", w[1], true)
	found(t, s, "\x41", w[3], true)
	looks(t, s, "\x41", 1)
	alike(t, s, w[1:])
}

// An item that is put again: the first one, one in the middle, the last one; with another number and with the same.
func TestPutAgainP12_7(t *testing.T) {
	row := []Item{patterned("1-------", 4, 0), patterned("11------", 4, 1), patterned("111-----", 4, 2), patterned("--------", 4, 3), patterned("11111111", 4, 4)}
	for i := range row {
		for _, v := range append(extremes(), i) {
			s, w := of(t, row...)
			again := row[i]
			again.V = v
			for range 3 {
				puts(t, s, again, api.OK)
				w = w.with(again)
				alike(t, s, w)
			}
			want := append(slices.Delete(slices.Clone(row), i, i+1), again)
			lists(t, s, want)
			found(t, s, "\xff", want[0], true)
		}
	}
}

// Everything is put again, and each number is the new one.
func TestAllPutAgainP12_7(t *testing.T) {
	s, w := of(t, odd()...)
	n := s.Masks()
	for i, x := range odd() {
		x.V = -i - 1
		puts(t, s, x, api.OK)
		w = w.with(x)
		if s.Len() != len(w) || s.Masks() != n {
			t.Fatalf("%d items under %d masks", s.Len(), s.Masks())
		}
	}
	alike(t, s, w)
	for i, x := range s.All() {
		if x.V != -i-1 {
			t.Fatalf("%d is the number of item %d", x.V, i)
		}
	}
}

// The same key and mask with many priorities, put in several orders, and taken away from either end.
func TestManyPrioritiesP12_1(t *testing.T) {
	r := newSamples()
	for _, step := range []int{1, -1, 7, 30} {
		var l []Item
		for i := range 61 {
			prio := ((i*step)%61 + 61) % 61
			l = append(l, Item{"\x20", "\xf0", prio - 30, i})
		}
		s, w := of(t, append(l, Item{"\x00", "\x00", 0, 99})...)
		alike(t, s, w)
		for range l {
			at := r.below(len(w) - 1)
			switch r.below(3) {
			case 0:
				x, _ := w.find("\x2a")
				at = w.place(x)
			case 1:
				at = 0
			}
			x := w[at]
			dels(t, s, x, true)
			dels(t, s, x, false)
			w = w.without(x)
			alike(t, s, w)
		}
	}
}

// Two items that match, under each two of some masks: with the same priority the one that was put first is found.
func TestTwoP12_3(t *testing.T) {
	masks := []string{"\x00", "\x80", "\x01", "\xf0", "\x0f", "\xff", "\xaa", "\x55"}
	for _, a := range masks {
		for _, b := range masks {
			if a == b {
				continue
			}
			for _, prio := range extremes() {
				x, y := Item{masked("\x9c", a), a, prio, 1}, Item{masked("\x9c", b), b, prio, 2}
				s, w := of(t, x, y)
				found(t, s, "\x9c", x, true)
				looks(t, s, "\x9c", 2)
				puts(t, s, x, api.OK)
				found(t, s, "\x9c", y, true)
				looks(t, s, "\x9c", 2)
				alike(t, s, w.with(x))
			}
			testGreater(t, Item{masked("\x9c", a), a, 3, 1}, Item{masked("\x9c", b), b, 4, 2})
		}
	}
}

// testGreater puts two items that both match, in either order: y has the greater priority.
func testGreater(t *testing.T, x, y Item) {
	t.Helper()
	for _, l := range [][]Item{{x, y}, {y, x}} {
		s, w := of(t, l...)
		found(t, s, "\x9c", y, true)
		looks(t, s, "\x9c", 1)
		alike(t, s, w)
		dels(t, s, y, true)
		found(t, s, "\x9c", x, true)
		looks(t, s, "\x9c", 1)
		alike(t, s, w.without(y))
	}
}

// Items of one priority, all of which match, are found in the order in which they were put, whatever their masks are.
func TestOrderOfTiesP12_3(t *testing.T) {
	l := []Item{patterned("1-------", 2, 0), patterned("--------", 2, 1), patterned("1-1-1-1-", 2, 2), patterned("-------0", 2, 3), patterned("10101010", 2, 4), patterned("10------", 1, 5)}
	count := 0
	for order := range orders(l) {
		s, w := of(t, order...)
		for range 5 {
			x, _ := w.find("\xaa")
			finds(t, s, w, "\xaa")
			dels(t, s, x, true)
			w = w.without(x)
		}
		found(t, s, "\xaa", l[5], true)
		count++
	}
	if count != 720 {
		t.Errorf("%d orders", count)
	}
}

// If those that match have different priorities, the order of putting does not matter.
func TestAnyOrderP12_5(t *testing.T) {
	l := []Item{
		patterned("1--- ----", 9, 0),
		patterned("11-- ----", -9, 1),
		patterned("1111 0000", 3, 2),
		patterned("0--- ----", 9, 3), // no string matches this one and the first one
		patterned("---- ---0", 0, 4),
		patterned("---- ---- ---- ----", 9, 5),
	}
	first, _ := of(t, l...)
	for order := range orders(l) {
		s, w := of(t, order...)
		lists(t, s, w)
		for a := range 256 {
			for _, key := range []string{string([]byte{byte(a)}), string([]byte{byte(a), 7})} {
				x, is := first.Find(key)
				found(t, s, key, x, is)
				looks(t, s, key, first.Looks(key))
			}
		}
	}
}

// orders yields each order of the items.
func orders(l []Item) iter.Seq[[]Item] {
	return func(yield func([]Item) bool) {
		if len(l) == 0 {
			yield(nil)
			return
		}
		for i := range l {
			rest := slices.Delete(slices.Clone(l), i, i+1)
			for order := range orders(rest) {
				if !yield(append([]Item{l[i]}, order...)) {
					return
				}
			}
		}
	}
}

// What is found is one of those that match, none of which is better.
func TestBestP12_3(t *testing.T) {
	r := newSamples()
	for range 60 {
		s := New()
		for range r.below(40) {
			mask := r.bytes(1)
			puts(t, s, Item{masked(r.bytes(1), mask), mask, r.below(6), r.below(100)}, api.OK)
		}
		all := s.All()
		for a := range 256 {
			key := string([]byte{byte(a)})
			x, is := s.Find(key)
			at := slices.Index(all, x)
			if is && (at < 0 || !Match(x, key)) {
				t.Fatalf("%x: %#v is not there, or does not match", key, x)
			}
			for i, y := range all {
				if Match(y, key) && (!is || y.Prio > x.Prio || y.Prio == x.Prio && i < at) {
					t.Fatalf("%x: %#v rather than %#v", key, x, y)
				}
			}
		}
	}
}

// Bits that no mask has, in strings of each length.
func TestMaskedBitsP12_4(t *testing.T) {
	r := newSamples()
	for _, n := range []int{1, 2, 3, 33} {
		common := r.bytes(n)
		s, w := New(), model{}
		for i := range 20 {
			mask := masked(r.bytes(n), common)
			x := Item{masked(r.bytes(n), mask), mask, r.below(4), i}
			puts(t, s, x, api.OK)
			w = w.with(x)
		}
		for range 50 {
			key := r.bytes(n)
			if r.below(2) == 0 {
				key = filled(w[r.below(len(w))].Key, common, key)
			}
			x, is := w.find(key)
			for range 10 {
				other := filled(key, common, r.bytes(n))
				found(t, s, other, x, is)
				looks(t, s, other, s.Looks(key))
			}
		}
	}
}

// Of an item that is there; of one that differs from it by its key, its mask or its priority alone.
func TestDelP12_1(t *testing.T) {
	x := Item{"\x10\x00", "\xf0\x00", 5, 1}
	others := []Item{
		{"\x20\x00", "\xf0\x00", 5, 1},
		{"\x10\x00", "\x30\x00", 5, 1},
		{"\x10\x00", "\xf0\x00", 4, 1},
		{"\x10\x00", "\xf0\x00", 6, 1},
		{"\x00\x00", "\xf0\x00", 5, 1},
		{"\x10", "\xf0", 5, 1},
		{"", "", 5, 1},
		{"\x10\x00", "\xf0\x01", 5, 1},
		{"\x10\x00", "\xff\xff", -5, 1},
	}
	s, w := of(t, x)
	for _, y := range append(others, wrong()...) {
		dels(t, s, y, false)
	}
	for _, v := range extremes() { // its number does not matter
		dels(t, s, Item{x.Key, x.Mask, x.Prio, v}, true)
		alike(t, s, nil)
		puts(t, s, x, api.OK)
		alike(t, s, w)
	}
	s, w = of(t, append([]Item{x}, others...)...)
	alike(t, s, w)
	for i := range others {
		dels(t, s, others[i], true)
		w = w.without(others[i])
		alike(t, s, w)
		dels(t, s, others[i], false)
	}
	alike(t, s, model{x})
}

// Each item of a row is deleted from all others, and put again: the only ones of their groups, those with a group's
// greatest priority, and others.
func TestDelOfEachP12_2(t *testing.T) {
	row := []Item{
		patterned("0001----", 5, 0),
		patterned("0001----", 4, 1),
		patterned("0001----", 3, 2),
		patterned("0010----", 3, 3),
		patterned("0010----", 5, 4),
		patterned("00------", 4, 5),
		patterned("00010001", 6, 6),
		patterned("00010010", 6, 7),
		patterned("00010010", 2, 8),
		patterned("--------", 2, 9),
		patterned("--------", 5, 10),
	}
	all, w := of(t, row...)
	alike(t, all, w)
	for _, x := range row {
		s := all.Copy()
		dels(t, s, x, true)
		alike(t, s, w.without(x))
		for _, y := range row {
			c := s.Copy()
			dels(t, c, y, y != x)
			alike(t, c, w.without(x).without(y))
		}
		puts(t, s, x, api.OK)
		alike(t, s, w.with(x))
	}
	alike(t, all, w)
}

// How many groups are searched where one's greatest priority is below, equal to and above that of what was found.
func TestLooksP12_2(t *testing.T) {
	s, _ := of(t,
		Item{"\x01", "\xff", 10, 0},
		Item{"\x10", "\xf0", 10, 1}, Item{"\x20", "\xf0", 4, 2},
		Item{"\x00", "\x0f", 7, 3}, Item{"\x01", "\x0f", 3, 4},
		Item{"\x80", "\x80", 4, 5}, Item{"\x00", "\x80", 1, 6},
		Item{"\x00", "\x00", 3, 7},
		Item{"\x40\x40", "\xff\xff", 3, 8},
	)
	tests := []struct {
		key          string
		number, want int
	}{
		{"\x01", 0, 2},     // 10, and the other group with 10
		{"\x11", 1, 2},     // 10
		{"\x20", 3, 3},     // after two groups 7 is found, and no other has as much
		{"\x21", 2, 4},     // 4 is found, a group with 7 is above it, and another one has 4 as well
		{"\x80", 3, 3},     // 7
		{"\x81", 5, 4},     // 4, the last one that there is with as much
		{"\x31", 4, 6},     // 3, and two other groups have 3
		{"\x32", 7, 6},     // 3
		{"\x40\x40", 8, 6}, // the groups with masks of one byte are searched as well
		{"\x40\x41", -1, 6},
		{"", -1, 6},
		{"\x01\x01\x01", -1, 6},
	}
	for _, c := range tests {
		x, is := s.Find(c.key)
		if is != (c.number >= 0) || is && x.V != c.number {
			t.Errorf("%x: %#v, %v", c.key, x, is)
		}
		looks(t, s, c.key, c.want)
	}
}

// Groups whose greatest priority changes by putting and deleting.
func TestLooksAfterChangesP12_2(t *testing.T) {
	low, high := Item{"\x10", "\xf0", 1, 0}, Item{"\x20", "\xf0", 9, 1}
	x := Item{"\x12", "\xff", 5, 2}
	s, _ := of(t, low, x)
	looks(t, s, "\x12", 1)
	looks(t, s, "\x13", 2)
	puts(t, s, high, api.OK) // this does not match, but its group is searched first now
	looks(t, s, "\x12", 2)
	looks(t, s, "\x13", 2)
	looks(t, s, "\x20", 1)
	dels(t, s, high, true)
	looks(t, s, "\x12", 1)
	puts(t, s, Item{"\x20", "\xf0", 5, 3}, api.OK)
	looks(t, s, "\x12", 2)
	dels(t, s, x, true)
	looks(t, s, "\x12", 1)
	found(t, s, "\x12", low, true)
	dels(t, s, low, true)
	looks(t, s, "\x12", 1)
	found(t, s, "\x12", Item{}, false)
}

// All groups are searched if all items have the same priority, and one at least in any case.
func TestSearchesP12_6(t *testing.T) {
	r := newSamples()
	for n := range 30 {
		s, same := New(), New()
		for i := range n {
			mask := r.bytes(r.below(3))
			x := Item{masked(r.bytes(len(mask)), mask), mask, r.below(7) - 3, i}
			puts(t, s, x, api.OK)
			x.Prio = extremes()[n%11]
			puts(t, same, x, api.OK)
		}
		for range 100 {
			key := r.bytes(r.below(4))
			looks(t, same, key, same.Masks())
			if got := s.Looks(key); got > s.Masks() || got < min(n, 1) {
				t.Fatalf("%x: %d of %d groups are searched", key, got, s.Masks())
			}
		}
	}
}

// Groups with the same greatest priority, and masks of unlike lengths, some of them the beginning of others.
func TestGroupsOfOnePriorityP12_2(t *testing.T) {
	masks := []string{"", "\x00", "\x00\x00", "\x00\xff", "\x7f", "\x7f\x80", "\x80", "\x80\x00", "\xff", "\xff\x00", "\xff\xff"}
	r := newSamples()
	for range 60 {
		s, w := New(), model{}
		for i := range 30 {
			mask := masks[r.below(len(masks))]
			x := Item{masked(r.bytes(len(mask)), mask), mask, r.below(2), i}
			puts(t, s, x, api.OK)
			w = w.with(x)
		}
		alike(t, s, w)
		for len(w) > 0 {
			x := w[r.below(len(w))]
			dels(t, s, x, true)
			w = w.without(x)
			lists(t, s, w)
			finds(t, s, w, x.Key)
		}
	}
}

// Strings that are shorter or longer than the masks, and the empty one.
func TestLengthsP12_1(t *testing.T) {
	var l []Item
	for n := range 6 {
		l = append(l, Item{strings.Repeat("\x00", n), strings.Repeat("\x00", n), n % 3, n}) // each matches all strings of its length
	}
	for skip := range l {
		x := l[skip]
		s, w := of(t, slices.Delete(slices.Clone(l), skip, skip+1)...)
		alike(t, s, w)
		for _, key := range []string{strings.Repeat("\x00", skip), strings.Repeat("\xff", skip)} {
			found(t, s, key, Item{}, false)
			looks(t, s, key, 5)
		}
		puts(t, s, x, api.OK)
		found(t, s, strings.Repeat("\xff", skip), x, true)
		alike(t, s, w.with(x))
	}
	s, _ := of(t, l...)
	found(t, s, strings.Repeat("\x00", 6), Item{}, false)
	found(t, s, strings.Repeat("\x00", 1<<16), Item{}, false)
}

// All items and strings of three bits, at either end of one byte, or of two.
func TestMatchP12_1(t *testing.T) {
	spread := func(n int) []string {
		return []string{string([]byte{byte(n)}), string([]byte{byte(n << 5)}), string([]byte{byte(n), byte(n << 5)}), string([]byte{byte(n >> 1), byte(n << 7)})}
	}
	for key := range 8 {
		for mask := range 8 {
			for s := range 8 {
				for i := range 4 {
					x := Item{spread(key)[i], spread(mask)[i], s, -s}
					matches(t, x, spread(s)[i], s&mask == key)
				}
			}
		}
	}
}

// Items that could not be put match by the same words: none of them does.
func TestMatchWrongP12_1(t *testing.T) {
	for _, x := range wrong() {
		l := []string{"", x.Key, x.Mask, x.Key + "\x00", x.Mask + "\x00"}
		n := min(len(x.Key), len(x.Mask))
		l = append(l, x.Key[:n], x.Mask[:n], masked(x.Key[:n], x.Mask[:n]))
		for _, key := range l {
			matches(t, x, key, false)
		}
	}
	matches(t, Item{"", "\x00", 0, 0}, "", false)
	matches(t, Item{"\x00", "", 0, 0}, "", false)
	matches(t, Item{"", "\x00", 0, 0}, "\x00", false)
	matches(t, Item{"\x00", "", 0, 0}, "\x00", false)
	matches(t, Item{}, "", true)
	matches(t, Item{}, "\x00", false)
}

// Any item and any string, bit by bit.
func TestMatchEachP12_1(t *testing.T) {
	l := append(odd(), wrong()[:200]...)
	for _, x := range odd() {
		for _, key := range queries(model{x}) {
			matches(t, x, key, agree(x, key))
		}
	}
	for _, x := range l {
		for i := 0; i < len(l); i += 7 {
			matches(t, x, l[i].Key, agree(x, l[i].Key))
		}
	}
}

// matches ends the test where the answer of Match is not this one.
func matches(t *testing.T, x Item, key string, want bool) {
	t.Helper()
	if got := Match(x, key); got != want {
		t.Fatalf("%#v matches %x: %v", x, key, got)
	}
}

func TestAllP12_2(t *testing.T) {
	s, w := of(t, odd()...)
	for _, i := range []int{5, 0, len(w) - 1, 30, 31, 0} {
		x := w[i]
		dels(t, s, x, true)
		w = w.without(x)
		lists(t, s, w)
		y := w[i/2]
		y.V = 1000 + i
		puts(t, s, y, api.OK)
		w = w.with(y)
		lists(t, s, w)
		puts(t, s, x, api.OK)
		w = w.with(x)
		lists(t, s, w)
	}
}

func TestAllWrittenOverP12_2(t *testing.T) {
	s, w := of(t, odd()...)
	l, other := s.All(), s.All()
	for i := range l {
		l[i] = Item{"x", "\xff", 8, 9}
	}
	_ = append(l[:0], Item{"y", "\xff", 8, 9}, Item{"z", "\xff", 8, 9})
	if !slices.Equal(other, w) {
		t.Errorf("%#v", other)
	}
	alike(t, s, w)
}

// What was passed may become something else later, and nothing that is answered is a part of it, or of another answer.
func TestOwnMemoryP12_2(t *testing.T) {
	data := []byte("\x12\x34\xff\xff\x00\xf0\x1f")
	passed := unsafe.String(&data[0], len(data))
	want := model{{"\x12\x34", "\xff\xff", 3, 1}, {"\x00", "\xf0", 2, 2}, {"\x12", "\x1f", 2, 3}, {"\x14", "\x1f", 2, 4}}
	s := New()
	for range 2 { // as new ones, and again
		puts(t, s, Item{passed[:2], passed[2:4], 3, 1}, api.OK)
		puts(t, s, Item{passed[4:5], passed[5:6], 2, 2}, api.OK)
		puts(t, s, Item{passed[:1], passed[6:], 2, 3}, api.OK)
		puts(t, s, Item{"\x14", passed[6:], 2, 4}, api.OK)
	}
	answers := append(s.All(), s.All()...)
	answers = append(answers, s.Copy().All()...)
	for _, key := range []string{passed[:2], passed[:2], "\x05", "\x05", "\x32", "\x32"} {
		x, is := s.Find(key)
		if !is {
			t.Fatalf("nothing for %x", key)
		}
		answers = append(answers, x)
	}
	var parts []string
	for _, x := range answers {
		parts = append(parts, x.Key, x.Mask)
	}
	for i, p := range parts {
		if within(p, passed) {
			t.Errorf("%x is a part of what was passed", p)
		}
		for _, q := range parts[:i] {
			if within(p, q) {
				t.Errorf("%x and %x are the same memory", p, q)
			}
		}
	}
	c := s.Copy()
	clear(data)
	alike(t, s, want)
	alike(t, c, want)
}

// within tells whether part is in the memory of s.
func within(part, s string) bool {
	p, from := uintptr(unsafe.Pointer(unsafe.StringData(part))), uintptr(unsafe.Pointer(unsafe.StringData(s)))
	return from <= p && p < from+uintptr(len(s))
}

// Copies are made of sets, and of copies; then all are changed, in different ways.
func TestCopyP12_2(t *testing.T) {
	r := newSamples()
	for n := range 30 {
		s, w := New(), model{}
		for i := range n {
			x := sample(r, i)
			puts(t, s, x, api.OK)
			w = w.with(x)
		}
		sets, models := []*Set{s}, []model{w}
		for i := range 5 {
			sets = append(sets, sets[i/2].Copy())
			models = append(models, models[i/2])
			alike(t, sets[i+1], models[i+1])
		}
		for i := range sets {
			for j := range 5 {
				x := sample(r, 100*i)
				if len(w) > 0 && j%2 == 0 {
					x = w[r.below(len(w))]
					x.V = i
				}
				if i%3 != 0 {
					dels(t, sets[i], x, models[i].place(x) >= 0)
					models[i] = models[i].without(x)
				}
				if i%2 == 0 {
					puts(t, sets[i], x, api.OK)
					models[i] = models[i].with(x)
				}
				for k := range sets {
					lists(t, sets[k], models[k])
					finds(t, sets[k], models[k], x.Key)
				}
			}
		}
		for i := range sets {
			alike(t, sets[i], models[i])
		}
	}
}

// sample is an item of a few masks and priorities, so that many are the same, or match the same strings.
func sample(r *samples, v int) Item {
	masks := []string{"", "\x00", "\x03", "\x06", "\x07", "\x05", "\x03\x00", "\x03\x01"}
	mask := masks[r.below(len(masks))]
	return Item{masked(r.bytes(len(mask)), mask), mask, r.below(4) - 1, v}
}

// What was put and deleted again leaves nothing behind that a copy would have to have as well.
func TestNothingLeftP12_2(t *testing.T) {
	full, _ := of(t, odd()...)
	for _, s := range []*Set{New(), full} {
		copies := func() int { return int(testing.AllocsPerRun(10, func() { s.Copy() })) }
		before := copies()
		for _, x := range []Item{patterned("0110----", 3, 0), patterned("1110---- --------", 77, 0), patterned("0111----", 3, 0)} {
			puts(t, s, x, api.OK)
			dels(t, s, x, true)
		}
		if now := copies(); now > before {
			t.Errorf("a copy takes %d pieces of memory, not %d", now, before)
		}
	}
}

func TestReadingChangesNothingP12_2(t *testing.T) {
	s, w := of(t, odd()...)
	for range 2 {
		for _, key := range queries(w) {
			s.Find(key)
			s.Looks(key)
			s.Del(key, key, 1000)
		}
		s.All()
		s.Len()
		s.Masks()
		s.Copy()
		alike(t, s, w)
	}
}

// All sets of items under the masks of two bits, where each is absent or has one of two priorities: each against a
// list, and the one that is found for a string put again, and deleted.
func TestAllSmallSetsP12_1(t *testing.T) {
	var l []Item
	for _, text := range []string{"--", "0-", "1-", "-0", "-1", "00", "01", "10", "11"} {
		l = append(l, patterned(text+"------", 0, len(l)))
	}
	keys := []string{"\x00", "\x40", "\x80", "\xc0"}
	for code := range 19683 {
		s, w := New(), model{}
		for i := range l {
			x := l[(i+code)%9] // in an order of its own
			if digit := code / int(math.Pow(3, float64(i))) % 3; digit != 0 {
				x.Prio = digit
				puts(t, s, x, api.OK)
				w = w.with(x)
			}
		}
		lists(t, s, w)
		for _, key := range keys {
			finds(t, s, w, key)
		}
		key := keys[code%4]
		if x, is := w.find(key); is {
			x.V = 100
			puts(t, s, x, api.OK)
			finds(t, s, w.with(x), key)
			dels(t, s, x, true)
			finds(t, s, w.without(x), key)
		}
	}
}

// Long rows of acts: of few items, of many, and of long ones; more puts than deletes, and then the other way round.
func TestLongRowsP12_1(t *testing.T) {
	r := newSamples()
	var few, many, long []Item
	for i := range 12 {
		few = append(few, sample(r, i))
	}
	for i := range 300 {
		many = append(many, sample(r, i))
	}
	masks := []string{strings.Repeat("\x00", 40), strings.Repeat("\x0f", 40), strings.Repeat("\xff", 40), strings.Repeat("\xff", 39) + "\xfe", "\x01" + strings.Repeat("\x00", 39)}
	base := r.bytes(40)
	for i := range 100 {
		mask := masks[r.below(5)]
		long = append(long, Item{masked(flipped(base, r.below(3)*159), mask), mask, r.below(5), i})
	}
	testRow(t, few, 4000, 7)
	testRow(t, many, 4000, 101)
	testRow(t, long, 3000, 101)
}

// testRow makes so many changes of a set and a list, and compares both after every so many.
func testRow(t *testing.T, items []Item, changes, every int) {
	t.Helper()
	r := newSamples()
	s, w := New(), model{}
	for i := range changes {
		x := items[r.below(len(items))]
		x.V = int(r.next())
		if more := i/(changes/4)%2 == 0; r.below(10) < 7 == more {
			puts(t, s, x, api.OK)
			w = w.with(x)
		} else {
			dels(t, s, x, w.place(x) >= 0)
			w = w.without(x)
		}
		finds(t, s, w, x.Key)
		y := items[r.below(len(items))]
		finds(t, s, w, filled(y.Key, y.Mask, r.bytes(len(y.Key))))
		if i%every == 0 {
			alike(t, s, w)
		}
	}
	alike(t, s, w)
}

// The same calls have the same answers.
func TestSameAgainP12_5(t *testing.T) {
	run := func() (*Set, []int) {
		r, s := newSamples(), New()
		var answers []int
		for i := range 2000 {
			mask := masksOf(1 + r.below(2))[r.below(8)]
			x := Item{masked(r.bytes(len(mask)), mask), mask, r.below(9), i}
			if puts(t, s, x, api.OK); r.below(3) == 0 {
				x, _ := s.Find(r.bytes(1))
				s.Del(x.Key, x.Mask, x.Prio)
				answers = append(answers, x.V)
			}
			answers = append(answers, s.Looks(r.bytes(2)))
		}
		return s, answers
	}
	a, said := run()
	b, again := run()
	if !slices.Equal(a.All(), b.All()) || !slices.Equal(said, again) || a.Len() < 100 {
		t.Errorf("two runs differ, or have only %d items", a.Len())
	}
}
