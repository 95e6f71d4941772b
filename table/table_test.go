package table

import (
	"math"
	"slices"
	"strings"
	"testing"
	"unsafe"

	"turnout/api"
)

// instants are times around both ends, and some between.
func instants() []int64 {
	return []int64{math.MinInt64, math.MinInt64 + 1, -1 << 40, -1, 0, 1, 2, 5, 100, 1<<40 - 1, 1 << 40, 1<<40 + 1, 1 << 41, math.MaxInt64 - 1, math.MaxInt64}
}

// plain is the least that is valid for a table of this kind with keys of n bytes, other than by its Key.
func plain(kind uint8, key string) api.Entry {
	x := api.Entry{Table: tableID, Key: key, Block: 1}
	switch kind {
	case api.Prefix:
		x.Len = 8 * len(key)
	case api.Ternary:
		x.Other = strings.Repeat("\xff", len(key))
	case api.Range:
		x.Other = key
	}
	return x
}

func TestExamplesP14_1(t *testing.T) {
	s, w := empty(t, api.Exact, []int{1}, 4)
	a := api.Entry{Table: tableID, Key: "a", Block: 1, Hard: 10}
	puts(t, s, a, 5, api.OK)
	w = w.put(a, 5)
	w = finds(t, s, w, "a", 6)
	alike(t, s, w)
	if due, is := s.Due(); due != 15 || !is {
		t.Errorf("due %d, %v", due, is)
	}
	if l := s.Expire(14); len(l) != 0 {
		t.Errorf("%#v", l)
	}
	if l := s.Expire(15); len(l) != 1 || !equal(l[0].Entry, a) || l[0].Tag != 1 || s.Len() != 0 {
		t.Errorf("%#v", l)
	}
	s, _ = empty(t, api.Prefix, []int{1}, 4)
	puts(t, s, api.Entry{Table: tableID, Key: "\xc0", Len: 2, Block: 1}, 0, api.OK)
	puts(t, s, api.Entry{Table: tableID, Key: "\xc0", Len: 8, Block: 2}, 0, api.OK)
	found(t, s, "\xc0", 2)
	found(t, s, "\xc1", 1)
	s, _ = empty(t, api.Range, []int{1, 1}, 4)
	puts(t, s, api.Entry{Table: tableID, Key: "\x01\x01", Other: "\x02\x02", Block: 3}, 0, api.OK)
	found(t, s, "\x01\x02", 3)
	found(t, s, "\x01\x03", 0)
	s, _ = empty(t, api.Exact, []int{1}, 4)
	puts(t, s, api.Entry{Table: tableID, Key: "a", Block: 1, Idle: 4}, 5, api.OK)
	s.Find("a", 7)
	if due, is := s.Due(); due != 11 || !is {
		t.Errorf("due %d, %v", due, is)
	}
}

// found ends the test where what is found for key does not have this block; 0 where nothing may be found.
func found(t *testing.T, s *Store, key string, block int) {
	t.Helper()
	x, is := s.Look(key)
	if x.Block != block || is != (block > 0) {
		t.Fatalf("for %x: %#v, %v, not block %d", key, x, is, block)
	}
	if y, had := s.Find(key, 3); !equal(x, y) || is != had {
		t.Fatalf("for %x: %#v, %v, and not %#v, %v", key, y, had, x, is)
	}
}

// may ends the test where MayTable, or New, does not answer whether a table is valid.
func may(t *testing.T, def api.Table, widths []int, valid bool) {
	t.Helper()
	if got := MayTable(def, widths); got != valid {
		t.Fatalf("%#v, %v: valid: %v", def, widths, got)
	}
	s, e := New(def, widths)
	if valid && (s == nil || e != api.OK) || !valid && (s != nil || e != api.ErrForm) {
		t.Fatalf("%#v, %v: %v, error %d", def, widths, s, e)
	}
	if valid {
		alike(t, s, model{table: def, widths: widths})
	}
}

func TestTablesP14_1(t *testing.T) {
	for _, kind := range kinds() {
		for _, widths := range shapes() {
			for _, most := range []int{1, 2, 255, 256} {
				may(t, definition(kind, len(widths), most), widths, true)
			}
		}
	}
	may(t, api.Table{}, nil, false)
	may(t, api.Table{}, []int{1}, false)
	may(t, api.Table{ID: 1, Kind: 1, Keys: []int{0}, Cap: 1}, []int{1}, true)
}

// One part of a table at a time is at an edge, or beyond.
func TestTablePartsP14_1(t *testing.T) {
	for _, kind := range kinds() {
		for n, valid := range map[int]bool{0: false, 1: true, 2: true, 65533: true, 65534: true, 65535: false, 65536: false, -1: false, 1 << 32: false, 1<<32 + 1: false, math.MaxInt: false, math.MinInt: false} {
			def := definition(kind, 2, 9)
			def.ID = n
			may(t, def, []int{1, 2}, valid)
			def = definition(kind, 2, 9)
			def.Miss = n
			may(t, def, []int{1, 2}, valid || n == 0)
		}
		for n, valid := range map[int]bool{0: false, 1: true, 2: true, 255: true, 256: true, 257: false, 512: false, -1: false, 1<<32 + 1: false, math.MaxInt: false, math.MinInt: false} {
			may(t, definition(kind, 2, n), []int{1, 2}, valid)
		}
	}
	for n := range 256 {
		def := definition(1, 2, 9)
		def.Kind = uint8(n)
		may(t, def, []int{1, 2}, n >= 1 && n <= 4)
	}
}

// Tables with as many Keys as widths, and not as many; which fields they are does not matter.
func TestTableKeysP14_1(t *testing.T) {
	for _, kind := range kinds() {
		for n := range 8 {
			for m := range 8 {
				def := definition(kind, 1, 9)
				def.Keys = slices.Repeat([]int{3}, n)
				may(t, def, slices.Repeat([]int{2}, m), n == m && n >= 1 && n <= 4)
			}
		}
		for _, id := range []int{0, -1, 1, 65535, math.MaxInt, math.MinInt} {
			may(t, api.Table{ID: 1, Kind: kind, Keys: []int{id, 5, id}, Cap: 1}, []int{1, 2, 3}, true)
		}
	}
}

// One width that is at an edge, or beyond, at each place among others; and sums of widths around MaxKey.
func TestTableWidthsP14_1(t *testing.T) {
	for _, kind := range kinds() {
		for _, width := range []int{0, 1, 2, 15, 16, 17, 18, 32, 33, 256, 257, -1, -16, 1<<32 + 1, math.MaxInt, math.MinInt} {
			for n := 1; n <= 4; n++ {
				for at := range n {
					widths := slices.Repeat([]int{1}, n)
					widths[at] = width
					may(t, definition(kind, n, 9), widths, width >= 1 && width <= 16)
				}
			}
		}
		for _, widths := range [][]int{{16, 16}, {16, 15, 1}, {1, 15, 16}, {8, 8, 8, 8}, {15, 15, 1, 1}, {10, 10, 11, 1}, {16, 14, 1, 1}} {
			may(t, definition(kind, len(widths), 9), widths, true)
		}
		for _, widths := range [][]int{{16, 16, 1}, {1, 16, 16}, {11, 11, 11}, {16, 15, 1, 1}, {8, 8, 8, 9}, {9, 8, 8, 8}, {16, 16, 16}, {16, 16, 16, 16}, {17, 15}, {33, -1}, {-1, 16}, {math.MaxInt, math.MaxInt}, {math.MaxInt, math.MaxInt, 16}, {math.MinInt, math.MinInt}} {
			may(t, definition(kind, len(widths), 9), widths, false)
		}
	}
}

// change is an entry with a change, and whether it is valid.
type change struct {
	to    func(x *api.Entry)
	valid bool
}

// changes are changes of an entry that is valid for tables of a kind, whose Key has 2 bytes or more.
func changes(kind uint8) []change {
	var l []change
	add := func(valid bool, to func(x *api.Entry)) { l = append(l, change{to, valid}) }
	for _, n := range []int{0, -1, 1, tableID - 1, tableID + 1, 65535, tableID + 65536, math.MaxInt, math.MinInt} {
		add(false, func(x *api.Entry) { x.Table = n })
	}
	for n, valid := range map[int]bool{0: false, 1: true, 2: true, 65533: true, 65534: true, 65535: false, 65536: false, 65537: false, -1: false, 1<<32 + 1: false, math.MaxInt: false, math.MinInt: false} {
		add(valid, func(x *api.Entry) { x.Block = n })
	}
	for n := range 9 {
		add(n <= 4, func(x *api.Entry) { x.Args = slices.Repeat([]uint64{math.MaxUint64}, n) })
	}
	for n, valid := range map[int64]bool{0: true, 1: true, 5: true, 1<<40 - 1: true, 1 << 40: true, 1<<40 + 1: false, 1 << 41: false, -1: false, -1 << 40: false, math.MaxInt64: false, math.MinInt64: false} {
		add(valid, func(x *api.Entry) { x.Idle = n })
		add(valid, func(x *api.Entry) { x.Hard = n })
	}
	for _, n := range []uint64{0, 1, math.MaxUint64} {
		add(true, func(x *api.Entry) { x.Cookie = n })
	}
	for _, is := range []bool{true, false} {
		add(true, func(x *api.Entry) { x.Tell = is })
	}
	add(false, func(x *api.Entry) { x.Key = "" })
	add(false, func(x *api.Entry) { x.Key = x.Key[1:] })
	add(false, func(x *api.Entry) { x.Key = x.Key[:len(x.Key)-1] })
	add(false, func(x *api.Entry) { x.Key += "\x00" })
	add(false, func(x *api.Entry) { x.Key += x.Key })
	numbers := map[int]bool{-1: false, 1: true, 5: true, 65536: true, math.MaxInt32: true, 1 << 31: false, 1 << 32: false, 1<<32 + 1: false, math.MaxInt: false, math.MinInt: false}
	for n, valid := range numbers {
		add(valid && kind >= 3, func(x *api.Entry) { x.Prio = n })
		if kind != api.Prefix {
			add(false, func(x *api.Entry) { x.Len = n })
		}
	}
	if kind >= 3 {
		add(false, func(x *api.Entry) { x.Other = "" })
		add(false, func(x *api.Entry) { x.Other = x.Other[1:] })
		add(false, func(x *api.Entry) { x.Other = x.Other[:len(x.Other)-1] })
		add(false, func(x *api.Entry) { x.Other += "\xff" })
		add(false, func(x *api.Entry) { x.Key, x.Other = x.Key+"\x01", x.Other+"\x01" })
		add(false, func(x *api.Entry) { x.Key, x.Other = x.Key[1:], x.Other[1:] })
	} else {
		add(false, func(x *api.Entry) { x.Other = "\x00" })
		add(false, func(x *api.Entry) { x.Other = x.Key })
		add(false, func(x *api.Entry) { x.Other = strings.Repeat("\x00", len(x.Key)) })
		add(false, func(x *api.Entry) { x.Other = strings.Repeat("\xff", len(x.Key)) })
	}
	return l
}

// refused ends the test where x is not refused, or something is not as it was then.
func refused(t *testing.T, s *Store, w model, x api.Entry) {
	t.Helper()
	for _, now := range []int64{-1, 0, 1000} {
		puts(t, s, x, now, api.ErrForm)
	}
	lists(t, s, w)
}

// accepted ends the test where x is not put.
func accepted(t *testing.T, s *Store, w model, x api.Entry) {
	t.Helper()
	s = s.Copy()
	puts(t, s, x, 1000, api.OK)
	lists(t, s, w.put(x, 1000))
	looks(t, s, w.put(x, 1000), x.Key)
}

func TestEntriesP14_1(t *testing.T) {
	r := newSamples()
	for _, kind := range kinds() {
		for _, widths := range shapes() {
			if size(widths) < 2 {
				continue
			}
			s, w := of(t, kind, widths, r.entry(kind, widths, r.bytes), r.entry(kind, widths, r.bytes))
			for _, base := range []api.Entry{w.rows[1].x, r.entry(kind, widths, r.bytes), plain(kind, strings.Repeat("\x00", size(widths))), plain(kind, strings.Repeat("\xff", size(widths)))} {
				accepted(t, s, w, base)
				for _, c := range changes(kind) {
					x := base
					c.to(&x)
					if c.valid {
						accepted(t, s, w, x)
					} else {
						refused(t, s, w, x)
					}
				}
			}
			alike(t, s, w)
		}
	}
}

// All lengths of a prefix, with no bit behind it, and with each one.
func TestPrefixEntriesP14_1(t *testing.T) {
	for _, widths := range [][]int{{1}, {1, 2}, {16, 16}} {
		n := 8 * size(widths)
		s, w := empty(t, api.Prefix, widths, 9)
		for size := 0; size <= n; size++ {
			for _, bit := range []string{"0", "1"} {
				bits := strings.Repeat(bit, size) + strings.Repeat("0", n-size)
				x := api.Entry{Table: tableID, Key: packed(bits), Len: size, Block: 1}
				accepted(t, s, w, x)
				for at := size; at < n; at++ {
					x.Key = packed(bits[:at] + "1" + bits[at+1:])
					refused(t, s, w, x)
				}
			}
		}
		for _, key := range []string{packed(strings.Repeat("0", n)), packed(strings.Repeat("1", n))} {
			for _, size := range []int{-1, -8, n + 1, n + 8, 2 * n, 1 << 32, 1<<32 + n, math.MaxInt, math.MaxInt - 7, math.MinInt} {
				refused(t, s, w, api.Entry{Table: tableID, Key: key, Len: size, Block: 1})
			}
			accepted(t, s, w, api.Entry{Table: tableID, Key: key, Len: n, Block: 1})
		}
	}
}

// Each bit of a Key, with and without the one of Other.
func TestTernaryEntriesP14_1(t *testing.T) {
	for _, widths := range [][]int{{1}, {1, 2}, {16, 16}} {
		n := 8 * size(widths)
		s, w := empty(t, api.Ternary, widths, 9)
		none, all := strings.Repeat("0", n), strings.Repeat("1", n)
		accepted(t, s, w, api.Entry{Table: tableID, Key: packed(none), Other: packed(none), Block: 1})
		accepted(t, s, w, api.Entry{Table: tableID, Key: packed(all), Other: packed(all), Block: 1})
		for at := range n {
			one, others := none[:at]+"1"+none[at+1:], all[:at]+"0"+all[at+1:]
			for _, mask := range []string{one, all} {
				accepted(t, s, w, api.Entry{Table: tableID, Key: packed(one), Other: packed(mask), Block: 1})
				accepted(t, s, w, api.Entry{Table: tableID, Key: packed(none), Other: packed(mask), Block: 1})
			}
			for _, mask := range []string{none, others} {
				refused(t, s, w, api.Entry{Table: tableID, Key: packed(one), Other: packed(mask), Block: 1})
				refused(t, s, w, api.Entry{Table: tableID, Key: packed(all), Other: packed(mask), Block: 1})
			}
			accepted(t, s, w, api.Entry{Table: tableID, Key: packed(others), Other: packed(others), Block: 1})
		}
	}
}

// Each field of a Key is below, equal to or above that of Other, in all ways.
func TestRangeEntriesP14_1(t *testing.T) {
	pairs := [][2]string{{"\x40\x80", "\x40\x81"}, {"\x40\x80", "\x41\x00"}, {"\x7f\xff", "\x80\x00"}, {"\x00\x00", "\xff\xff"}, {"\x40\x80", "\x40\x80"}, {"\x40\x81", "\x40\x80"}, {"\x41\x00", "\x40\xff"}, {"\x80\x00", "\x7f\xff"}, {"\xff\xff", "\x00\x00"}}
	const right = 5 // of the pairs
	s, w := empty(t, api.Range, []int{2, 2, 2}, 9)
	for i, a := range pairs {
		for j, b := range pairs {
			for k, c := range pairs {
				x := api.Entry{Table: tableID, Key: a[0] + b[0] + c[0], Other: a[1] + b[1] + c[1], Block: 1}
				if max(i, j, k) < right {
					accepted(t, s, w, x)
				} else {
					refused(t, s, w, x)
				}
			}
		}
	}
	s, w = empty(t, api.Range, []int{6}, 9) // as one field, only the first pair decides, or the second one if that is equal
	accepted(t, s, w, api.Entry{Table: tableID, Key: "\x40\x80\x41\x00\x00\x00", Other: "\x40\x81\x40\xff\x00\x00", Block: 1})
	refused(t, s, w, api.Entry{Table: tableID, Key: "\x40\x80\x41\x00\x00\x00", Other: "\x40\x80\x40\xff\x00\x00", Block: 1})
}

// What a kind does not have is refused, though another kind has it: entries that are valid for one kind, for each other.
func TestEntriesOfOtherKindsP14_1(t *testing.T) {
	r := newSamples()
	for _, first := range kinds() {
		for range 40 {
			x := r.entry(first, []int{1, 1}, r.few)
			if first == api.Prefix {
				x.Len = max(x.Len, 1)
			}
			for _, kind := range kinds() {
				s, w := empty(t, kind, []int{1, 1}, 9)
				twins := first >= 3 && kind >= 3 // both have the same parts
				switch {
				case first == kind || twins && kind == api.Ternary && under(x.Key, x.Other) == x.Key || twins && kind == api.Range && x.Key[0] <= x.Other[0] && x.Key[1] <= x.Other[1]:
					accepted(t, s, w, x)
				case first == api.Exact && kind == api.Prefix: // a prefix of no bits
					if x.Key == "\x00\x00" {
						accepted(t, s, w, x)
					} else {
						refused(t, s, w, x)
					}
				default:
					refused(t, s, w, x)
				}
			}
		}
	}
}

// A nil table is ahead of an entry that is not valid, and that one ahead of a full table.
func TestErrorsInOrderP14_1(t *testing.T) {
	var none *Store
	for _, kind := range kinds() {
		s, w := empty(t, kind, []int{1, 1}, 1)
		base := plain(kind, "ab")
		for _, full := range []bool{false, true} {
			if full {
				x := plain(kind, "zz")
				puts(t, s, x, 7, api.OK)
				w = w.put(x, 7)
				puts(t, s, base, 8, api.ErrFull)
			}
			for _, c := range changes(kind) {
				x := base
				c.to(&x)
				puts(t, none, x, 0, api.ErrNil)
				if !c.valid {
					puts(t, s, x, 8, api.ErrForm)
				} else if full {
					puts(t, s, x, 8, api.ErrFull)
				}
				lists(t, s, w)
			}
		}
		alike(t, s, w)
	}
}

func TestOneP14_1(t *testing.T) {
	r := newSamples()
	parts := []func(x *api.Entry){
		func(x *api.Entry) { x.Table++ },
		func(x *api.Entry) { x.Table = -x.Table },
		func(x *api.Entry) { x.Key += "\x00" },
		func(x *api.Entry) { x.Key = "" },
		func(x *api.Entry) { x.Other += "\x00" },
		func(x *api.Entry) { x.Other = x.Key + "a" },
		func(x *api.Entry) { x.Len++ },
		func(x *api.Entry) { x.Len = -1 - x.Len },
		func(x *api.Entry) { x.Prio += 1 << 32 },
		func(x *api.Entry) { x.Prio = -1 - x.Prio },
		func(x *api.Entry) { x.Key, x.Other = x.Key+"a", x.Other+"a" },
		func(x *api.Entry) { x.Len, x.Prio = x.Len+1, x.Prio-1 },
	}
	others := []func(x *api.Entry){
		func(x *api.Entry) { x.Block = -5 },
		func(x *api.Entry) { x.Args = nil },
		func(x *api.Entry) { x.Args = []uint64{1, 2, 3, 4, 5, 6} },
		func(x *api.Entry) { x.Idle++ },
		func(x *api.Entry) { x.Hard++ },
		func(x *api.Entry) { x.Cookie++ },
		func(x *api.Entry) { x.Tell = !x.Tell },
	}
	for _, kind := range kinds() {
		for range 20 {
			a := r.entry(kind, []int{1, 2}, r.bytes)
			if !One(a, a) || !One(api.Entry{}, api.Entry{}) {
				t.Fatalf("%#v is not the same as itself", a)
			}
			for _, part := range parts {
				b := a
				part(&b)
				if One(a, b) || One(b, a) {
					t.Errorf("%#v and %#v are the same", a, b)
				}
			}
			b := a
			for _, part := range others {
				part(&b)
				if !One(a, b) || !One(b, a) {
					t.Errorf("%#v and %#v are not the same", a, b)
				}
			}
		}
	}
}

func TestNilP14_3(t *testing.T) {
	var s *Store
	r := newSamples()
	for _, kind := range kinds() {
		x := r.entry(kind, []int{1, 2}, r.bytes)
		for _, y := range []api.Entry{x, {}, {Table: -1, Len: -1}} {
			dels(t, s, y, false)
			for _, now := range instants() {
				puts(t, s, y, now, api.ErrNil)
				if z, is := s.Find(y.Key, now); !equal(z, api.Entry{}) || is {
					t.Errorf("%#v, %v", z, is)
				}
				if l := s.Expire(now); len(l) != 0 {
					t.Errorf("%#v", l)
				}
			}
			if z, is := s.Look(y.Key); !equal(z, api.Entry{}) || is {
				t.Errorf("%#v, %v", z, is)
			}
		}
	}
	if due, is := s.Due(); due != 0 || is || s.Len() != 0 || len(s.Entries()) != 0 || s.Copy() != nil || !equalTables(s.Table(), api.Table{}) {
		t.Error(due, is, s.Len(), s.Entries(), s.Copy(), s.Table())
	}
}

// A Store that New did not make is of no kind, and so no entry is valid for it.
func TestZeroP14_3(t *testing.T) {
	for _, s := range []*Store{{}, (&Store{}).Copy()} {
		r := newSamples()
		for _, kind := range kinds() {
			x := r.entry(kind, []int{1}, r.bytes)
			for _, y := range []api.Entry{x, {}, {Block: 1}, {Block: 1, Key: "a"}, {Block: 1, Prio: 1}, {Table: 1, Block: 1}} {
				puts(t, s, y, 5, api.ErrForm)
				dels(t, s, y, false)
				for _, key := range []string{"", "a", y.Key} {
					found(t, s, key, 0)
				}
			}
		}
		lists(t, s, model{})
		lists(t, s.Copy(), model{})
		if l := s.Expire(5); len(l) != 0 {
			t.Errorf("%#v", l)
		}
	}
}

func TestEmptyP14_3(t *testing.T) {
	r := newSamples()
	for _, kind := range kinds() {
		for _, widths := range shapes() {
			x, y := r.entry(kind, widths, r.bytes), r.entry(kind, widths, r.bytes)
			s, w := empty(t, kind, widths, 9)
			emptied, _ := empty(t, kind, widths, 9)
			for _, z := range []api.Entry{x, y} {
				puts(t, emptied, z, 9, api.OK)
			}
			for _, z := range []api.Entry{x, y} {
				dels(t, emptied, z, true)
			}
			for _, s := range []*Store{s, emptied, s.Copy(), emptied.Copy()} {
				alike(t, s, w)
				for _, now := range instants() {
					finds(t, s, w, x.Key, now)
					expires(t, s, w, now)
				}
				dels(t, s, x, false)
				alike(t, s, w)
				puts(t, s, x, 9, api.OK)
				alike(t, s, w.put(x, 9))
			}
		}
	}
}

// Keys of other lengths find nothing, whatever there is, also an entry that matches all keys.
func TestOtherLengthsP14_2(t *testing.T) {
	for _, kind := range kinds() {
		for _, widths := range shapes() {
			n := size(widths)
			x := plain(kind, strings.Repeat("\x00", n))
			if kind != api.Exact {
				x.Len, x.Other = 0, ""
			}
			switch kind {
			case api.Ternary:
				x.Other = strings.Repeat("\x00", n)
			case api.Range:
				x.Other = strings.Repeat("\xff", n)
			}
			x.Idle = 5
			s, w := of(t, kind, widths, x)
			for m := range 70 {
				key := strings.Repeat("\x00", m)
				w = finds(t, s, w, key, int64(300+m))
				if _, is := s.Look(key); is != (m == n) {
					t.Errorf("kind %d, %d bytes, key of %d: %v", kind, n, m, is)
				}
			}
			alike(t, s, w)
		}
	}
}

// Several entries match, with equal and with different Prio or Len, put in all orders.
func TestSeveralMatchP14_4(t *testing.T) {
	rows := map[uint8][]api.Entry{
		api.Prefix: {
			{Key: "\x00\x00", Len: 0}, {Key: "\x80\x00", Len: 1}, {Key: "\x80\xf0", Len: 12}, {Key: "\x80\xf0", Len: 13}, {Key: "\x80\xf1", Len: 16},
		},
		api.Ternary: {
			{Key: "\x00\x00", Other: "\x00\x00", Prio: 5}, {Key: "\x80\xf1", Other: "\xff\xff", Prio: 5}, {Key: "\x80\x00", Other: "\xff\x00", Prio: 4}, {Key: "\x80\x01", Other: "\x80\x01", Prio: 6}, {Key: "\x80\xf1", Other: "\xff\xff", Prio: 6},
		},
		api.Range: {
			{Key: "\x00\x00", Other: "\xff\xff", Prio: 5}, {Key: "\x80\xf1", Other: "\x80\xf1", Prio: 5}, {Key: "\x7f\x00", Other: "\x81\xff", Prio: 4}, {Key: "\x80\xf1", Other: "\x80\xf2", Prio: 6}, {Key: "\x80\xf0", Other: "\x80\xf1", Prio: 6},
		},
	}
	for kind, l := range rows {
		for i := range l {
			l[i].Table, l[i].Block = tableID, i+1
		}
		for _, order := range orders(l) {
			s, w := of(t, kind, []int{1, 1}, order...)
			for range order {
				alike(t, s, w)
				w = finds(t, s, w, "\x80\xf1", 500)
				x := w.rows[w.best("\x80\xf1")].x
				dels(t, s, x, true)
				w = w.del(x)
			}
			found(t, s, "\x80\xf1", 0)
		}
	}
}

// orders are all orders of the entries.
func orders(l []api.Entry) [][]api.Entry {
	if len(l) == 0 {
		return [][]api.Entry{nil}
	}
	var all [][]api.Entry
	for i := range l {
		for _, order := range orders(slices.Delete(slices.Clone(l), i, i+1)) {
			all = append(all, append([]api.Entry{l[i]}, order...))
		}
	}
	return all
}

// What is found matches, and none of the others that match has a greater Len or Prio, or the same one and was put first.
func TestFoundP14_4(t *testing.T) {
	r := newSamples()
	for _, kind := range kinds() {
		for _, widths := range [][]int{{1}, {1, 2}, {2, 1, 1}, {16, 16}} {
			s, w := empty(t, kind, widths, 256)
			for i := range 40 {
				x := r.entry(kind, widths, r.few)
				puts(t, s, x, int64(i), api.OK)
				w = w.put(x, int64(i))
			}
			hits := 0
			for range 400 {
				key := r.few(size(widths))
				x, is := s.Look(key)
				if is {
					hits++
				}
				before := true
				for _, y := range s.Entries() {
					if is && One(x, y) {
						before = false
					}
					if w.matches(y, key) && (!is || y.Len > x.Len || y.Prio > x.Prio || before && y.Prio == x.Prio && y.Len == x.Len) {
						t.Fatalf("for %x: %#v, and not %#v", key, x, y)
					}
				}
				if is && !w.matches(x, key) {
					t.Fatalf("%#v does not match %x", x, key)
				}
			}
			if hits == 0 && len(widths) == 1 {
				t.Errorf("kind %d: nothing was found", kind)
			}
			alike(t, s, w)
		}
	}
}

// An entry with bits that no key has, since its field has fewer, never matches one of those.
func TestBitsBeyondP14_4(t *testing.T) {
	for _, kind := range kinds() {
		x := plain(kind, "\x80\x01")
		s, w := of(t, kind, []int{1, 1}, x)
		found(t, s, "\x00\x01", 0)
		found(t, s, "\x80\x01", 1)
		alike(t, s, w)
	}
}

// An entry is put again with other contents: the first one, one in the middle, the last one, and one alone.
func TestPutAgainP14_6(t *testing.T) {
	r := newSamples()
	for _, kind := range kinds() {
		row := different(r, kind, []int{1, 1}, 6)
		for n := 1; n <= len(row); n++ {
			for i := range n {
				s, w := of(t, kind, []int{1, 1}, row[:n]...)
				for turn := range 4 {
					x := row[i]
					x.Block, x.Args, x.Cookie, x.Tell = 1000+turn, []uint64{5, uint64(turn)}, uint64(turn), turn%2 == 0
					x.Hard, x.Idle = int64(turn%2*7), int64(turn/2*3)
					now := int64(200 - turn)
					puts(t, s, x, now, api.OK)
					w = w.put(x, now)
					alike(t, s, w)
					if l := s.Entries(); len(l) != n || !equal(l[n-1], x) {
						t.Fatalf("%#v, of which %#v is not the last one", l, x)
					}
					w = finds(t, s, w, x.Key, now+1)
					alike(t, s, w)
				}
				dels(t, s, row[i], true)
				alike(t, s, w.del(row[i]))
			}
		}
	}
}

// different are so many entries, no two of which are the same.
func different(r *samples, kind uint8, widths []int, n int) []api.Entry {
	var l []api.Entry
	for len(l) < n {
		x := r.entry(kind, widths, r.few)
		if !slices.ContainsFunc(l, func(y api.Entry) bool { return One(x, y) }) {
			l = append(l, x)
		}
	}
	return l
}

// The times of an entry that is put again start anew, also at an earlier time.
func TestTimesAnewP14_6(t *testing.T) {
	for _, kind := range kinds() {
		for _, again := range []int64{0, 50, 99, 100, 101, 1000} {
			x := plain(kind, "ab")
			x.Hard, x.Idle = 10, 6
			s, w := of(t, kind, []int{2}, x)
			w = finds(t, s, w, "ab", 103)
			puts(t, s, x, again, api.OK)
			w = w.put(x, again)
			if due, is := s.Due(); due != again+6 || !is {
				t.Fatalf("put again at %d, due %d, %v", again, due, is)
			}
			w = finds(t, s, w, "ab", again+5)
			if due, is := s.Due(); due != again+10 || !is {
				t.Fatalf("put again at %d, due %d, %v", again, due, is)
			}
			alike(t, s, w)
		}
	}
}

// Entries that differ by their Key, their Other, their Len or their Prio alone are not the same.
func TestDifferentP14_6(t *testing.T) {
	rows := map[uint8][]api.Entry{
		api.Exact:   {{Key: "\x80\x00"}, {Key: "\x80\x01"}, {Key: "\x00\x00"}},
		api.Prefix:  {{Key: "\x80\x00", Len: 1}, {Key: "\x80\x00", Len: 2}, {Key: "\x80\x00", Len: 8}, {Key: "\x80\x00", Len: 16}, {Key: "\x00\x00", Len: 1}, {Key: "\x00\x00", Len: 2}, {Key: "\x00\x00"}},
		api.Ternary: {{Key: "\x80\x00", Other: "\x80\x00", Prio: 1}, {Key: "\x80\x00", Other: "\x80\x01", Prio: 1}, {Key: "\x00\x00", Other: "\x80\x00", Prio: 1}, {Key: "\x80\x00", Other: "\x80\x00", Prio: 2}, {Key: "\x80\x00", Other: "\x80\x00"}},
		api.Range:   {{Key: "\x80\x00", Other: "\x80\x00", Prio: 1}, {Key: "\x80\x00", Other: "\x80\x01", Prio: 1}, {Key: "\x00\x00", Other: "\x80\x00", Prio: 1}, {Key: "\x80\x00", Other: "\x80\x00", Prio: 2}, {Key: "\x80\x00", Other: "\x80\x00"}},
	}
	for kind, l := range rows {
		for i := range l {
			l[i].Table, l[i].Block, l[i].Hard = tableID, i+1, int64(i+1)
		}
		s, w := of(t, kind, []int{1, 1}, l...)
		if s.Len() != len(l) {
			t.Fatalf("%d of %d", s.Len(), len(l))
		}
		alike(t, s, w)
		for _, x := range l {
			c := s.Copy()
			x.Block += 100
			puts(t, c, x, 300, api.OK)
			alike(t, c, w.put(x, 300))
			dels(t, c, x, true)
			alike(t, c, w.del(x))
			dels(t, c, x, false)
		}
	}
}

// No two entries are ever the same.
func TestNoTwoAreTheSameP14_6(t *testing.T) {
	r := newSamples()
	for _, kind := range kinds() {
		s, _ := empty(t, kind, []int{1}, 256)
		for i := range 300 {
			s.Put(r.entry(kind, []int{1}, r.few), int64(i))
		}
		l := s.Entries()
		for i, x := range l {
			if slices.ContainsFunc(l[:i], func(y api.Entry) bool { return One(x, y) }) {
				t.Fatalf("%#v is there twice", x)
			}
		}
	}
}

// Only the same entry is deleted, and the rest of it does not matter.
func TestDelP14_1(t *testing.T) {
	r := newSamples()
	for _, kind := range kinds() {
		for _, widths := range [][]int{{1, 1}, {2, 3}, {16, 16}} {
			row := different(r, kind, widths, 5)
			x := row[2]
			only, one := of(t, kind, widths, x)
			s, w := of(t, kind, widths, row...)
			for _, to := range []func(y *api.Entry){
				func(y *api.Entry) { y.Table = 0 }, func(y *api.Entry) { y.Table++ }, func(y *api.Entry) { y.Key += "\x00" }, func(y *api.Entry) { y.Key = y.Key[1:] }, func(y *api.Entry) { y.Key = "" },
				func(y *api.Entry) { y.Other += "\x00" }, func(y *api.Entry) { y.Len = -1 }, func(y *api.Entry) { y.Len += 1 << 32 }, func(y *api.Entry) { y.Prio = -1 }, func(y *api.Entry) { y.Prio += 1 << 32 },
			} {
				y := x
				to(&y)
				dels(t, s, y, false)
				dels(t, only, y, false)
			}
			dels(t, s, api.Entry{}, false)
			lists(t, s, w)
			lists(t, only, one)
			y := x
			y.Block, y.Args, y.Idle, y.Hard, y.Cookie, y.Tell = -1, []uint64{1, 2, 3, 4, 5, 6}, -1, -1, 77, !y.Tell // not even valid
			for _, z := range []api.Entry{x, y} {
				c := s.Copy()
				dels(t, c, z, true)
				alike(t, c, w.del(x))
				dels(t, c, z, false)
				puts(t, c, x, 900, api.OK)
				alike(t, c, w.put(x, 900))
				c = only.Copy()
				dels(t, c, z, true)
				alike(t, c, one.del(x))
				dels(t, c, z, false)
			}
			for _, z := range row {
				dels(t, s, z, true)
				w = w.del(z)
				alike(t, s, w)
			}
		}
	}
}

// There are never more than Cap entries, and with Cap of them only the same ones can be put.
func TestCapacityP14_7(t *testing.T) {
	r := newSamples()
	for _, kind := range kinds() {
		for _, most := range []int{1, 2, 3, 10, 255, 256} {
			row := different(r, kind, []int{2, 2}, most+2)
			s, w := empty(t, kind, []int{2, 2}, most)
			for i, x := range row {
				if i < most {
					puts(t, s, x, 5, api.OK)
					w = w.put(x, 5)
				} else {
					puts(t, s, x, 5, api.ErrFull)
				}
			}
			alike(t, s, w)
			for _, i := range []int{0, most / 2, most - 1, 0} {
				x := row[i]
				x.Block = 4711
				puts(t, s, x, 6, api.OK)
				w = w.put(x, 6)
				puts(t, s, row[most], 6, api.ErrFull)
				lists(t, s, w)
			}
			dels(t, s, row[0], true)
			w = w.del(row[0])
			puts(t, s, row[most], 7, api.OK)
			w = w.put(row[most], 7)
			puts(t, s, row[0], 8, api.ErrFull)
			puts(t, s.Copy(), row[0], 8, api.ErrFull)
			alike(t, s, w)
		}
	}
}

// What has expired makes room.
func TestRoomP14_7(t *testing.T) {
	for _, kind := range kinds() {
		s, w := empty(t, kind, []int{1}, 2)
		a, b, c := plain(kind, "a"), plain(kind, "b"), plain(kind, "c")
		a.Hard = 3
		for _, x := range []api.Entry{a, b} {
			puts(t, s, x, 0, api.OK)
			w = w.put(x, 0)
		}
		puts(t, s, c, 5, api.ErrFull)
		w = expires(t, s, w, 2)
		puts(t, s, c, 5, api.ErrFull)
		w = expires(t, s, w, 3)
		puts(t, s, c, 5, api.OK)
		w = w.put(c, 5)
		puts(t, s, a, 5, api.ErrFull)
		alike(t, s, w)
	}
}

// Times below 0 count as 0, and those above MaxTicks as MaxTicks: at Put, at Find and at Expire.
func TestClampedP14_1(t *testing.T) {
	for _, kind := range kinds() {
		for _, hard := range []int64{0, 1, 7, 1<<40 - 1, 1 << 40} {
			for _, idle := range []int64{0, 1, 5, 1 << 40} {
				for _, put := range instants() {
					x := plain(kind, "a")
					x.Hard, x.Idle = hard, idle
					s, w := empty(t, kind, []int{1}, 2)
					puts(t, s, x, put, api.OK)
					w = w.put(x, put)
					lists(t, s, w)
					for _, use := range instants() {
						testClamped(t, s.Copy(), w, use)
					}
				}
			}
		}
	}
}

// testClamped finds the one entry at a time, and lets it expire at all times.
func testClamped(t *testing.T, s *Store, w model, now int64) {
	t.Helper()
	w = finds(t, s, w, "a", now)
	lists(t, s, w)
	for _, over := range instants() {
		expires(t, s.Copy(), w, over)
	}
}

// Entries with Hard alone, Idle alone, both and neither: one tick before, at and behind the time, with their Tags.
func TestExpireP14_5(t *testing.T) {
	for _, kind := range kinds() {
		for _, c := range []struct {
			hard, idle, used, due int64
			tag                   int
		}{
			{10, 0, 105, 110, 1}, {0, 10, 105, 115, 2}, {0, 10, 100, 110, 2}, {10, 10, 100, 110, 1}, {10, 5, 105, 110, 1}, {10, 5, 104, 109, 2}, {10, 4, 107, 110, 1}, {10, 5, 100, 105, 2}, {1, 1, 100, 101, 1}, {5, 10, 100, 105, 1}, {10, 6, 99, 105, 2}, {0, 0, 100, 0, 0},
		} {
			x := plain(kind, "ab")
			x.Hard, x.Idle = c.hard, c.idle
			s, w := of(t, kind, []int{2}, x)
			w = finds(t, s, w, "ab", c.used)
			if due, is := s.Due(); due != c.due || is != (c.due > 0) {
				t.Fatalf("%v: due %d, %v", c, due, is)
			}
			for _, now := range []int64{c.due - 1, c.due, c.due + 1, 100, 0, -5} {
				over := s.Copy().Expire(now)
				if want := c.due > 0 && now >= c.due; len(over) > 0 != want {
					t.Fatalf("%v: at %d: %#v", c, now, over)
				}
				if now == c.due && c.due > 0 && (len(over) != 1 || over[0].Tag != c.tag || !equal(over[0].Entry, x)) {
					t.Fatalf("%v: at %d: %#v", c, now, over)
				}
				expires(t, s.Copy(), w, now)
			}
			w = expires(t, s, w, 1<<41)
			alike(t, s, w)
		}
	}
}

// Both apply: the Tag is 1, also where Idle was due first.
func TestTagsP14_2(t *testing.T) {
	for _, kind := range kinds() {
		x := plain(kind, "a")
		x.Hard, x.Idle = 10, 3
		s, w := of(t, kind, []int{1}, x)
		for now, tag := range map[int64]int{103: 2, 109: 2, 110: 1, 111: 1, 1 << 40: 1} {
			if l := s.Copy().Expire(now); len(l) != 1 || l[0].Tag != tag {
				t.Errorf("at %d: %#v", now, l)
			}
		}
		alike(t, s, w)
	}
}

// Several expire at once, by different Tags, in order; and all of them.
func TestExpireInOrderP14_2(t *testing.T) {
	for _, kind := range kinds() {
		var l []api.Entry
		for i, c := range [][2]int64{{8, 0}, {0, 0}, {0, 5}, {3, 1}, {4, 0}, {0, 9}, {100, 1}, {0, 0}, {2, 2}} {
			x := plain(kind, string([]byte{byte('a' + i)}))
			x.Hard, x.Idle, x.Block, x.Args = c[0], c[1], i+1, []uint64{uint64(i)}
			l = append(l, x)
		}
		for now := int64(100); now < 220; now++ {
			s, w := of(t, kind, []int{1}, l...)
			w = finds(t, s, w, "c", 105)
			w = expires(t, s, w, now)
			alike(t, s, w)
			w = finds(t, s, w, "f", 300)
			w = expires(t, s, w, 308)
			w = expires(t, s, w, 309)
			alike(t, s, w)
			if s.Len() != 2 {
				t.Fatalf("%d are left", s.Len())
			}
		}
		s, w := of(t, kind, []int{1}, l[2:7]...)
		w = expires(t, s, w, 1000)
		if s.Len() != 0 {
			t.Fatalf("%d are left", s.Len())
		}
		alike(t, s, w)
		puts(t, s, l[0], 1000, api.OK)
		alike(t, s, w.put(l[0], 1000))
	}
}

// An entry expires exactly if it was put at least Hard ticks before, or last put or found at least Idle ticks before;
// nothing expires before Due, and something at it.
func TestExactlyP14_5(t *testing.T) {
	r := newSamples()
	for _, kind := range kinds() {
		for range 60 {
			s, w := empty(t, kind, []int{1}, 256)
			for range r.below(12) {
				x := r.entry(kind, []int{1}, r.few)
				now := int64(r.below(50))
				puts(t, s, x, now, api.OK)
				w = w.put(x, now)
			}
			for range 6 {
				w = finds(t, s, w, r.few(1), int64(r.below(60)))
			}
			due, is := s.Due()
			for now := int64(-2); now < 120; now++ {
				over := s.Copy().Expire(now)
				if len(over) > 0 != (is && now >= due) {
					t.Fatalf("due %d, %v, and at %d: %#v", due, is, now, over)
				}
				for _, x := range w.rows {
					want := x.x.Hard > 0 && x.put <= now-x.x.Hard || x.x.Idle > 0 && x.used <= now-x.x.Idle
					if slices.ContainsFunc(over, func(g Gone) bool { return equal(g.Entry, x.x) }) != want {
						t.Fatalf("at %d, of %#v: %#v", now, x, over)
					}
				}
			}
			alike(t, s, w)
		}
	}
}

// Due above MaxTicks is a time that is never reached.
func TestDueAboveP14_2(t *testing.T) {
	const most = 1 << 40
	for _, kind := range kinds() {
		for _, c := range []struct {
			put, hard, idle, due int64
			expires              bool
		}{
			{most, 1, 0, most + 1, false}, {most, most, 0, 2 * most, false}, {most, 0, most, 2 * most, false}, {most - 1, 1, 0, most, true}, {0, most, 0, most, true}, {1, most, 0, most + 1, false}, {math.MaxInt64, 0, 1, most + 1, false}, {1, most, most - 1, most, true}, {-7, 0, most, most, true},
		} {
			x := plain(kind, "a")
			x.Hard, x.Idle = c.hard, c.idle
			s, w := empty(t, kind, []int{1}, 2)
			puts(t, s, x, c.put, api.OK)
			w = w.put(x, c.put)
			if due, is := s.Due(); due != c.due || !is {
				t.Errorf("%v: due %d, %v", c, due, is)
			}
			for _, now := range []int64{most, most + 1, 2 * most, math.MaxInt64} {
				if l := s.Copy().Expire(now); len(l) > 0 != c.expires {
					t.Errorf("%v: at %d: %#v", c, now, l)
				}
				expires(t, s.Copy(), w, now)
			}
		}
	}
}

// Where nothing expires, nothing is due, and no time removes anything.
func TestNothingDueP14_2(t *testing.T) {
	for _, kind := range kinds() {
		s, w := of(t, kind, []int{1}, plain(kind, "a"), plain(kind, "b"), plain(kind, "c"))
		for _, now := range instants() {
			w = finds(t, s, w, "b", now)
			w = expires(t, s, w, now)
			if due, is := s.Due(); due != 0 || is || s.Len() != 3 {
				t.Fatalf("due %d, %v, %d entries", due, is, s.Len())
			}
		}
	}
}

// An entry that has expired is found until Expire removes it; then the next best one is found.
func TestNextBestP14_2(t *testing.T) {
	rows := map[uint8][]api.Entry{
		api.Exact:   {{Key: "\x80", Block: 1, Hard: 9}, {Key: "\x81", Block: 4}},
		api.Prefix:  {{Key: "\x80", Len: 8, Block: 1, Hard: 9}, {Key: "\x80", Len: 7, Block: 2, Idle: 15}, {Key: "\x80", Len: 1, Block: 3}},
		api.Ternary: {{Key: "\x80", Other: "\x80", Prio: 2, Block: 1, Hard: 9}, {Key: "\x80", Other: "\xf0", Prio: 2, Block: 2, Idle: 15}, {Key: "\x80", Other: "\xff", Prio: 1, Block: 3}},
		api.Range:   {{Key: "\x80", Other: "\x80", Prio: 2, Block: 1, Hard: 9}, {Key: "\x00", Other: "\x80", Prio: 2, Block: 2, Idle: 15}, {Key: "\x00", Other: "\xff", Prio: 1, Block: 3}},
	}
	for kind, l := range rows {
		s, w := empty(t, kind, []int{1}, 4)
		for _, x := range l {
			x.Table = tableID
			puts(t, s, x, 0, api.OK)
			w = w.put(x, 0)
		}
		found(t, s, "\x80", 1)
		w = finds(t, s, w, "\x80", 200)
		w = expires(t, s, w, 8)
		found(t, s, "\x80", 1)
		w = expires(t, s, w, 9)
		if kind == api.Exact {
			found(t, s, "\x80", 0)
			continue
		}
		w = finds(t, s, w, "\x80", 10)
		looks(t, s, w, "\x80")
		w = expires(t, s, w, 24)
		looks(t, s, w, "\x80")
		w = expires(t, s, w, 25)
		looks(t, s, w, "\x80")
		if x, _ := s.Look("\x80"); x.Block != 3 {
			t.Errorf("kind %d: %#v", kind, x)
		}
		alike(t, s, w)
	}
}

// Find records the time, also an earlier one, and that of the entry found alone; Look records none.
func TestFindAndLookP14_8(t *testing.T) {
	for _, kind := range kinds() {
		a, b := plain(kind, "a"), plain(kind, "b")
		a.Idle, b.Idle = 10, 30
		s, w := of(t, kind, []int{1}, a, b)
		if due, _ := s.Due(); due != 110 {
			t.Fatalf("due %d", due)
		}
		for range 3 {
			for _, key := range []string{"a", "b", "c", "", "ab"} {
				looks(t, s, w, key)
			}
		}
		lists(t, s, w)
		for _, c := range [][2]int64{{105, 115}, {104, 114}, {112, 122}, {500, 131}, {90, 100}, {-3, 10}, {1, 11}} {
			w = finds(t, s, w, "a", c[0])
			looks(t, s, w, "a")
			looks(t, s, w, "b")
			if due, is := s.Due(); due != c[1] || !is {
				t.Fatalf("found at %d, due %d, not %d", c[0], due, c[1])
			}
			w = finds(t, s, w, "c", 3)
			w = finds(t, s, w, "ab", 3)
			alike(t, s, w)
		}
	}
}

// Look answers what Find does, for all keys of a byte and others, and Find changes nothing but times.
func TestLookIsFindP14_8(t *testing.T) {
	r := newSamples()
	for _, kind := range kinds() {
		for range 20 {
			s, w := of(t, kind, []int{1}, different(r, kind, []int{1}, 1+r.below(5))...)
			for _, key := range append(w.queries(), "", "aa") {
				due, is := s.Due()
				x, had := s.Look(key)
				if again, does := s.Due(); again != due || does != is {
					t.Fatalf("Look of %x: due %d, %v, not %d, %v", key, again, does, due, is)
				}
				y, has := s.Find(key, 400)
				if !equal(x, y) || had != has || !had && !equal(x, api.Entry{}) {
					t.Fatalf("for %x: %#v, %v, and %#v, %v", key, x, had, y, has)
				}
				_, _, w = w.find(key, 400)
				lists(t, s, w)
			}
			alike(t, s, w)
		}
	}
}

// What was handed in is changed afterwards, and what is answered is; nothing of either shows.
func TestWrittenOverP14_3(t *testing.T) {
	for _, kind := range kinds() {
		widths, def := []int{1, 2}, definition(kind, 2, 9)
		s, e := New(def, widths)
		if e != api.OK {
			t.Fatal(e)
		}
		w := model{table: definition(kind, 2, 9), widths: []int{1, 2}}
		def.Keys[0], def.Keys[1], widths[0], widths[1] = 5, 6, 2, 1
		x := plain(kind, "abc")
		x.Args, x.Hard = []uint64{1, 2, 3}, 5
		puts(t, s, x, 100, api.OK)
		kept := x
		kept.Args = []uint64{1, 2, 3}
		w = w.put(kept, 100)
		clear(x.Args)
		for range 2 {
			alike(t, s, w)
			for _, l := range [][]api.Entry{s.Entries(), s.Entries(), s.Copy().Entries()} {
				clear(l[0].Args)
				l[0] = api.Entry{}
			}
			for _, y := range answers(s) {
				clear(y.Args)
			}
			clear(s.Table().Keys)
			clear(s.Copy().Table().Keys)
			alike(t, s, w)
		}
	}
	for _, widths := range [][]int{{1, 2}} { // the fields of a range are those that they were
		s, w := empty(t, api.Range, widths, 9)
		x := api.Entry{Table: tableID, Key: "\x01\x01\x01", Other: "\x02\x02\x00", Block: 1}
		widths[0], widths[1] = 2, 1
		for _, c := range []*Store{s, s.Copy()} {
			puts(t, c, x, 100, api.OK)
			alike(t, c, model{w.table, []int{1, 2}, nil}.put(x, 100))
			puts(t, c, api.Entry{Table: tableID, Key: "\x01\x02\x01", Other: "\x02\x01\x02", Block: 1}, 0, api.ErrForm)
		}
	}
}

// answers are the entries that calls answer of a table whose one entry expires.
func answers(s *Store) []api.Entry {
	l := s.Entries()
	x, _ := s.Look(l[0].Key)
	y, _ := s.Copy().Find(l[0].Key, 100)
	gone := s.Copy().Expire(1000)
	return append(l, x, y, gone[0].Entry)
}

// No string of an answer is a part of what was handed in, or of another answer.
func TestOwnMemoryP14_3(t *testing.T) {
	for _, kind := range kinds() {
		data := []byte("\x12\x34\x56\x12\x34\x56")
		passed := unsafe.String(&data[0], len(data))
		s, w := empty(t, kind, []int{1, 2}, 9)
		x := plain(kind, passed[:3])
		if kind == api.Range {
			x.Other = passed[3:]
		}
		x.Hard = 5
		for range 2 { // as a new one, and again
			puts(t, s, x, 100, api.OK)
		}
		y := plain(kind, "\x12\x34\x56")
		y.Hard = 5
		w = w.put(y, 100)
		c := s.Copy()
		var texts []string
		for _, z := range append(append(answers(s), answers(s)...), answers(c)...) {
			texts = append(texts, z.Key)
			if z.Other != "" {
				texts = append(texts, z.Other)
			}
		}
		for i, p := range texts {
			if within(p, passed) {
				t.Errorf("%x is a part of what was passed", p)
			}
			for _, q := range texts[:i] {
				if within(p, q) {
					t.Errorf("%x and %x are the same memory", p, q)
				}
			}
		}
		clear(data)
		alike(t, s, w)
		alike(t, c, w)
	}
}

// within tells whether part is in the memory of s.
func within(part, s string) bool {
	p, from := uintptr(unsafe.Pointer(unsafe.StringData(part))), uintptr(unsafe.Pointer(unsafe.StringData(s)))
	return from <= p && p < from+uintptr(len(s))
}

// Table answers what New was given, whatever was put since.
func TestTableP14_3(t *testing.T) {
	r := newSamples()
	for _, kind := range kinds() {
		for _, keys := range [][]int{{0}, {-1, 1 << 40}, {5, 5, 5, 5}} {
			def := api.Table{ID: tableID, Kind: kind, Keys: keys, Cap: 3, Miss: 65534}
			s, e := New(def, slices.Repeat([]int{1}, len(keys)))
			if e != api.OK {
				t.Fatal(e)
			}
			for i := range 9 {
				s.Put(r.entry(kind, slices.Repeat([]int{1}, len(keys)), r.few), int64(i))
				if got := s.Table(); !equalTables(got, def) || !equalTables(s.Copy().Table(), def) {
					t.Fatalf("%#v, not %#v", got, def)
				}
			}
		}
	}
}

// A copy and its original, each changed in each way afterwards, with the other one as it was.
func TestCopyP14_3(t *testing.T) {
	r := newSamples()
	type act func(s *Store, w model) model
	for _, kind := range kinds() {
		for _, widths := range [][]int{{1}, {1, 2}, {16, 16}} {
			row := different(r, kind, widths, 6)
			for i := range row {
				row[i].Idle = int64(20 + i)
			}
			row[4].Hard, row[4].Idle = 0, 3
			put := func(x api.Entry, now int64) act {
				return func(s *Store, w model) model {
					puts(t, s, x, now, api.OK)
					return w.put(x, now)
				}
			}
			again := row[1]
			again.Block, again.Args = 4711, []uint64{9}
			acts := []act{
				put(row[5], 100), put(again, 101), put(again, 50),
				func(s *Store, w model) model { dels(t, s, row[0], true); return w.del(row[0]) },
				func(s *Store, w model) model { return finds(t, s, w, row[2].Key, 70) },
				func(s *Store, w model) model { return expires(t, s, w, 107) },
			}
			for _, one := range acts {
				for _, two := range acts {
					s, w := of(t, kind, widths, row[:5]...)
					c := s.Copy()
					alike(t, c, w)
					after := one(c, w)
					alike(t, s, w)
					alike(t, c, after)
					alike(t, s.Copy(), w)
					other := two(s, w)
					alike(t, c, after)
					alike(t, s, other)
				}
			}
		}
	}
}

// Reading changes nothing.
func TestReadingChangesNothingP14_3(t *testing.T) {
	r := newSamples()
	for _, kind := range kinds() {
		s, w := of(t, kind, []int{1, 1}, different(r, kind, []int{1, 1}, 8)...)
		for range 2 {
			for _, key := range w.queries() {
				s.Look(key)
				s.May(plain(kind, key))
				s.Del(api.Entry{Table: tableID, Key: key, Prio: 77})
			}
			s.Entries()
			s.Table()
			s.Len()
			s.Due()
			s.Copy().Expire(1 << 40)
			s.Expire(0)
			alike(t, s, w)
		}
	}
}

// Long rows of acts against a plain list, for each kind: with few entries, with many, and with long keys.
func TestLongRowsP14_1(t *testing.T) {
	r := newSamples()
	for _, kind := range kinds() {
		testRow(t, r, kind, []int{1}, 4, 2500)
		testRow(t, r, kind, []int{1, 1}, 12, 2500)
		testRow(t, r, kind, []int{2, 1, 1}, 100, 2500)
		testRow(t, r, kind, []int{16, 15, 1}, 20, 1000)
	}
}

// testRow makes so many changes of a table and a list, and compares both behind each one, and now and then in all.
func testRow(t *testing.T, r *samples, kind uint8, widths []int, most, changes int) {
	t.Helper()
	s, w := empty(t, kind, widths, most)
	pool := different(r, kind, widths, most+most/2)
	now := int64(0)
	for i := range changes {
		x := pool[r.below(len(pool))]
		y := r.entry(kind, widths, r.few)
		x.Block, x.Args, x.Hard, x.Idle = y.Block, y.Args, y.Hard, y.Idle
		now += int64(r.below(4))
		if r.below(200) == 0 {
			now = int64(r.below(20)) - 10
		}
		switch n := r.below(20); {
		case n < 8:
			want := api.OK
			if w.place(x) < 0 && len(w.rows) == most {
				want = api.ErrFull
			}
			puts(t, s, x, now, want)
			if want == api.OK {
				w = w.put(x, now)
			}
		case n < 10:
			dels(t, s, x, w.place(x) >= 0)
			w = w.del(x)
		case n < 18:
			w = finds(t, s, w, x.Key, now)
			w = finds(t, s, w, y.Key, now)
		default:
			w = expires(t, s, w, now)
		}
		lists(t, s, w)
		looks(t, s, w, x.Key)
		looks(t, s, w, y.Key)
		if i%100 == 0 {
			alike(t, s, w)
			s = s.Copy()
		}
	}
	alike(t, s, w)
}
