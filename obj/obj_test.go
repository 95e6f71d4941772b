package obj

import (
	"math"
	"reflect"
	"strings"
	"testing"
	"unsafe"

	"turnout/api"
)

// holds checks that v is encodable, that s is its encoding, and that s is decoded as v.
func (k kind) holds(t *testing.T, v reflect.Value, s string) {
	t.Helper()
	if !k.may(v) {
		t.Fatalf("May%s of %+v: false", k.name, v)
	}
	if got, e := k.put(v); got != s || e != api.OK {
		t.Fatalf("Put%s of %+v: %x, error %d, not %x", k.name, v, got, e, s)
	}
	if got, e := k.get(s); e != api.OK || !equal(got, v) || !k.same(got, v) {
		t.Fatalf("%s of %x: %+v, error %d, not %+v", k.name, s, got, e, v)
	}
}

// unencodable checks that v is not encodable.
func (k kind) unencodable(t *testing.T, v reflect.Value) {
	t.Helper()
	if k.may(v) {
		t.Fatalf("May%s of %+v: true", k.name, v)
	}
	if s, e := k.put(v); s != "" || e != api.ErrForm {
		t.Fatalf("Put%s of %+v: %x, error %d, not error %d", k.name, v, s, e, api.ErrForm)
	}
}

// refuses checks that s is the encoding of no object of that kind.
func (k kind) refuses(t *testing.T, s string, want api.Errno) {
	t.Helper()
	if v, e := k.get(s); e != want || !k.isZero(v) {
		t.Fatalf("%s of %x: %+v, error %d, not error %d", k.name, s, v, e, want)
	}
}

// differ checks that a and b are not the same, and that their encodings are not, so far as they have any.
func (k kind) differ(t *testing.T, a, b reflect.Value) {
	t.Helper()
	if k.same(a, b) || k.same(b, a) {
		t.Fatalf("Same%s of %+v, %+v: true", k.name, a, b)
	}
	s, _ := k.put(a)
	if r, e := k.put(b); e == api.OK && s == r {
		t.Fatalf("Put%s of %+v, and of %+v: %x", k.name, a, b, s)
	}
}

func (k kind) alike(t *testing.T, a, b reflect.Value) {
	t.Helper()
	if !k.same(a, b) || !k.same(b, a) {
		t.Fatalf("Same%s of %+v, %+v: false", k.name, a, b)
	}
}

// agrees checks what s is decoded as, or why it is refused, against the model, and that what is decoded is encoded as s.
func (k kind) agrees(t *testing.T, s string) {
	t.Helper()
	want := k.zero()
	if e := decoded(s, want); e != api.OK {
		k.refuses(t, s, e)
		return
	}
	k.holds(t, want, s)
}

// eachKind runs a test for each of the eight kinds.
func eachKind(t *testing.T, test func(t *testing.T, k kind)) {
	for _, k := range kinds() {
		t.Run(k.name, func(t *testing.T) { test(t, k) })
	}
}

func TestExamplesP8_2(t *testing.T) {
	for _, c := range []struct {
		name, want string
		put        func() (string, api.Errno)
	}{
		{"registers", "01 00 01 05 02 00 02 01 2C", func() (string, api.Errno) { return PutRegs(api.Regs{ID: 5, Size: 300}) }},
		{"block", "01 00 01 01 02 00 06 00 04 01 00 01 16", func() (string, api.Errno) { return PutBlock(api.Block{ID: 1, Code: []api.Instr{{Op: 22}}}) }},
		{"field", "", func() (string, api.Errno) { return PutField(api.Field{}) }},
	} {
		if s, e := c.put(); s != unhex(t, c.want) || e != api.OK {
			t.Errorf("%s: %x, error %d, not %s", c.name, s, e, c.want)
		}
	}
	if x, e := Regs(unhex(t, "01 00 01 05 02 00 02 01 2C")); e != api.OK || x != (api.Regs{ID: 5, Size: 300}) {
		t.Error(x, e)
	}
	if x, e := Block(unhex(t, "01 00 01 01 02 00 06 00 04 01 00 01 16")); e != api.OK || x.ID != 1 || len(x.Code) != 1 || x.Code[0] != (api.Instr{Op: 22}) {
		t.Error(x, e)
	}
	if x, e := Field(""); e != api.OK || x != (api.Field{}) {
		t.Error(x, e)
	}
	if x, e := Meter(unhex(t, "01 00 02 00 05")); e != api.ErrForm || x != (api.Meter{}) {
		t.Error(x, e)
	}
}

// An object of each kind, with all of its parts, against bytes that were written out.
func TestBytesP8_2(t *testing.T) {
	objects := map[string]struct {
		x    any
		want string
	}{
		"Node": {api.Node{ID: 1, Size: 14, LenOff: 3, LenWidth: 4, LenUnit: 5, SelOff: 96, SelWidth: 16, Other: api.Refuse,
			Arms: []api.Arm{{Value: 0x800, Next: 2}, {}, {Value: math.MaxUint32, Next: api.Refuse}, {Next: 7}}},
			"010001 01 020001 0e 030001 03 040001 04 050001 05 060001 60 070001 10 080002 ffff" +
				"090021 0009 010002 0800 020001 02 0000 000c 010004 ffffffff 020002 ffff 0004 020001 07"},
		"Field": {api.Field{ID: 0x1234, Base: api.OfHeader, Node: 9, Off: api.MaxInt, Width: 128},
			"010002 1234 020001 02 030001 09 040004 7fffffff 050001 80"},
		"Table": {api.Table{ID: 16, Kind: 255, Keys: []int{0, 1, 256, api.MaxInt}, Cap: 256, Miss: 5},
			"010001 10 020001 ff 03000f 0000 0001 01 0002 0100 0004 7fffffff 040002 0100 050001 05"},
		"Entry": {api.Entry{Table: 2, Key: "\x00a", Other: "b\x00c", Len: 3, Prio: 4, Block: 5, Args: []uint64{7, 0, math.MaxUint64},
			Idle: math.MaxInt64, Hard: 1 << 40, Cookie: math.MaxUint64, Tell: true},
			"010001 02 020002 0061 030003 620063 040001 03 050001 04 060001 05 07000f 0001 07 0000 0008 ffffffffffffffff" +
				"080008 7fffffffffffffff 090006 010000000000 0a0008 ffffffffffffffff 0b0001 01"},
		"Block": {api.Block{ID: 3, Code: []api.Instr{{Op: 1, To: 2, A: api.Arg{Kind: 3, N: 4}, B: api.Arg{Kind: 5, N: 6}, N: 7}, {}, {A: api.Arg{N: 256}, B: api.Arg{Kind: 9}}}},
			"010001 03 02002b 001c 010001 01 020001 02 030001 03 040001 04 050001 05 060001 06 070001 07 0000 0009 040002 0100 050001 09"},
		"Group": {api.Group{ID: 1, Kind: 2, Field: 3, Buckets: []api.Bucket{{Weight: math.Float64bits(1), Block: 4}, {}, {Block: 5}}},
			"010001 01 020001 02 030001 03 040019 000f 010008 3ff0000000000000 020001 04 0000 0004 020001 05"},
		"Meter": {api.Meter{ID: 4, Rate: 1 << 40, Burst: math.MaxInt64},
			"010001 04 020006 010000000000 030008 7fffffffffffffff"},
		"Regs": {api.Regs{ID: 65534, Size: 1024},
			"010002 fffe 020002 0400"},
	}
	eachKind(t, func(t *testing.T, k kind) {
		c := objects[k.name]
		k.holds(t, reflect.ValueOf(c.x), unhex(t, c.want))
	})
}

func TestNumbersP8_1P8_2(t *testing.T) {
	eachKind(t, func(t *testing.T, k kind) {
		for _, items := range []int{1, 3, 32} {
			v := k.filled(items)
			for _, leaf := range leaves(v) {
				if !isNumber(leaf) {
					continue
				}
				kept := leaf.Interface()
				for _, n := range []uint64{0, 1, 2, 127, 128, 255, 256, 65535, 65536, 1<<31 - 2, 1<<31 - 1, 1 << 31, 1<<32 - 1, 1 << 32, 1<<63 - 1, 1 << 63, 1<<64 - 1} {
					if n <= greatest(leaf.Type()) {
						setNumber(leaf, n)
						k.holds(t, v, odd{}.encoded(v))
					}
				}
				for _, n := range wrongNumbers(leaf.Type()) {
					leaf.SetInt(n)
					k.unencodable(t, v)
				}
				leaf.Set(reflect.ValueOf(kept))
			}
			k.holds(t, v, odd{}.encoded(v))
		}
	})
}

// One wrong number is enough, whatever else is 0 or not.
func TestWrongNumberAloneP8_1(t *testing.T) {
	eachKind(t, func(t *testing.T, k kind) {
		v := k.zero()
		for _, l := range listsOf(v) {
			l.Set(reflect.MakeSlice(l.Type(), 2, 2))
		}
		for _, leaf := range leaves(v) {
			for _, n := range wrongNumbers(leaf.Type()) {
				leaf.SetInt(n)
				k.unencodable(t, v)
			}
			leaf.SetZero()
		}
		k.holds(t, v, odd{}.encoded(v))
	})
}

func TestNumbersInBytesP8_2(t *testing.T) {
	eachKind(t, func(t *testing.T, k kind) {
		for _, items := range []int{1, 3, 32} {
			v := k.filled(items)
			for _, leaf := range leaves(v) {
				if !isNumber(leaf) {
					continue
				}
				most := greatest(leaf.Type())
				for _, s := range []string{"\x00", "\x00\x00", "\x00\x05", "\x00" + bigBytes(most), aboveBytes(most),
					"\x01" + bigBytes(most), "\xff" + bigBytes(most), "\x01" + strings.Repeat("\x00", 8), strings.Repeat("\xff", 9), strings.Repeat("\x00", 9), strings.Repeat("a", 300)} {
					k.refuses(t, odd{leaf, s}.encoded(v), api.ErrForm)
				}
				kept := leaf.Interface()
				setNumber(leaf, most)
				k.holds(t, v, odd{leaf, bigBytes(most)}.encoded(v))
				leaf.Set(reflect.ValueOf(kept))
			}
		}
	})
}

func TestTextsP8_1P8_2(t *testing.T) {
	long := strings.Repeat("k", api.MaxKey)
	entries := func(s string) []api.Entry {
		return []api.Entry{{Key: s}, {Other: s}, {Table: 1, Key: s, Other: s, Len: 5, Tell: true}, {Key: long, Other: s}, {Key: s, Other: long}}
	}
	k := kinds()[3]
	for n := range api.MaxKey + 1 {
		for _, x := range append(entries(long[:n]), entries(strings.Repeat("\x00", n))...) {
			v := reflect.ValueOf(&x).Elem()
			k.holds(t, v, odd{}.encoded(v))
		}
	}
	for _, more := range []string{"k", "\x00", long, strings.Repeat("k", 65536-api.MaxKey-1), strings.Repeat("k", 65536-api.MaxKey), strings.Repeat("k", 1<<20)} {
		for _, x := range entries(long + more) {
			v := reflect.ValueOf(&x).Elem()
			k.unencodable(t, v)
			if len(long+more) < 65536 {
				k.refuses(t, odd{}.encoded(v), api.ErrForm)
			}
		}
	}
}

func TestListsP8_1P8_2(t *testing.T) {
	eachKind(t, func(t *testing.T, k kind) {
		for which, l := range listsOf(k.zero()) {
			most := mostItems[l.Type().Elem().Name()]
			for n := range most + 3 {
				zeros, full := k.zero(), k.filled(1)
				for _, v := range []reflect.Value{zeros, full} {
					of := listsOf(v)[which]
					one := reflect.Zero(of.Type().Elem())
					if of.Len() > 0 {
						one = of.Index(0)
					}
					items := reflect.MakeSlice(of.Type(), n, n)
					for i := range n {
						items.Index(i).Set(one)
					}
					of.Set(items)
					s := odd{}.encoded(v)
					if n <= most {
						k.holds(t, v, s)
						continue
					}
					k.unencodable(t, v)
					k.refuses(t, s, api.ErrForm)
				}
			}
			v := k.filled(1)
			of := listsOf(v)[which]
			of.Set(reflect.MakeSlice(of.Type(), 10000, 10000))
			k.unencodable(t, v)
			k.refuses(t, odd{}.encoded(v), api.ErrForm)
		}
	})
}

// The kinds with lists are those of the chapter, with its limits.
func TestLimitsP8_1(t *testing.T) {
	for _, more := range []int{0, 1} {
		want := more == 0
		for name, got := range map[string]bool{
			"Arms":    MayNode(api.Node{Arms: make([]api.Arm, api.MaxArms+more)}),
			"Keys":    MayTable(api.Table{Keys: make([]int, api.MaxKeys+more)}),
			"Args":    MayEntry(api.Entry{Args: make([]uint64, api.MaxArgs+more)}),
			"Code":    MayBlock(api.Block{Code: make([]api.Instr, api.MaxCode+more)}),
			"Buckets": MayGroup(api.Group{Buckets: make([]api.Bucket, api.MaxBuckets+more)}),
			"Key":     MayEntry(api.Entry{Key: strings.Repeat("k", api.MaxKey+more)}),
			"Other":   MayEntry(api.Entry{Other: strings.Repeat("k", api.MaxKey+more)}),
			"ID":      MayRegs(api.Regs{ID: api.MaxInt + more}),
			"Size":    MayRegs(api.Regs{Size: api.MaxInt + more}),
		} {
			if got != want {
				t.Errorf("%s, %d more than allowed: %t", name, more, got)
			}
		}
	}
	// What a configuration accepts is a different question.
	if !MayMeter(api.Meter{Rate: math.MaxInt64, Burst: math.MaxInt64}) || !MayTable(api.Table{Kind: 255, Cap: api.MaxInt}) || !MayGroup(api.Group{Kind: 99, Buckets: []api.Bucket{{Weight: math.MaxUint64, Block: api.MaxInt}}}) {
		t.Error("an object of any numbers that their types allow is encodable")
	}
}

func TestTellP8_2(t *testing.T) {
	for _, x := range []api.Entry{{Tell: true}, {Table: 1, Tell: true}, {Table: 1}, {Cookie: 5, Tell: true}} {
		v := reflect.ValueOf(&x).Elem()
		kinds()[3].holds(t, v, odd{}.encoded(v))
	}
	if s, e := PutEntry(api.Entry{Tell: true}); s != "\x0b\x00\x01\x01" || e != api.OK {
		t.Errorf("%x, error %d", s, e)
	}
	if x, e := Entry("\x0b\x00\x01\x01"); e != api.OK || !SameEntry(x, api.Entry{Tell: true}) {
		t.Error(x, e)
	}
	for _, s := range []string{"0b 00 01 00", "0b 00 01 02", "0b 00 01 ff", "0b 00 02 00 01", "0b 00 02 01 00", "0b 00 02 01 01", "0b 00 00", "01 00 01 05 0b 00 01 02"} {
		kinds()[3].refuses(t, unhex(t, s), api.ErrForm)
	}
}

// attrs are the attributes of v, each as bytes.
func attrs(v reflect.Value) []string {
	var out []string
	for i, p := range parts(v) {
		if s := (odd{}).encoded(p); s != "" {
			out = append(out, attr(i+1, s))
		}
	}
	return out
}

func TestAttributesP8_2(t *testing.T) {
	eachKind(t, func(t *testing.T, k kind) {
		v := k.filled(2)
		l := attrs(v)
		if len(l) != len(parts(v)) {
			t.Fatal("not all parts are there")
		}
		for i := range l {
			only := k.zero()
			parts(only)[i].Set(parts(v)[i])
			k.holds(t, only, l[i])
			k.refuses(t, l[i]+l[i], api.ErrForm)
			k.refuses(t, strings.Join(l[:i+1], "")+strings.Join(l[i:], ""), api.ErrForm)
			k.refuses(t, string([]byte{byte(i + 1), 0, 0}), api.ErrForm)
			k.refuses(t, strings.Join(l[:i], "")+string([]byte{byte(i + 1), 0, 0})+strings.Join(l[i+1:], ""), api.ErrForm)
			for j := range i {
				k.refuses(t, l[i]+l[j], api.ErrForm)
				swapped := append([]string{}, l...)
				swapped[i], swapped[j] = l[j], l[i]
				k.refuses(t, strings.Join(swapped, ""), api.ErrForm)
				both := k.zero()
				parts(both)[i].Set(parts(v)[i])
				parts(both)[j].Set(parts(v)[j])
				k.holds(t, both, l[j]+l[i])
			}
		}
		k.refuses(t, "\x00\x00\x01\x01", api.ErrForm)
		k.refuses(t, "\x00\x00\x01\x01"+strings.Join(l, ""), api.ErrForm)
	})
}

func TestUnknownAttributesP8_6(t *testing.T) {
	eachKind(t, func(t *testing.T, k kind) {
		x := newSamples()
		for i := range 8 {
			v := k.random(x)
			switch i {
			case 0:
				v = k.zero()
			case 1:
				v = k.filled(2)
			}
			s, e := k.put(v)
			if e != api.OK {
				t.Fatal(e)
			}
			for number := len(parts(v)) + 1; number < 256; number++ {
				for _, value := range []string{"\x01", "\x00", "text", item("\x01") + item("")} {
					k.refuses(t, s+attr(number, value), api.ErrForm)
				}
			}
		}
	})
}

// A cut within an attribute is ErrShort, wherever; one between two attributes leaves the parts before it.
func TestCutP8_2(t *testing.T) {
	eachKind(t, func(t *testing.T, k kind) {
		for _, items := range []int{0, 1, 3} {
			v := k.filled(items)
			s := odd{}.encoded(v)
			ends := map[int]reflect.Value{0: k.zero()}
			before := k.zero()
			for i, p := range parts(v) {
				parts(before)[i].Set(p)
				kept := k.zero()
				kept.Set(before)
				ends[len(odd{}.encoded(before))] = kept
			}
			for at := range len(s) + 1 {
				if kept, ok := ends[at]; ok {
					k.holds(t, kept, s[:at])
				} else {
					k.refuses(t, s[:at], api.ErrShort)
				}
			}
		}
	})
}

// What is wrong within a list is ErrForm, also bytes that are missing there.
func TestWrongListsP8_2(t *testing.T) {
	eachKind(t, func(t *testing.T, k kind) {
		v := k.filled(3)
		for _, l := range listsOf(v) {
			whole := odd{}.encoded(l)
			for _, s := range []string{"\x00", "\x01", "\xff", "\x00\x01", "\xff\xff", "\x00\x02a", "\x00\x00\x00", whole + "\x00", whole + "\x00\x01", whole + "\x00\x05\x01", item("") + "\x00"} {
				k.refuses(t, odd{l, s}.encoded(v), api.ErrForm)
			}
			ends := map[int]bool{}
			for i := range l.Len() + 1 {
				ends[len(odd{}.encoded(l.Slice(0, i)))] = true
			}
			for at := 1; at < len(whole); at++ {
				if !ends[at] {
					k.refuses(t, odd{l, whole[:at]}.encoded(v), api.ErrForm)
				}
			}
		}
	})
}

// Items that are objects are as wrong as objects would be.
func TestWrongItemsP8_2(t *testing.T) {
	eachKind(t, func(t *testing.T, k kind) {
		v := k.filled(3)
		for _, l := range listsOf(v) {
			for i := range l.Len() {
				one := l.Index(i)
				if one.Kind() != reflect.Struct {
					continue
				}
				a := attrs(one)
				all := strings.Join(a, "")
				for at := 1; at < len(all); at++ {
					s := odd{one, all[:at]}.encoded(v)
					k.agrees(t, s)
					if _, e := k.get(s); e != api.OK && e != api.ErrForm {
						t.Fatalf("%s of %x: error %d", k.name, s, e)
					}
				}
				for _, s := range []string{a[1] + a[0], a[0] + a[0], "\x01\x00\x00", "\x00\x00\x01\x01", all + "\x01", all + all, attr(1, "\x00") + a[1], a[0] + attr(2, "\x00\x01")} {
					k.refuses(t, odd{one, s}.encoded(v), api.ErrForm)
				}
				for number := len(a) + 1; number < 256; number++ {
					k.refuses(t, odd{one, all + attr(number, "\x01")}.encoded(v), api.ErrForm)
					k.refuses(t, odd{one, attr(number, "\x01")}.encoded(v), api.ErrForm)
				}
			}
		}
	})
}

// What tlv.Decode returns comes before what is wrong with an attribute.
func TestErrorOrderP8_2(t *testing.T) {
	eachKind(t, func(t *testing.T, k kind) {
		n := len(parts(k.zero()))
		for _, wrong := range []string{attr(1, "\x00"), attr(1, "\x80\x00\x00\x00"), attr(1, strings.Repeat("1", 9)), attr(n+1, "\x01"), attr(12, "\x01"), attr(n, "\x00")} {
			k.refuses(t, wrong, api.ErrForm)
			for _, cut := range []string{"\xff", "\xff\x00", "\xff\x00\x01", "\xff\xff\xff\x01"} {
				k.refuses(t, wrong+cut, api.ErrShort)
			}
			for _, form := range []string{"\xff\x00\x00", wrong, "\xff\x00\x00\xff", "\x00\x00\x01"} {
				k.refuses(t, wrong+form, api.ErrForm)
			}
		}
		// Of two things that are wrong with the attributes as such the first one counts.
		k.refuses(t, "\x01\x00\x00\x02", api.ErrForm)
		k.refuses(t, "\x01\x00\x01", api.ErrShort)
		k.refuses(t, "\x01\x00\x05\x00\x00\x00", api.ErrShort)
		k.refuses(t, attr(2, "\x01")+"\x01\x00\x05", api.ErrForm)
	})
}

func TestSameP8_1(t *testing.T) {
	eachKind(t, func(t *testing.T, k kind) {
		for _, items := range []int{0, 1, 2, 32} {
			a := k.filled(items)
			k.alike(t, a, k.filled(items))
			if items == 0 {
				k.differ(t, a, k.zero())
			}
			b := k.filled(items)
			for _, leaf := range leaves(b) {
				kept := leaf.Interface()
				for _, other := range others(leaf) {
					leaf.Set(other)
					k.differ(t, a, b)
				}
				leaf.Set(reflect.ValueOf(kept))
			}
			k.alike(t, a, b)
			for _, l := range listsOf(b) {
				kept := l.Interface()
				l.Set(reflect.Append(l, reflect.Zero(l.Type().Elem())))
				k.differ(t, a, b)
				if items > 0 {
					l.Set(reflect.ValueOf(kept).Slice(0, reflect.ValueOf(kept).Len()-1))
					k.differ(t, a, b)
					l.SetZero()
					k.differ(t, a, b)
				}
				l.Set(reflect.ValueOf(kept))
			}
			k.alike(t, a, b)
		}
	})
}

// others are values other than v, of its type: also such as are not encodable.
func others(v reflect.Value) []reflect.Value {
	var out []reflect.Value
	for _, n := range wrongNumbers(v.Type()) {
		out = append(out, reflect.ValueOf(n).Convert(v.Type()))
	}
	switch {
	case v.CanInt():
		for _, n := range []int64{0, v.Int() + 1, v.Int() + 256, v.Int() | 1<<30} {
			out = append(out, reflect.ValueOf(n).Convert(v.Type()))
		}
	case v.CanUint():
		for _, n := range []uint64{0, v.Uint() + 1, v.Uint() ^ greatest(v.Type())} {
			out = append(out, reflect.ValueOf(n).Convert(v.Type()))
		}
	case v.Kind() == reflect.Bool:
		out = append(out, reflect.ValueOf(!v.Bool()))
	default:
		for _, s := range []string{"", v.String() + "\x00", v.String()[1:], "\x00" + v.String()} {
			out = append(out, reflect.ValueOf(s))
		}
	}
	return out
}

// Objects that are not encodable are compared in the same way; a list that is nil and one of no items are the same.
func TestSameAnyP8_1(t *testing.T) {
	eachKind(t, func(t *testing.T, k kind) {
		a, b := k.filled(3), k.filled(3)
		for i, leaf := range leaves(a) {
			for _, n := range wrongNumbers(leaf.Type()) {
				leaf.SetInt(n)
				leaves(b)[i].SetInt(n)
				k.alike(t, a, b)
			}
		}
		k.alike(t, k.zero(), k.zero())
		for _, l := range listsOf(a) {
			l.Set(reflect.MakeSlice(l.Type(), 500, 500))
		}
		for _, l := range listsOf(b) {
			l.Set(reflect.MakeSlice(l.Type(), 500, 700))
		}
		k.alike(t, a, b)
		none := k.zero()
		for _, l := range listsOf(none) {
			l.Set(reflect.MakeSlice(l.Type(), 0, 5))
		}
		k.alike(t, none, k.zero())
		k.holds(t, none, "")
	})
	nan := math.Float64bits(math.NaN())
	a, b := api.Group{Buckets: []api.Bucket{{Weight: nan}}}, api.Group{Buckets: []api.Bucket{{Weight: nan}}}
	c, d := api.Group{Buckets: []api.Bucket{{Weight: 0}}}, api.Group{Buckets: []api.Bucket{{Weight: math.Float64bits(math.Copysign(0, -1))}}}
	if !SameGroup(a, b) || SameGroup(c, d) {
		t.Error("weights are compared by their bits")
	}
}

func TestRoundP8_3(t *testing.T) {
	eachKind(t, func(t *testing.T, k kind) {
		x := newSamples()
		for range 1000 {
			v := k.random(x)
			k.holds(t, v, odd{}.encoded(v))
		}
	})
}

// Bytes of any kind are refused, or encoded again as they were.
func TestShortBytesP8_3(t *testing.T) {
	eachKind(t, func(t *testing.T, k kind) {
		of := "\x00\x01\x02\x03\x0b"
		at := []string{""}
		for range 6 {
			var longer []string
			for _, s := range at {
				k.agrees(t, s)
				for i := range len(of) {
					longer = append(longer, s+of[i:i+1])
				}
			}
			at = longer
		}
		for _, s := range at {
			k.agrees(t, s)
		}
		x := newSamples()
		for range 20000 {
			k.agrees(t, x.text(x.below(20)))
		}
	})
}

// Encodings with a byte changed, inserted or deleted are refused, or those of other objects.
func TestChangedBytesP8_3(t *testing.T) {
	eachKind(t, func(t *testing.T, k kind) {
		x := newSamples()
		for range 150 {
			v := k.random(x)
			s := odd{}.encoded(v)
			for range min(len(s), 30) {
				at := x.below(len(s))
				b := string([]byte{[]byte{0, 1, 2, byte(x.next() >> 32), s[at] + 1, s[at] - 1}[x.below(6)]})
				for _, c := range []string{s[:at] + b + s[at+1:], s[:at] + b + s[at:], s[:at] + s[at+1:]} {
					k.agrees(t, c)
					if other, e := k.get(c); e == api.OK && c != s && (equal(v, other) || k.same(v, other)) {
						t.Fatalf("%x and %x are the same %s", s, c, k.name)
					}
				}
			}
		}
	})
}

func TestZeroP8_4(t *testing.T) {
	eachKind(t, func(t *testing.T, k kind) {
		k.holds(t, k.zero(), "")
		x := newSamples()
		for range 500 {
			v := k.random(x)
			if s, _ := k.put(v); (s == "") != k.isZero(v) {
				t.Fatalf("Put%s of %+v: %x", k.name, v, s)
			}
		}
	})
	if s, e := PutNode(api.Node{Arms: make([]api.Arm, 2)}); s != "\x09\x00\x04\x00\x00\x00\x00" || e != api.OK {
		t.Errorf("a list of two zero arms: %x, error %d", s, e)
	}
	if s, e := PutTable(api.Table{Keys: make([]int, 1)}); s != "\x03\x00\x02\x00\x00" || e != api.OK {
		t.Errorf("a list of a zero key: %x, error %d", s, e)
	}
}

func TestDistinctP8_5(t *testing.T) {
	eachKind(t, func(t *testing.T, k kind) {
		x := newSamples()
		seen := map[string]reflect.Value{}
		for range 2000 {
			v := k.random(x)
			s, e := k.put(v)
			if e != api.OK || !k.may(v) {
				t.Fatalf("Put%s of %+v: error %d", k.name, v, e)
			}
			if other, ok := seen[s]; ok && !(equal(v, other) && k.same(v, other)) {
				t.Fatalf("Put%s of %+v, and of %+v: %x", k.name, v, other, s)
			}
			seen[s] = v
		}
		for s := range seen {
			got, e := k.get(s)
			if e != api.OK || !k.may(got) {
				t.Fatalf("%s of %x: error %d, or not encodable", k.name, s, e)
			}
		}
	})
}

// Neither an argument is changed, nor has an answer memory of an argument, or of another answer.
func TestOwnMemoryP8_2(t *testing.T) {
	eachKind(t, func(t *testing.T, k kind) {
		v, kept := k.filled(3), k.filled(3)
		s, _ := k.put(v)
		k.may(v)
		k.same(v, kept)
		if !equal(v, kept) {
			t.Fatalf("%+v was changed to %+v", kept, v)
		}
		a, _ := k.get(s)
		b, _ := k.get(s)
		for _, leaf := range leaves(a) {
			leaf.SetZero()
		}
		if !equal(b, kept) || !equal(v, kept) {
			t.Fatalf("two answers of %s share memory", k.name)
		}
	})
	within := func(part, s string) bool {
		p, from := uintptr(unsafe.Pointer(unsafe.StringData(part))), uintptr(unsafe.Pointer(unsafe.StringData(s)))
		return from <= p && p < from+uintptr(len(s))
	}
	key := strings.Repeat("k", 20)
	s, _ := PutEntry(api.Entry{Key: key, Other: key})
	x, _ := Entry(s)
	if x.Key != key || within(x.Key, s) || within(x.Other, s) || within(x.Key, key) {
		t.Error("an answer shares memory with an argument")
	}
}
