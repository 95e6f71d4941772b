package proto

import (
	"math"
	"reflect"
	"slices"
	"strings"
	"testing"
	"unsafe"

	"turnout/api"
)

// holds checks that m is encodable, that body is its body, and that body is decoded as m.
func holds(t *testing.T, m api.Msg, body string) {
	t.Helper()
	if !May(m) {
		t.Fatalf("May of %+v: false", m)
	}
	if got, e := Encode(m); got != body || e != api.OK {
		t.Fatalf("Encode of %+v: %x, error %d, not %x", m, got, e, body)
	}
	if got, e := Decode(body); e != api.OK || !equalMsgs(got, m) || !Same(got, m) {
		t.Fatalf("Decode of %x: %+v, error %d, not %+v", body, got, e, m)
	}
}

// unencodable checks that m is not encodable.
func unencodable(t *testing.T, m api.Msg) {
	t.Helper()
	if May(m) {
		t.Fatalf("May of %+v: true", m)
	}
	if s, e := Encode(m); s != "" || e != api.ErrForm {
		t.Fatalf("Encode of %+v: %x, error %d, not error %d", m, s, e, api.ErrForm)
	}
}

// tooLong checks that m is encodable, but has a body that is too long.
func tooLong(t *testing.T, m api.Msg) {
	t.Helper()
	if s, e := Encode(m); !May(m) || s != "" || e != api.ErrLong {
		t.Fatalf("Encode of a message of kind %d and of %d bytes of Data: %d bytes, error %d, not error %d", m.Kind, len(m.Data), len(s), e, api.ErrLong)
	}
}

// refuses checks that body is the body of no message, and why.
func refuses(t *testing.T, body string, want api.Errno) {
	t.Helper()
	if m, e := Decode(body); e != want || !equalMsgs(m, api.Msg{}) {
		t.Fatalf("Decode of %x: %+v, error %d, not error %d", body, m, e, want)
	}
}

// agrees checks what body is decoded as, or why it is refused, against the model, and that what is decoded is encoded as body.
func agrees(t *testing.T, body string) {
	t.Helper()
	m, e := decoded(body)
	if e != api.OK {
		refuses(t, body, e)
		return
	}
	holds(t, m, body)
}

// differ checks that a and b are not the same, and that their bodies are not, so far as they have any.
func differ(t *testing.T, a, b api.Msg) {
	t.Helper()
	if Same(a, b) || Same(b, a) {
		t.Fatalf("Same of %+v, %+v: true", a, b)
	}
	s, _ := Encode(a)
	if r, e := Encode(b); e == api.OK && s == r {
		t.Fatalf("Encode of %+v, and of %+v: %x", a, b, s)
	}
}

func alike(t *testing.T, a, b api.Msg) {
	t.Helper()
	if !Same(a, b) || !Same(b, a) {
		t.Fatalf("Same of %+v, %+v: false", a, b)
	}
}

// eachKind runs a test for each kind of message.
func eachKind(t *testing.T, test func(t *testing.T, kind uint8)) {
	for _, kind := range allKinds() {
		t.Run(nameOf(kind), func(t *testing.T) { test(t, kind) })
	}
}

func TestKnownP9_1(t *testing.T) {
	for kind := range 256 {
		if got, want := Known(uint8(kind)), kind >= 1 && kind <= 46; got != want {
			t.Errorf("Known(%d): %t", kind, got)
		}
	}
}

func TestHasP9_1(t *testing.T) {
	for kind := range 256 {
		if got, want := Has(uint8(kind)), typesOf(uint8(kind)); !slices.Equal(got, want) {
			t.Errorf("Has(%d): %v, not %v", kind, got, want)
		}
	}
	if got := Has(api.CounterTell); !slices.Equal(got, []uint8{1, 6, 7}) {
		t.Errorf("Has(CounterTell): %v", got)
	}
	first := Has(api.PacketIn)
	clear(first)
	if got := Has(api.PacketIn); !slices.Equal(got, []uint8{4, 5, 8}) {
		t.Errorf("what Has returned was changed, and it returned %v", got)
	}
}

// The table of the tests, held against the names of package api.
func TestKindsP9_1(t *testing.T) {
	for kind, types := range map[uint8][]uint8{
		api.Hello: {}, api.HelloTell: {6}, api.Done: {2, 6}, api.Failed: {2, 3}, api.Error: {3},
		api.NodePut: {10}, api.FieldPut: {11}, api.TablePut: {12}, api.EntryPut: {13}, api.EntryDel: {13},
		api.BlockPut: {14}, api.GroupPut: {15}, api.MeterPut: {16}, api.RegsPut: {17}, api.RegsDel: {1},
		api.RegsGet: {1, 2, 6}, api.RegsTell: {1, 2, 9}, api.DropsTell: {9}, api.PortTell: {2, 4, 6},
		api.PacketOut: {4, 8}, api.PacketIn: {4, 5, 8}, api.Expired: {5, 13}, api.BoundTell: {6}, api.TableTell: {1, 6},
	} {
		if got := Has(kind); !slices.Equal(got, types) {
			t.Errorf("Has(%d): %v, not %v", kind, got, types)
		}
	}
}

func TestExamplesP9_2(t *testing.T) {
	holds(t, api.Msg{Kind: api.Hello, Xid: 258}, unhex(t, "01 00 00 01 02"))
	holds(t, api.Msg{Kind: api.Error, Xid: 1, Code: 5}, unhex(t, "0A 00 00 00 01 03 00 01 05"))
	holds(t, api.Msg{Kind: api.RegsTell, ID: 3, Words: []uint64{0, 1}}, unhex(t, "20 00 00 00 00 01 00 01 03 09 00 05 00 00 00 01 01"))
	holds(t, api.Msg{Kind: api.FieldPut, Xid: 0x12345678}, unhex(t, "0D 12 34 56 78"))
	refuses(t, unhex(t, "63 00 00 00 00"), api.ErrKind)
	refuses(t, unhex(t, "01 00 00 00 00 01 00 01 05"), api.ErrForm)
}

// A message of each kind, with all of its parts, against bytes that were written out.
func TestBytesP9_2(t *testing.T) {
	messages := []struct {
		m    api.Msg
		want string
	}{
		{api.Msg{Kind: api.Hello}, "01 00000000"},
		{api.Msg{Kind: api.HelloTell, Xid: 1, N: 1}, "02 00000001 060001 01"},
		{api.Msg{Kind: api.Echo, Xid: 2, Data: "\x00a"}, "03 00000002 080002 0061"},
		{api.Msg{Kind: api.EchoTell, Xid: 3, Data: "a\x00"}, "04 00000003 080002 6100"},
		{api.Msg{Kind: api.Begin, Xid: 4}, "05 00000004"},
		{api.Msg{Kind: api.Done, Xid: 5, Index: 64, N: 65536}, "06 00000005 020001 40 060003 010000"},
		{api.Msg{Kind: api.Commit, Xid: 6}, "07 00000006"},
		{api.Msg{Kind: api.Abort, Xid: math.MaxUint32}, "08 ffffffff"},
		{api.Msg{Kind: api.Failed, Xid: 1 << 31, Index: 63, Code: 11}, "09 80000000 020001 3f 030001 0b"},
		{api.Msg{Kind: api.Error, Xid: 0x01020304, Code: api.MaxInt}, "0a 01020304 030004 7fffffff"},
		{api.Msg{Kind: api.NodePut, Node: api.Node{ID: 1, Size: 14, Arms: []api.Arm{{Value: 0x800, Next: 2}, {}}}},
			"0b 00000000 0a0018 010001 01 020001 0e 09000d 0009 010002 0800 020001 02 0000"},
		{api.Msg{Kind: api.NodeDel, ID: 65534}, "0c 00000000 010002 fffe"},
		{api.Msg{Kind: api.FieldPut, Field: api.Field{ID: 7, Base: 2, Width: 48}}, "0d 00000000 0b000c 010001 07 020001 02 050001 30"},
		{api.Msg{Kind: api.FieldDel, ID: 256}, "0e 00000000 010002 0100"},
		{api.Msg{Kind: api.TablePut, Table: api.Table{ID: 1, Kind: 4, Keys: []int{0, 7}}}, "0f 00000000 0c0010 010001 01 020001 04 030005 0000 0001 07"},
		{api.Msg{Kind: api.TableDel, ID: 1}, "10 00000000 010001 01"},
		{api.Msg{Kind: api.EntryPut, Entry: api.Entry{Table: 1, Key: "\x00", Args: []uint64{0}, Tell: true}}, "11 00000000 0d0011 010001 01 020001 00 070002 0000 0b0001 01"},
		{api.Msg{Kind: api.EntryDel, Entry: api.Entry{Key: "ab"}}, "12 00000000 0d0005 020002 6162"},
		{api.Msg{Kind: api.BlockPut, Block: api.Block{ID: 1, Code: []api.Instr{{Op: 22}}}}, "13 00000000 0e000d 010001 01 020006 0004 010001 16"},
		{api.Msg{Kind: api.BlockDel, ID: 127}, "14 00000000 010001 7f"},
		{api.Msg{Kind: api.GroupPut, Group: api.Group{Kind: 1, Buckets: []api.Bucket{{Block: 5}}}}, "15 00000000 0f000d 020001 01 040006 0004 020001 05"},
		{api.Msg{Kind: api.GroupDel, ID: 128}, "16 00000000 010001 80"},
		{api.Msg{Kind: api.MeterPut, Meter: api.Meter{ID: 4, Rate: 256, Burst: 1}}, "17 00000000 10000d 010001 04 020002 0100 030001 01"},
		{api.Msg{Kind: api.MeterDel, ID: 255}, "18 00000000 010001 ff"},
		{api.Msg{Kind: api.RegsPut, Regs: api.Regs{ID: 5, Size: 300}}, "19 00000000 110009 010001 05 020002 012c"},
		{api.Msg{Kind: api.RegsDel, ID: 2}, "1a 00000000 010001 02"},
		{api.Msg{Kind: api.CounterPut, ID: 3}, "1b 00000000 010001 03"},
		{api.Msg{Kind: api.CounterDel, ID: 4}, "1c 00000000 010001 04"},
		{api.Msg{Kind: api.CounterGet, ID: 5}, "1d 00000000 010001 05"},
		{api.Msg{Kind: api.CounterTell, ID: 6, N: 7, M: math.MaxUint64}, "1e 00000000 010001 06 060001 07 070008 ffffffffffffffff"},
		{api.Msg{Kind: api.RegsGet, ID: 1, Index: 2, N: 128}, "1f 00000000 010001 01 020001 02 060001 80"},
		{api.Msg{Kind: api.RegsTell, ID: 3, Index: 1, Words: []uint64{0, 1}}, "20 00000000 010001 03 020001 01 090005 0000 0001 01"},
		{api.Msg{Kind: api.RegsSet, ID: 1, Index: 2, Words: []uint64{0}}, "21 00000000 010001 01 020001 02 090002 0000"},
		{api.Msg{Kind: api.MeterGet, ID: 9}, "22 00000000 010001 09"},
		{api.Msg{Kind: api.MeterTell, ID: 9, N: 1 << 40}, "23 00000000 010001 09 060006 010000000000"},
		{api.Msg{Kind: api.DropsGet}, "24 00000000"},
		{api.Msg{Kind: api.DropsTell, Words: []uint64{0, 256, math.MaxUint64}}, "25 00000000 090010 0000 0002 0100 0008 ffffffffffffffff"},
		{api.Msg{Kind: api.PortGet, Port: 16}, "26 00000000 040001 10"},
		{api.Msg{Kind: api.PortTell, Port: 16, Index: 32, N: 1}, "27 00000000 020001 20 040001 10 060001 01"},
		{api.Msg{Kind: api.PacketOut, Port: 1, Data: "abc"}, "28 00000000 040001 01 080003 616263"},
		{api.Msg{Kind: api.PacketIn, Port: 1, Tag: 300, Data: "\x00"}, "29 00000000 040001 01 050002 012c 080001 00"},
		{api.Msg{Kind: api.Expired, Entry: api.Entry{Table: 1}, Tag: 2}, "2a 00000000 050001 02 0d0004 010001 01"},
		{api.Msg{Kind: api.BoundGet}, "2b 00000000"},
		{api.Msg{Kind: api.BoundTell, N: 65536}, "2c 00000000 060003 010000"},
		{api.Msg{Kind: api.TableGet, ID: 16}, "2d 00000000 010001 10"},
		{api.Msg{Kind: api.TableTell, ID: 16, N: 256}, "2e 00000000 010001 10 060002 0100"},
	}
	if len(messages) != len(rows) {
		t.Fatal("not all kinds are there")
	}
	for i, c := range messages {
		if int(c.m.Kind) != i+1 {
			t.Fatalf("kind %d is not at its place", c.m.Kind)
		}
		holds(t, c.m, unhex(t, c.want))
	}
}

func TestNoKindP9_1P9_2(t *testing.T) {
	for kind := range 256 {
		k := uint8(kind)
		if kind >= 1 && kind <= 46 {
			holds(t, api.Msg{Kind: k}, front(k, 0))
			continue
		}
		for _, m := range []api.Msg{{Kind: k}, {Kind: k, Xid: 5}, {Kind: k, ID: 1}, {Kind: k, N: 1}, {Kind: k, Data: "a"}} {
			unencodable(t, m)
		}
		for _, s := range []string{"", "\x01", attr(1, "\x01"), attr(8, "a"), "\x00\x00\x00", "\x01\x00\x05a", attr(1, "\x00")} {
			refuses(t, front(k, 0)+s, api.ErrKind)
			refuses(t, front(k, math.MaxUint32)+s, api.ErrKind)
		}
	}
}

func TestIntsP9_1P9_2(t *testing.T) {
	eachKind(t, func(t *testing.T, kind uint8) {
		for _, name := range partsOf(kind) {
			for _, m := range []api.Msg{{Kind: kind}, filled(kind, 2)} {
				p := part(&m, name)
				if p.Kind() != reflect.Int {
					continue
				}
				for _, n := range []int64{0, 1, 2, 127, 128, 255, 256, 65535, 65536, 1<<24 - 1, 1 << 24, api.MaxInt - 1, api.MaxInt} {
					p.SetInt(n)
					holds(t, m, bodyOf(t, m))
				}
				for _, n := range []int64{-1, -2, -256, math.MinInt32, math.MinInt64, 1 << 31, 1<<32 - 1, 1 << 32, 1<<32 + 1, math.MaxInt64} {
					p.SetInt(n)
					unencodable(t, m)
				}
				for _, n := range []uint64{1 << 31, 1<<32 - 1, 1 << 32, 1<<32 + 1, 1 << 63, math.MaxUint64} {
					p.SetInt(int64(n))
					refuses(t, bodyOf(t, m), api.ErrForm)
				}
			}
		}
	})
}

func TestLongsP9_1P9_2(t *testing.T) {
	eachKind(t, func(t *testing.T, kind uint8) {
		for _, name := range partsOf(kind) {
			for _, m := range []api.Msg{{Kind: kind}, filled(kind, 2)} {
				p := part(&m, name)
				if p.Kind() != reflect.Uint64 {
					continue
				}
				for _, n := range []uint64{0, 1, 255, 256, api.MaxInt, 1 << 31, 1<<32 - 1, 1 << 32, 1<<56 - 1, 1 << 56, 1<<63 - 1, 1 << 63, math.MaxUint64 - 1, math.MaxUint64} {
					p.SetUint(n)
					holds(t, m, bodyOf(t, m))
				}
			}
		}
	})
}

// replaced is the body of m in which the attribute of that name has another value.
func replaced(t *testing.T, m api.Msg, name, value string) string {
	t.Helper()
	out := front(m.Kind, m.Xid)
	for _, number := range typesOf(m.Kind) {
		s := value
		if number != typeOf(name) {
			s = valueOf(t, part(&m, names[number-1]))
		}
		out += attr(number, s)
	}
	return out
}

func TestNumbersInBytesP9_2(t *testing.T) {
	eachKind(t, func(t *testing.T, kind uint8) {
		m := filled(kind, 2)
		for _, name := range partsOf(kind) {
			wrong := []string{"\x00", "\x00\x00", "\x00\x05", "\x00\x7f\xff\xff\xff", "\x00" + strings.Repeat("\xff", 8),
				"\x01" + strings.Repeat("\x00", 8), strings.Repeat("\xff", 9), strings.Repeat("\x00", 9), strings.Repeat("a", 300)}
			switch part(&m, name).Kind() {
			case reflect.Int:
				wrong = append(wrong, "\x80\x00\x00\x00", "\xff\xff\xff\xff", "\x01\x00\x00\x00\x00", strings.Repeat("\xff", 8))
			case reflect.Uint64:
			default:
				continue
			}
			for _, s := range wrong {
				refuses(t, replaced(t, m, name, s), api.ErrForm)
				refuses(t, front(kind, 0)+attr(typeOf(name), s), api.ErrForm)
			}
		}
	})
}

// wordKinds are the kinds that have Words.
func wordKinds() []uint8 {
	var out []uint8
	for _, kind := range allKinds() {
		if slices.Contains(partsOf(kind), "Words") {
			out = append(out, kind)
		}
	}
	return out
}

func TestWordsP9_1P9_2(t *testing.T) {
	for _, kind := range wordKinds() {
		for _, value := range []uint64{0, 1, 256, 1 << 63, math.MaxUint64} {
			for n := range api.MaxWords + 3 {
				words := slices.Repeat([]uint64{value}, n)
				m := api.Msg{Kind: kind, Xid: 9, Words: words}
				body := bodyOf(t, m)
				if n <= api.MaxWords {
					holds(t, m, body)
					continue
				}
				unencodable(t, m)
				refuses(t, body, api.ErrForm)
			}
		}
		unencodable(t, api.Msg{Kind: kind, Words: make([]uint64, 100000)})
		holds(t, api.Msg{Kind: kind, Words: []uint64{}}, front(kind, 0))
		holds(t, api.Msg{Kind: kind, Words: []uint64{5, 0, math.MaxUint64, 256}}, front(kind, 0)+attr(9, item("\x05")+item("")+item(strings.Repeat("\xff", 8))+item("\x01\x00")))
	}
	if len(wordKinds()) != 3 {
		t.Error(wordKinds())
	}
}

// What is wrong within the list of Words is ErrForm, also bytes that are missing there.
func TestWrongWordsP9_2(t *testing.T) {
	for _, kind := range wordKinds() {
		good := item("") + item("\x01") + item("\x01\x00")
		for _, s := range []string{"\x00", "\x01", "\xff", "\x00\x01", "\x00\x02a", "\xff\xff", "\x00\x00\x00", item("\x00"), item("\x00\x05"),
			item(strings.Repeat("\xff", 9)), item("\x01" + strings.Repeat("\x00", 8)), item(strings.Repeat("a", 1000))} {
			refuses(t, front(kind, 0)+attr(9, s), api.ErrForm)
			refuses(t, front(kind, 0)+attr(9, good+s), api.ErrForm)
			refuses(t, replaced(t, filled(kind, 2), "Words", good+s), api.ErrForm)
			if s[0] != 0 || len(s) > 3 {
				refuses(t, front(kind, 0)+attr(9, s+good), api.ErrForm)
			}
		}
		ends := []int{2, 5, 9}
		for at := 1; at <= len(good); at++ {
			if !slices.Contains(ends, at) {
				refuses(t, front(kind, 0)+attr(9, good[:at]), api.ErrForm)
			} else {
				agrees(t, front(kind, 0)+attr(9, good[:at]))
			}
		}
	}
}

// wrongObjects are objects that are not encodable, by their names.
func wrongObjects() map[string][]any {
	return map[string][]any{
		"Node":  {api.Node{ID: -1}, api.Node{Size: 1 << 31}, api.Node{Arms: make([]api.Arm, api.MaxArms+1)}, api.Node{Arms: []api.Arm{{Next: -1}}}},
		"Field": {api.Field{ID: -1}, api.Field{Off: 1 << 31}, api.Field{Width: math.MinInt}},
		"Table": {api.Table{Cap: -1}, api.Table{Keys: []int{1, -1}}, api.Table{Keys: make([]int, api.MaxKeys+1)}},
		"Entry": {api.Entry{Prio: -1}, api.Entry{Idle: -1}, api.Entry{Hard: math.MinInt64}, api.Entry{Key: strings.Repeat("k", api.MaxKey+1)},
			api.Entry{Other: strings.Repeat("k", 100000)}, api.Entry{Args: make([]uint64, api.MaxArgs+1)}},
		"Block": {api.Block{ID: -1}, api.Block{Code: make([]api.Instr, api.MaxCode+1)}, api.Block{Code: []api.Instr{{To: -1}}}, api.Block{Code: []api.Instr{{}, {N: 1 << 31}}}},
		"Group": {api.Group{Field: -1}, api.Group{Buckets: make([]api.Bucket, api.MaxBuckets+1)}, api.Group{Buckets: []api.Bucket{{Block: -1}}}},
		"Meter": {api.Meter{ID: -1}, api.Meter{Rate: -1}, api.Meter{Burst: math.MinInt64}},
		"Regs":  {api.Regs{ID: 1 << 31}, api.Regs{Size: -1}},
	}
}

func TestWrongObjectsP9_1P9_2(t *testing.T) {
	eachKind(t, func(t *testing.T, kind uint8) {
		for name, wrong := range wrongObjects() {
			for _, x := range wrong {
				for _, m := range []api.Msg{{Kind: kind}, filled(kind, 1)} {
					part(&m, name).Set(reflect.ValueOf(x))
					unencodable(t, m)
				}
			}
		}
	})
}

// Bytes that are no encoding of their object are ErrForm, whatever package obj says of them.
func TestWrongObjectBytesP9_2(t *testing.T) {
	eachKind(t, func(t *testing.T, kind uint8) {
		for _, name := range partsOf(kind) {
			c, ok := coders[name]
			if !ok {
				continue
			}
			m := filled(kind, 2)
			whole := valueOf(t, part(&m, name))
			wrong := []string{"\x00", "\x01", "\x01\x00", "\x01\x00\x01", "\x01\x00\x00", "\x00\x00\x01\x01", attr(1, "\x00"), attr(1, "\x80\x00\x00\x00"), attr(1, strings.Repeat("a", 9)),
				attr(12, "\x01"), attr(255, "\x01"), attr(2, "\x00\x05"), attr(2, "\x01") + attr(1, "\x01"), attr(1, "\x01") + attr(1, "\x01"), whole + whole, whole + "\xff", whole + attr(12, "a"), "\x00" + whole}
			for at := 1; at < len(whole); at++ {
				wrong = append(wrong, whole[:at])
			}
			for _, s := range wrong {
				if _, e := c.get(s); e == api.OK || name == "Entry" && strings.HasPrefix(s, "\x02") {
					agrees(t, replaced(t, m, name, s))
					continue
				}
				refuses(t, replaced(t, m, name, s), api.ErrForm)
				refuses(t, front(kind, 0)+attr(typeOf(name), s), api.ErrForm)
			}
		}
	})
}

// Many bytes in the attribute of an object are the encoding of another one, or of none.
func TestObjectBytesP9_3(t *testing.T) {
	x := newSamples()
	eachKind(t, func(t *testing.T, kind uint8) {
		for _, name := range partsOf(kind) {
			if _, ok := coders[name]; !ok {
				continue
			}
			for range 300 {
				m := x.randomMsg(kind)
				s := valueOf(t, part(&m, name))
				if s == "" {
					continue
				}
				at := x.below(len(s))
				b := string([]byte{[]byte{0, 1, 2, byte(x.next() >> 32), s[at] + 1, s[at] - 1}[x.below(6)]})
				for _, c := range []string{s[:at] + b + s[at+1:], s[:at] + b + s[at:], s[:at] + s[at+1:], s[:at]} {
					agrees(t, front(kind, m.Xid)+attr(typeOf(name), c))
				}
			}
		}
	})
}

// dataKinds are the kinds that have Data.
var dataKinds = []uint8{api.Echo, api.EchoTell, api.PacketOut, api.PacketIn}

func TestDataP9_1P9_2(t *testing.T) {
	for _, kind := range dataKinds {
		for _, s := range []string{"", "\x00", "\x00\x00", "a", "\xff\xfe\xfd", strings.Repeat("\x00", 255), strings.Repeat("x", 256), strings.Repeat("y", api.MaxPacket)} {
			m := api.Msg{Kind: kind, Xid: 3, Data: s}
			holds(t, m, bodyOf(t, m))
			m = filled(kind, 1)
			m.Data = s
			holds(t, m, bodyOf(t, m))
		}
	}
}

func TestMaxBodyP9_2(t *testing.T) {
	for _, kind := range dataKinds {
		for _, m := range []api.Msg{{Kind: kind}, {Kind: kind, Xid: math.MaxUint32}, filled(kind, 1)} {
			m.Data = "d"
			room := api.MaxBody - len(bodyOf(t, m)) + 1
			for _, c := range []string{"\x00", "\xff", "d"} {
				for less := range 3 {
					m.Data = strings.Repeat(c, room-less)
					body := bodyOf(t, m)
					if len(body) != api.MaxBody-less {
						t.Fatal(len(body))
					}
					holds(t, m, body)
				}
				for _, more := range []int{1, 2, 3, 100} {
					m.Data = strings.Repeat(c, room+more)
					tooLong(t, m)
					refuses(t, bodyOf(t, m), api.ErrLong)
				}
			}
			for _, n := range []int{65535 - 8, 65535, 65536, 65536 + 8, 1<<16 + 100, 1 << 17, 1 << 20} {
				m.Data = strings.Repeat("d", n)
				tooLong(t, m)
			}
		}
	}
}

// The length of a body comes before its kind, and before what is wrong with its attributes.
func TestLongBodyP9_2(t *testing.T) {
	for _, s := range []string{"\x00", "\x01", "\xff", attr(1, "\x00")} {
		for kind := range 256 {
			long := front(uint8(kind), 0) + strings.Repeat(s, api.MaxBody/len(s))
			refuses(t, long, api.ErrLong)
			refuses(t, long[:api.MaxBody+1], api.ErrLong)
			agrees(t, long[:api.MaxBody])
			refuses(t, strings.Repeat(long, 5), api.ErrLong)
		}
	}
}

func TestShortBodyP9_2(t *testing.T) {
	for kind := range 256 {
		for _, xid := range []uint32{0, 1, math.MaxUint32, 0x01020304} {
			s := front(uint8(kind), xid)
			for n := range 5 {
				refuses(t, s[:n], api.ErrShort)
			}
			if kind >= 1 && kind <= 46 {
				holds(t, api.Msg{Kind: uint8(kind), Xid: xid}, s)
			} else {
				refuses(t, s, api.ErrKind)
			}
		}
	}
}

// Of two things that are wrong, the one that is named first counts.
func TestErrorOrderP9_2(t *testing.T) {
	long := strings.Repeat("d", api.MaxBody)
	for _, m := range []api.Msg{
		{Kind: 0, Data: long}, {Kind: 47, Data: long}, {Kind: 255, Data: long}, {Kind: api.Hello, Data: long}, {Kind: api.Echo, Data: long, M: 1},
		{Kind: api.Echo, Data: long, Regs: api.Regs{ID: 1}}, {Kind: api.PacketOut, Data: long, Port: -1}, {Kind: api.PacketIn, Data: long, Tag: 1 << 31},
		{Kind: api.PacketOut, Data: strings.Repeat("d", 1<<16), Tag: 1}, {Kind: api.PacketOut, Data: strings.Repeat("d", 1<<16), Words: []uint64{0}},
	} {
		unencodable(t, m)
	}
	eachKind(t, func(t *testing.T, kind uint8) {
		for _, wrong := range []string{attr(1, "\x00"), attr(18, "\x01"), attr(17, "\x00"), attr(6, strings.Repeat("1", 9)), attr(9, "\x00"), attr(4, "\x80\x00\x00\x00")} {
			refuses(t, front(kind, 0)+wrong, api.ErrForm)
			for _, cut := range []string{"\xff", "\xff\x00", "\xff\x00\x01", "\xff\xff\xff\x01"} {
				refuses(t, front(kind, 0)+wrong+cut, api.ErrShort)
			}
			for _, form := range []string{"\xff\x00\x00", wrong, "\xff\x00\x00\xff", "\x00\x00\x01"} {
				refuses(t, front(kind, 0)+wrong+form, api.ErrForm)
			}
		}
		// Of two attributes that are wrong as such the first one counts.
		refuses(t, front(kind, 0)+"\x01\x00\x00\x02", api.ErrForm)
		refuses(t, front(kind, 0)+"\x01\x00\x05\x00\x00\x00", api.ErrShort)
		refuses(t, front(kind, 0)+attr(2, "\x01")+"\x01\x00\x05", api.ErrForm)
	})
}

func TestAttributesP9_2(t *testing.T) {
	eachKind(t, func(t *testing.T, kind uint8) {
		m := filled(kind, 2)
		l := attrsOf(t, m)
		if len(l) != len(partsOf(kind)) {
			t.Fatal("not all parts are there")
		}
		head := front(kind, m.Xid)
		for i, number := range typesOf(kind) {
			only := api.Msg{Kind: kind, Xid: m.Xid}
			part(&only, names[number-1]).Set(part(&m, names[number-1]))
			holds(t, only, head+l[i])
			refuses(t, head+l[i]+l[i], api.ErrForm)
			refuses(t, head+strings.Join(l[:i+1], "")+strings.Join(l[i:], ""), api.ErrForm)
			refuses(t, head+string([]byte{number, 0, 0}), api.ErrForm)
			refuses(t, head+strings.Join(l[:i], "")+string([]byte{number, 0, 0})+strings.Join(l[i+1:], ""), api.ErrForm)
			for j := range i {
				refuses(t, head+l[i]+l[j], api.ErrForm)
				swapped := slices.Clone(l)
				swapped[i], swapped[j] = l[j], l[i]
				refuses(t, head+strings.Join(swapped, ""), api.ErrForm)
				both := only
				other := names[typesOf(kind)[j]-1]
				part(&both, other).Set(part(&m, other))
				holds(t, both, head+l[j]+l[i])
			}
		}
		refuses(t, head+"\x00\x00\x01\x01", api.ErrForm)
		refuses(t, head+"\x00\x00\x01\x01"+strings.Join(l, ""), api.ErrForm)
	})
}

// An attribute of each type in each kind, at its place: only what the kind has is read.
func TestTypesP9_2(t *testing.T) {
	eachKind(t, func(t *testing.T, kind uint8) {
		m := filled(kind, 1)
		for number := 1; number < 256; number++ {
			if slices.Contains(typesOf(kind), uint8(number)) {
				continue
			}
			for _, value := range []string{"\x01", "\x00", "text", item("\x01") + item(""), attr(1, "\x01")} {
				refuses(t, front(kind, 0)+attr(uint8(number), value), api.ErrForm)
				body, placed := front(kind, 0), false
				for _, own := range typesOf(kind) {
					if int(own) > number && !placed {
						body, placed = body+attr(uint8(number), value), true
					}
					body += attr(own, valueOf(t, part(&m, names[own-1])))
				}
				if !placed {
					body += attr(uint8(number), value)
				}
				refuses(t, body, api.ErrForm)
			}
		}
	})
}

// otherMsgs are messages that differ from m in just one part, also in ones that its kind does not have.
func otherMsgs(m api.Msg) []api.Msg {
	out := []api.Msg{}
	add := func(change func(m *api.Msg)) {
		other := m
		change(&other)
		out = append(out, other)
	}
	for bit := range 8 {
		add(func(m *api.Msg) { m.Kind ^= 1 << bit })
	}
	for bit := range 32 {
		add(func(m *api.Msg) { m.Xid ^= 1 << bit })
	}
	for _, name := range names {
		fresh := func(change func(v reflect.Value)) {
			add(func(m *api.Msg) {
				v := part(m, name)
				own := cloned(v)
				change(own)
				v.Set(own)
			})
		}
		for i := range leaves(cloned(part(&m, name))) {
			for _, n := range []uint64{1, 256, 1 << 31, 1 << 63} {
				fresh(func(v reflect.Value) { changeLeaf(leaves(v)[i], n) })
			}
		}
		for i := range listsOf(cloned(part(&m, name))) {
			fresh(func(v reflect.Value) {
				l := listsOf(v)[i]
				l.Set(reflect.Append(l, reflect.Zero(l.Type().Elem())))
			})
			if listsOf(cloned(part(&m, name)))[i].Len() > 0 {
				fresh(func(v reflect.Value) { listsOf(v)[i].SetZero() })
				fresh(func(v reflect.Value) {
					l := listsOf(v)[i]
					l.Set(l.Slice(0, l.Len()-1))
				})
			}
		}
	}
	return out
}

// cloned is a copy of v that shares no list with it.
func cloned(v reflect.Value) reflect.Value {
	out := reflect.New(v.Type()).Elem()
	out.Set(v)
	for _, l := range listsOf(out) {
		l.Set(reflect.AppendSlice(reflect.MakeSlice(l.Type(), 0, l.Len()), l))
	}
	return out
}

// changeLeaf makes v another number, or another text or truth.
func changeLeaf(v reflect.Value, bit uint64) {
	switch {
	case v.CanInt():
		v.SetInt(v.Int() ^ int64(bit))
	case v.CanUint():
		bit &= greatest(v.Type())
		v.SetUint(v.Uint() ^ max(bit, 1))
	case v.Kind() == reflect.Bool:
		v.SetBool(!v.Bool())
	default:
		v.SetString(v.String() + "\x00")
	}
}

func TestSameP9_1P9_4(t *testing.T) {
	eachKind(t, func(t *testing.T, kind uint8) {
		for _, items := range []int{0, 1, 2} {
			m := filled(kind, items)
			alike(t, m, m)
			alike(t, m, filled(kind, items))
			others := otherMsgs(m)
			if len(others) < 40+4*len(names) {
				t.Fatal(len(others))
			}
			for _, other := range others {
				differ(t, m, other)
				alike(t, other, other)
			}
			alike(t, m, filled(kind, items))
		}
	})
}

// Messages that are not encodable are compared in the same way; a list that is nil and one of no items are the same.
func TestSameAnyP9_1(t *testing.T) {
	for _, kind := range []uint8{0, 1, 47, 255} {
		a, b := api.Msg{Kind: kind}, api.Msg{Kind: kind}
		alike(t, a, b)
		fill(reflect.ValueOf(&a).Elem(), 3)
		fill(reflect.ValueOf(&b).Elem(), 3)
		alike(t, a, b)
		for _, other := range otherMsgs(a) {
			differ(t, a, other)
		}
		for i, leaf := range leaves(reflect.ValueOf(&a).Elem()) {
			if leaf.CanInt() {
				leaf.SetInt(-5)
				leaves(reflect.ValueOf(&b).Elem())[i].SetInt(-5)
			}
		}
		alike(t, a, b)
	}
	alike(t, api.Msg{Words: make([]uint64, 1000)}, api.Msg{Words: make([]uint64, 1000, 2000)})
	none := api.Msg{Kind: api.Hello}
	for _, l := range listsOf(reflect.ValueOf(&none).Elem()) {
		l.Set(reflect.MakeSlice(l.Type(), 0, 5))
	}
	alike(t, none, api.Msg{Kind: api.Hello})
	eachKind(t, func(t *testing.T, kind uint8) {
		none.Kind = kind
		alike(t, none, api.Msg{Kind: kind})
		if s, e := Encode(none); !May(none) || s != front(kind, 0) || e != api.OK {
			t.Errorf("lists of no items: %x, error %d", s, e)
		}
	})
}

func TestAddedP9_5(t *testing.T) {
	eachKind(t, func(t *testing.T, kind uint8) {
		for _, name := range names {
			for _, m := range []api.Msg{{Kind: kind}, {Kind: kind, Xid: 7}, filled(kind, 2)} {
				if slices.Contains(partsOf(kind), name) {
					holds(t, m, bodyOf(t, m))
					continue
				}
				// Just one of the numbers of which the part consists is enough, so is a list of one item that is 0.
				for i := range leaves(part(&m, name)) {
					leaf := leaves(part(&m, name))[i]
					changeLeaf(leaf, 1)
					unencodable(t, m)
					leaf.SetZero()
				}
				for i := range listsOf(part(&m, name)) {
					l := listsOf(part(&m, name))[i]
					l.Set(reflect.MakeSlice(l.Type(), 1, 1))
					unencodable(t, m)
					l.Set(reflect.MakeSlice(l.Type(), 0, 1))
					if !May(m) {
						t.Fatalf("a list of no items: May of %+v: false", m)
					}
					l.SetZero()
				}
				fill(part(&m, name), 1)
				unencodable(t, m)
				if m.Data != "" {
					m.Data = strings.Repeat("d", 1<<17)
					unencodable(t, m)
				}
			}
		}
	})
}

// A cut within an attribute is ErrShort, wherever; one between two attributes leaves the parts before it.
func TestCutP9_6(t *testing.T) {
	eachKind(t, func(t *testing.T, kind uint8) {
		for _, items := range []int{0, 1, 3} {
			m := filled(kind, items)
			body := bodyOf(t, m)
			before := api.Msg{Kind: kind, Xid: m.Xid}
			ends := map[int]api.Msg{5: before}
			for _, number := range typesOf(kind) {
				part(&before, names[number-1]).Set(part(&m, names[number-1]))
				ends[len(bodyOf(t, before))] = before
			}
			for at := range len(body) + 1 {
				if kept, ok := ends[at]; ok {
					holds(t, kept, body[:at])
				} else {
					refuses(t, body[:at], api.ErrShort)
				}
			}
		}
	})
}

func TestFollowedP9_6(t *testing.T) {
	x := newSamples()
	eachKind(t, func(t *testing.T, kind uint8) {
		for _, m := range []api.Msg{{Kind: kind}, filled(kind, 2), x.randomMsg(kind), x.randomMsg(kind)} {
			body := bodyOf(t, m)
			last := uint8(0)
			for _, number := range typesOf(kind) {
				if valueOf(t, part(&m, names[number-1])) != "" {
					last = number
				}
			}
			for number := int(last) + 1; number < 256; number++ {
				if slices.Contains(typesOf(kind), uint8(number)) {
					agrees(t, body+attr(uint8(number), "\x01"))
					continue
				}
				for _, value := range []string{"\x01", "\x00", "text", item("\x01"), attr(1, "\x01"), strings.Repeat("v", 300)} {
					refuses(t, body+attr(uint8(number), value), api.ErrForm)
				}
			}
			for number := range int(last) + 1 {
				refuses(t, body+attr(uint8(number), "\x01"), api.ErrForm)
			}
			holds(t, api.Msg{Kind: kind, Xid: m.Xid}, body[:5])
		}
	})
}

func TestXidP9_7(t *testing.T) {
	x := newSamples()
	eachKind(t, func(t *testing.T, kind uint8) {
		for _, m := range []api.Msg{{Kind: kind}, filled(kind, 2), x.randomMsg(kind)} {
			m.Xid = 0
			without, _ := Encode(m)
			for _, xid := range []uint32{0, 1, 255, 256, 65535, 65536, 1<<24 - 1, 1 << 24, 1<<31 - 1, 1 << 31, math.MaxUint32 - 1, math.MaxUint32, 0x01020304} {
				m.Xid = xid
				body, e := Encode(m)
				if e != api.OK || body != without[:1]+string([]byte{byte(xid >> 24), byte(xid >> 16), byte(xid >> 8), byte(xid)})+without[5:] {
					t.Fatalf("Encode with Xid %d: %x, error %d; with Xid 0: %x", xid, body, e, without)
				}
				holds(t, m, body)
			}
		}
	})
}

func TestRoundP9_3(t *testing.T) {
	x := newSamples()
	eachKind(t, func(t *testing.T, kind uint8) {
		for range 200 {
			m := x.randomMsg(kind)
			holds(t, m, bodyOf(t, m))
		}
	})
}

// Bytes of any kind are refused, or encoded again as they were.
func TestAnyBytesP9_3(t *testing.T) {
	eachKind(t, func(t *testing.T, kind uint8) {
		of := "\x00\x01\x02\x06\x09"
		at := []string{""}
		for range 5 {
			var longer []string
			for _, s := range at {
				agrees(t, front(kind, 0)+s)
				for i := range len(of) {
					longer = append(longer, s+of[i:i+1])
				}
			}
			at = longer
		}
		for _, s := range at {
			agrees(t, front(kind, 0)+s)
		}
		x := newSamples()
		for range 1000 {
			agrees(t, front(kind, 0)+x.text(x.below(20)))
			agrees(t, x.text(x.below(20)))
		}
	})
}

// Bodies with a byte changed, inserted or deleted are refused, or those of other messages.
func TestChangedBytesP9_3P9_4(t *testing.T) {
	x := newSamples()
	eachKind(t, func(t *testing.T, kind uint8) {
		for range 40 {
			m := x.randomMsg(kind)
			s := bodyOf(t, m)
			for range min(len(s), 40) {
				at := x.below(len(s))
				b := string([]byte{[]byte{0, 1, 2, byte(x.next() >> 32), s[at] + 1, s[at] - 1}[x.below(6)]})
				for _, c := range []string{s[:at] + b + s[at+1:], s[:at] + b + s[at:], s[:at] + s[at+1:]} {
					agrees(t, c)
					if other, e := Decode(c); e == api.OK && c != s && (equalMsgs(m, other) || Same(m, other)) {
						t.Fatalf("%x and %x are the same message", s, c)
					}
				}
			}
		}
	})
}

func TestDistinctP9_4(t *testing.T) {
	x := newSamples()
	seen := map[string]api.Msg{}
	for range 100 {
		for _, kind := range allKinds() {
			m := x.randomMsg(kind)
			s, e := Encode(m)
			if e != api.OK {
				t.Fatalf("Encode of %+v: error %d", m, e)
			}
			if other, ok := seen[s]; ok && !(equalMsgs(m, other) && Same(m, other)) {
				t.Fatalf("Encode of %+v, and of %+v: %x", m, other, s)
			}
			seen[s] = m
		}
	}
}

// Neither an argument is changed, nor has an answer memory of an argument, or of another answer.
func TestOwnMemoryP9_2(t *testing.T) {
	within := func(part, s string) bool {
		p, from := uintptr(unsafe.Pointer(unsafe.StringData(part))), uintptr(unsafe.Pointer(unsafe.StringData(s)))
		return from <= p && p < from+uintptr(len(s))
	}
	eachKind(t, func(t *testing.T, kind uint8) {
		m, kept := filled(kind, 3), filled(kind, 3)
		s, e := Encode(m)
		if e != api.OK {
			t.Fatal(e)
		}
		May(m)
		Same(m, kept)
		a, _ := Decode(s)
		b, _ := Decode(s)
		if within(a.Data, s) || within(a.Entry.Key, s) || within(a.Entry.Other, s) {
			t.Fatal("an answer shares memory with an argument")
		}
		for _, leaf := range leaves(reflect.ValueOf(&a).Elem()) {
			leaf.SetZero()
		}
		if !equalMsgs(b, kept) || !equalMsgs(m, kept) {
			t.Fatal("an argument was changed, or two answers share memory")
		}
	})
}
