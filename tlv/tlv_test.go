package tlv

import (
	"encoding/binary"
	"encoding/hex"
	"math"
	"math/big"
	"slices"
	"strings"
	"testing"
	"unsafe"

	"turnout/api"
)

// samples yields numbers without a pattern, always the same ones.
type samples uint64

func newSamples() *samples {
	x := samples(88172645463325252)
	return &x
}

func (x *samples) next() uint64 {
	*x ^= *x << 13
	*x ^= *x >> 7
	*x ^= *x << 17
	return uint64(*x)
}

// below yields a number from 0 to n - 1.
func (x *samples) below(n int) int {
	return int(x.next() >> 33 % uint64(n))
}

func (x *samples) text(n int) string {
	b := make([]byte, n)
	for i := range b {
		b[i] = byte(x.next() >> 32)
	}
	return string(b)
}

// unhex is the string of hexadecimal digits, which may have spaces between them.
func unhex(t *testing.T, digits string) string {
	t.Helper()
	b, err := hex.DecodeString(strings.ReplaceAll(digits, " ", ""))
	if err != nil {
		t.Fatal(err)
	}
	return string(b)
}

// brief is a text for a message: of a long one the beginning, and how many bytes it has.
func brief(s string) (string, int) {
	return s[:min(len(s), 40)], len(s)
}

// written is an item behind its length, by means of the library.
func written(s string) string {
	return string(binary.BigEndian.AppendUint16(nil, uint16(len(s)))) + s
}

// attrBytes and listBytes are encodings by another rule than the program's: joined parts.
func attrBytes(l []Attr) string {
	var parts []string
	for _, a := range l {
		parts = append(parts, string([]byte{a.Type}), written(a.Value))
	}
	return strings.Join(parts, "")
}

func listBytes(l []string) string {
	var parts []string
	for _, s := range l {
		parts = append(parts, written(s))
	}
	return strings.Join(parts, "")
}

func encodes(t *testing.T, l []Attr, want string) {
	t.Helper()
	kept := slices.Clone(l)
	got, e := Encode(l)
	if got != want || e != api.OK {
		g, n := brief(got)
		w, m := brief(want)
		t.Fatalf("Encode of %d attributes: %x (%d bytes), error %d, not %x (%d bytes)", len(l), g, n, e, w, m)
	}
	if !slices.Equal(l, kept) {
		t.Fatal("Encode changed its argument")
	}
}

func decodes(t *testing.T, s string, want []Attr) {
	t.Helper()
	got, e := Decode(s)
	if !slices.Equal(got, want) || e != api.OK {
		g, n := brief(s)
		t.Fatalf("Decode of %x (%d bytes): %d attributes, error %d, not %d attributes", g, n, len(got), e, len(want))
	}
}

func encodeFails(t *testing.T, l []Attr, want api.Errno) {
	t.Helper()
	if s, e := Encode(l); s != "" || e != want {
		t.Fatalf("Encode of %d attributes: %d bytes, error %d, not error %d", len(l), len(s), e, want)
	}
}

func decodeFails(t *testing.T, s string, want api.Errno) {
	t.Helper()
	if l, e := Decode(s); len(l) != 0 || e != want {
		g, n := brief(s)
		t.Fatalf("Decode of %x (%d bytes): %d attributes, error %d, not error %d", g, n, len(l), e, want)
	}
}

func lists(t *testing.T, l []string, want string) {
	t.Helper()
	kept := slices.Clone(l)
	got, e := List(l)
	if got != want || e != api.OK {
		g, n := brief(got)
		w, m := brief(want)
		t.Fatalf("List of %d items: %x (%d bytes), error %d, not %x (%d bytes)", len(l), g, n, e, w, m)
	}
	if !slices.Equal(l, kept) {
		t.Fatal("List changed its argument")
	}
}

func listReads(t *testing.T, s string, most int, want []string) {
	t.Helper()
	got, e := ReadList(s, most)
	if !slices.Equal(got, want) || e != api.OK {
		g, n := brief(s)
		t.Fatalf("ReadList of %x (%d bytes), %d: %d items, error %d, not %d items", g, n, most, len(got), e, len(want))
	}
}

func listFails(t *testing.T, s string, most int, want api.Errno) {
	t.Helper()
	if l, e := ReadList(s, most); len(l) != 0 || e != want {
		g, n := brief(s)
		t.Fatalf("ReadList of %x (%d bytes), %d: %d items, error %d, not error %d", g, n, most, len(l), e, want)
	}
}

func numberIs(t *testing.T, s string, most, want uint64) {
	t.Helper()
	if n, e := ReadNum(s, most); n != want || e != api.OK {
		t.Fatalf("ReadNum of %x, %d: %d, error %d, not %d", s, most, n, e, want)
	}
}

func numberFails(t *testing.T, s string, most uint64) {
	t.Helper()
	if n, e := ReadNum(s, most); n != 0 || e != api.ErrForm {
		t.Fatalf("ReadNum of %x, %d: %d, error %d, not error %d", s, most, n, e, api.ErrForm)
	}
}

// values are of one byte and more, up to as many as one may have, zero bytes and what looks like attributes among them.
func values() []string {
	x := newSamples()
	out := []string{"\x00", "a", "\x00\x00\x00", "\xff\xff\xff\xff", "\x01\x00\x01a", x.text(254), x.text(255), x.text(256), x.text(257), x.text(65534), x.text(65535)}
	for n := range 12 {
		out = append(out, x.text(n+1))
	}
	return out
}

// attrLists are attributes that may be encoded: none, each type alone, all of them, and some of many kinds.
func attrLists() [][]Attr {
	x := newSamples()
	out := [][]Attr{nil, {}}
	var all []Attr
	for i := range 255 {
		a := Attr{uint8(i + 1), x.text(1 + i%5)}
		out = append(out, []Attr{a})
		all = append(all, a)
	}
	out = append(out, all)
	v := values()
	for i := range 400 {
		var l []Attr
		for at := 1 + x.below(60); at <= 255 && len(l) < i%7; at += 1 + x.below(60) {
			l = append(l, Attr{uint8(at), v[x.below(len(v))]})
		}
		out = append(out, l)
	}
	return out
}

// itemLists are lists: of no items, of empty ones, of long ones, and of many.
func itemLists() [][]string {
	x := newSamples()
	out := [][]string{nil, {}, {""}, {"", ""}, {"", "a"}, {"a", ""}, {"a", "", "b"}, {"\x00"}, {"\x00\x00"}, {"\x00\x01a"}, {"a", "a", "a"}, make([]string, 1000)}
	for _, v := range values() {
		out = append(out, []string{v}, []string{"", v, "b"})
	}
	for i := range 300 {
		var l []string
		for range i % 9 {
			l = append(l, x.text(x.below(6)))
		}
		out = append(out, l)
	}
	return out
}

// shortStrings are all strings of up to most of these bytes.
func shortStrings(of string, most int) []string {
	out := []string{""}
	for from, n := 0, 0; n < most; n++ {
		end := len(out)
		for _, s := range out[from:end] {
			for i := range len(of) {
				out = append(out, s+of[i:i+1])
			}
		}
		from = end
	}
	return out
}

// numbers are at both ends and at each edge of a count of bytes, and some between.
func numbers() []uint64 {
	out := []uint64{0, 1, 2, 127, 128, api.MaxInt - 1, api.MaxInt, api.MaxInt + 1, math.MaxUint64 - 1, math.MaxUint64}
	x := newSamples()
	for bits := range 64 {
		n := uint64(1) << bits
		out = append(out, n-1, n, n+1, x.next()>>bits, n*0x81)
	}
	slices.Sort(out)
	return slices.Compact(out)
}

// bigBytes are the bytes of a number, by means of the library.
func bigBytes(n uint64) string {
	return string(new(big.Int).SetUint64(n).Bytes())
}

func TestEncodeP6_1(t *testing.T) {
	for _, l := range attrLists() {
		encodes(t, l, attrBytes(l))
	}
	encodes(t, nil, "")
	encodes(t, []Attr{{3, "ab"}}, unhex(t, "03 00 02 61 62"))
	encodes(t, []Attr{{1, "\x00"}, {2, "\xff"}, {255, "abc"}}, unhex(t, "01 00 01 00 02 00 01 ff ff 00 03 61 62 63"))
	long := strings.Repeat("a", 65535)
	encodes(t, []Attr{{1, long[:256]}, {254, long}, {255, "b"}}, "\x01\x01\x00"+long[:256]+"\xfe\xff\xff"+long+"\xff\x00\x01b")
}

func TestDecodeP6_1(t *testing.T) {
	for _, l := range attrLists() {
		decodes(t, attrBytes(l), l)
	}
	decodes(t, "", nil)
	decodes(t, unhex(t, "03 00 02 61 62"), []Attr{{3, "ab"}})
	decodes(t, unhex(t, "01 00 01 00 02 00 01 ff ff 00 03 61 62 63"), []Attr{{1, "\x00"}, {2, "\xff"}, {255, "abc"}})
	decodeFails(t, unhex(t, "03 00 00"), api.ErrForm)
	decodeFails(t, unhex(t, "03 00"), api.ErrShort)
	decodeFails(t, unhex(t, "03 00 02 61"), api.ErrShort)
}

func TestEncodeErrorsP6_1(t *testing.T) {
	long := strings.Repeat("a", 65536)
	encodeFails(t, []Attr{{0, "a"}}, api.ErrForm)
	encodeFails(t, []Attr{{1, ""}}, api.ErrForm)
	encodeFails(t, []Attr{{}}, api.ErrForm)
	encodeFails(t, []Attr{{1, "a"}, {0, "a"}}, api.ErrForm)
	encodeFails(t, []Attr{{255, "a"}, {0, "a"}}, api.ErrForm)
	encodeFails(t, []Attr{{1, "a"}, {2, ""}}, api.ErrForm)
	encodeFails(t, []Attr{{1, long}}, api.ErrLong)
	encodeFails(t, []Attr{{255, long + long}}, api.ErrLong)
	encodeFails(t, []Attr{{1, "a"}, {2, long}, {3, "b"}}, api.ErrLong)
	// The first wrong attribute counts, and of one attribute ErrForm before ErrLong.
	encodeFails(t, []Attr{{0, long}}, api.ErrForm)
	encodeFails(t, []Attr{{1, "a"}, {1, long}}, api.ErrForm)
	encodeFails(t, []Attr{{1, long}, {1, "a"}}, api.ErrLong)
	encodeFails(t, []Attr{{1, long}, {2, ""}}, api.ErrLong)
	encodeFails(t, []Attr{{2, ""}, {3, long}}, api.ErrForm)
	for a := range 256 {
		for b := range 256 {
			l := []Attr{{uint8(a), "a"}, {uint8(b), "b"}}
			if 0 < a && a < b {
				encodes(t, l, attrBytes(l))
			} else {
				encodeFails(t, l, api.ErrForm)
			}
		}
	}
}

func TestDecodeErrorsP6_1(t *testing.T) {
	for _, s := range []string{"00 00 01 61", "00 00 00", "01 00 00", "00 ff ff", "00 00 05 61", "01 00 00 02 00", "01 00 01 61 01 00 01 62", "01 00 01 61 01 ff ff", "02 00 01 61 01 00 01 62", "ff 00 01 61 00 00 01 62", "01 00 01 61 02 00 00", "00 00 01 61 02"} {
		decodeFails(t, unhex(t, s), api.ErrForm)
	}
	for _, s := range []string{"00", "01", "ff", "00 00", "01 00", "ff ff", "01 00 01", "ff ff ff", "01 01 00 61", "01 00 02 61", "01 00 01 61 01", "01 00 01 61 01 00", "01 00 01 61 00", "01 00 01 61 02 00 01"} {
		decodeFails(t, unhex(t, s), api.ErrShort)
	}
	// Of two wrong attributes the first one counts.
	decodeFails(t, unhex(t, "01 00 00 02"), api.ErrForm)
	decodeFails(t, unhex(t, "01 00 09 00 00 00"), api.ErrShort)
	long := strings.Repeat("a", 65535)
	decodeFails(t, "\x01\xff\xff"+long[1:], api.ErrShort)
	decodeFails(t, "\x01\xff\xff"+long+"a", api.ErrShort)
	decodeFails(t, "\x01\xff\xff"+long+"\x01\x00\x01a", api.ErrForm)
	for a := range 256 {
		for b := range 256 {
			l := []Attr{{uint8(a), "a"}, {uint8(b), "b"}}
			if 0 < a && a < b {
				decodes(t, attrBytes(l), l)
			} else {
				decodeFails(t, attrBytes(l), api.ErrForm)
			}
		}
	}
}

// What is answered lies beside what was passed, not in it.
func TestOwnMemoryP6_1(t *testing.T) {
	within := func(part, s string) bool {
		p, from := uintptr(unsafe.Pointer(unsafe.StringData(part))), uintptr(unsafe.Pointer(unsafe.StringData(s)))
		return from <= p && p < from+uintptr(len(s))
	}
	s := string([]byte("\x01\x00\x02ab\x02\x00\x02cd"))
	attrs, _ := Decode(s)
	items, _ := ReadList(s[1:5], 1)
	if len(attrs) != 2 || len(items) != 1 {
		t.Fatal(attrs, items)
	}
	if within(attrs[0].Value, s) || within(attrs[1].Value, s) || within(items[0], s) {
		t.Error("an answer shares memory with an argument")
	}
}

func TestNumP6_2(t *testing.T) {
	for _, n := range numbers() {
		s := bigBytes(n)
		if got := Num(n); got != s {
			t.Errorf("Num of %d: %x, not %x", n, got, s)
		}
		numberIs(t, s, math.MaxUint64, n)
		numberIs(t, s, n, n)
	}
	for n, s := range map[uint64]string{0: "", 1: "01", 255: "ff", 256: "01 00", 65535: "ff ff", 65536: "01 00 00", 0x0102030405060708: "01 02 03 04 05 06 07 08", math.MaxUint64: "ff ff ff ff ff ff ff ff", 1 << 56: "01 00 00 00 00 00 00 00", 1<<56 - 1: "ff ff ff ff ff ff ff"} {
		if got := Num(n); got != unhex(t, s) {
			t.Errorf("Num of %d: %x, not %s", n, got, s)
		}
	}
}

func TestReadNumErrorsP6_2(t *testing.T) {
	for _, n := range numbers() {
		s := bigBytes(n)
		for _, zeros := range []string{"\x00", "\x00\x00", strings.Repeat("\x00", 8)} {
			numberFails(t, zeros+s, math.MaxUint64)
		}
		if n > 0 {
			numberFails(t, s, n-1)
			numberFails(t, s, n/2)
			numberFails(t, s, 0)
		}
		if n < math.MaxUint64 {
			numberIs(t, s, n+1, n)
		}
	}
	for k := range 12 {
		if k > 0 {
			numberFails(t, strings.Repeat("\x00", k), math.MaxUint64)
		}
		numberFails(t, strings.Repeat("\xff", 9+k), math.MaxUint64)
		numberFails(t, "\x01"+strings.Repeat("\x00", 8+k), math.MaxUint64)
	}
	numberFails(t, "\x01"+strings.Repeat("\x00", 1<<20), math.MaxUint64)
	numberIs(t, "", 0, 0)
	numberFails(t, "\x00", 0)
	numberFails(t, "\x01", 0)
	numberIs(t, "\x7f\xff\xff\xff", api.MaxInt, api.MaxInt)
	numberFails(t, "\x80\x00\x00\x00", api.MaxInt)
}

func TestListP6_2(t *testing.T) {
	for _, l := range itemLists() {
		s := listBytes(l)
		lists(t, l, s)
		listReads(t, s, len(l), l)
		listReads(t, s, len(l)+1, l)
		listReads(t, s, math.MaxInt, l)
	}
	lists(t, nil, "")
	listReads(t, "", 0, nil)
	lists(t, []string{"", "a"}, unhex(t, "00 00 00 01 61"))
	listReads(t, unhex(t, "00 00 00 01 61"), 2, []string{"", "a"})
	long := strings.Repeat("a", 65535)
	lists(t, []string{long, ""}, "\xff\xff"+long+"\x00\x00")
	listReads(t, "\xff\xff"+long+"\x00\x00", 2, []string{long, ""})
}

func TestListErrorsP6_2(t *testing.T) {
	long := strings.Repeat("a", 65536)
	for _, l := range [][]string{{long}, {long + long}, {"", long}, {"a", long, ""}, {long, long[1:]}} {
		if s, e := List(l); s != "" || e != api.ErrLong {
			t.Errorf("List of %d items: %d bytes, error %d", len(l), len(s), e)
		}
	}
	for _, s := range []string{"00", "ff", "00 01", "00 02 61", "ff ff 61", "00 00 00", "00 01 61 00", "00 01 61 00 01"} {
		listFails(t, unhex(t, s), 5, api.ErrShort)
	}
	listFails(t, "\xff\xff"+long[2:], 1, api.ErrShort)
	// An item too many counts before the bytes that it lacks, but behind its length's.
	listFails(t, "\x00\x01", 0, api.ErrForm)
	listFails(t, "\x00", 0, api.ErrShort)
	listFails(t, "\x00\x00\x00\x05", 1, api.ErrForm)
	listFails(t, "\x00\x00\x00", 1, api.ErrShort)
	listFails(t, "\x00\x05\x00\x00", 1, api.ErrShort)
	listFails(t, "\x00\x00\x00\x00\x00", 1, api.ErrForm)
}

func TestMostP6_2(t *testing.T) {
	for _, l := range itemLists() {
		s := listBytes(l)
		for most := range min(len(l), 12) {
			listFails(t, s, most, api.ErrForm)
		}
		for _, most := range []int{0, -1, -2, -len(l), math.MinInt32, math.MinInt} {
			if len(l) == 0 {
				listReads(t, s, most, nil)
			} else {
				listFails(t, s, most, api.ErrForm)
			}
		}
		if len(l) > 0 {
			listFails(t, s, len(l)-1, api.ErrForm)
		}
	}
	listFails(t, "\x00", -1, api.ErrShort)
	listFails(t, "\x00\x01", -1, api.ErrForm)
}

// attrsWrong is what is wrong with s as attributes above a type, by the chapter's words; the attributes that it finds are joined to l.
func attrsWrong(s string, last byte, l []Attr) ([]Attr, api.Errno) {
	if s == "" {
		return l, api.OK
	}
	if len(s) < 3 {
		return nil, api.ErrShort
	}
	n := int(binary.BigEndian.Uint16([]byte(s[1:3])))
	if s[0] == 0 || s[0] <= last || n == 0 {
		return nil, api.ErrForm
	}
	if len(s) < 3+n {
		return nil, api.ErrShort
	}
	return attrsWrong(s[3+n:], s[0], append(l, Attr{s[0], s[3 : 3+n]}))
}

// itemsWrong is what is wrong with s as at most most items.
func itemsWrong(s string, most int, l []string) ([]string, api.Errno) {
	if s == "" {
		return l, api.OK
	}
	if len(s) < 2 {
		return nil, api.ErrShort
	}
	n := int(binary.BigEndian.Uint16([]byte(s[:2])))
	if most <= 0 {
		return nil, api.ErrForm
	}
	if len(s) < 2+n {
		return nil, api.ErrShort
	}
	return itemsWrong(s[2+n:], most-1, append(l, s[2:2+n]))
}

// Whatever bytes are decoded are those that are encoded again, and no others.
func TestAttrsUniqueP6_3(t *testing.T) {
	seen := map[string]string{}
	for _, s := range shortStrings("\x00\x01\x02\x03\xff", 8) {
		want, wrong := attrsWrong(s, 0, nil)
		if wrong != api.OK {
			decodeFails(t, s, wrong)
			continue
		}
		decodes(t, s, want)
		encodes(t, want, s)
		key := attrKey(want)
		if other, ok := seen[key]; ok {
			t.Fatalf("%x and %x are the same attributes", s, other)
		}
		seen[key] = s
	}
	for _, l := range attrLists() {
		s, _ := Encode(l)
		decodes(t, s, l)
	}
}

// attrKey is a text that two lists of attributes have in common only if they are the same.
func attrKey(l []Attr) string {
	var out strings.Builder
	for _, a := range l {
		out.WriteString(hex.EncodeToString([]byte{a.Type}) + "=" + hex.EncodeToString([]byte(a.Value)) + ",")
	}
	return out.String()
}

// Encodings with a byte changed, inserted or deleted are refused, or the encodings of other attributes.
func TestAttrsChangedP6_3(t *testing.T) {
	x := newSamples()
	for _, l := range attrLists() {
		s := attrBytes(l)
		if len(s) == 0 || len(s) > 200 {
			continue
		}
		for range 60 {
			at := x.below(len(s))
			b := string([]byte{byte(x.next() >> 32)})
			for _, c := range []string{s[:at] + b + s[at+1:], s[:at] + b + s[at:], s[:at] + s[at+1:]} {
				want, wrong := attrsWrong(c, 0, nil)
				if wrong != api.OK {
					decodeFails(t, c, wrong)
					continue
				}
				decodes(t, c, want)
				encodes(t, want, c)
				if c != s && slices.Equal(want, l) {
					t.Fatalf("%x and %x are the same attributes", s, c)
				}
			}
		}
	}
}

func TestNumbersUniqueP6_3(t *testing.T) {
	for _, s := range append(shortStrings("\x00\x01\x7f\x80\xff", 6), shortStrings("\x00\xff", 10)...) {
		if len(s) > 8 || strings.HasPrefix(s, "\x00") {
			numberFails(t, s, math.MaxUint64)
			continue
		}
		n := new(big.Int).SetBytes([]byte(s)).Uint64()
		numberIs(t, s, math.MaxUint64, n)
		if got := Num(n); got != s {
			t.Fatalf("Num of %d: %x, not %x", n, got, s)
		}
	}
	for n := range uint64(1 << 17) {
		numberIs(t, Num(n), n, n)
	}
}

func TestListsUniqueP6_3(t *testing.T) {
	seen := map[string]string{}
	for _, s := range shortStrings("\x00\x01\x02\xff", 8) {
		for _, most := range []int{-1, 0, 1, 2, 3, 8} {
			want, wrong := itemsWrong(s, most, nil)
			if wrong != api.OK {
				listFails(t, s, most, wrong)
				continue
			}
			listReads(t, s, most, want)
			lists(t, want, s)
			var hexes []string
			for _, item := range want {
				hexes = append(hexes, hex.EncodeToString([]byte(item))+",")
			}
			key := strings.Join(hexes, "")
			if other, ok := seen[key]; ok && other != s {
				t.Fatalf("%x and %x are the same list", s, other)
			}
			seen[key] = s
		}
	}
	for _, l := range itemLists() {
		s, _ := List(l)
		listReads(t, s, len(l), l)
	}
}

func TestOrderP6_4(t *testing.T) {
	all := numbers()
	for i, small := range all {
		a := Num(small)
		for _, great := range all[i+1:] {
			b := Num(great)
			if len(a) > len(b) || len(a) == len(b) && a >= b {
				t.Fatalf("Num of %d: %x, of %d: %x", small, a, great, b)
			}
		}
	}
	for n := range uint64(1 << 17) {
		a, b := Num(n), Num(n+1)
		if len(a) > len(b) || len(a) == len(b) && a >= b {
			t.Fatalf("Num of %d: %x, of %d: %x", n, a, n+1, b)
		}
	}
}

func TestAttrsJoinedP6_5(t *testing.T) {
	for _, l := range attrLists() {
		whole, _ := Encode(l)
		for i := range len(l) + 1 {
			a, e := Encode(l[:i])
			b, f := Encode(l[i:])
			if e != api.OK || f != api.OK || a+b != whole {
				t.Fatalf("Encode of %d attributes, and of %d: errors %d, %d", i, len(l)-i, e, f)
			}
			decodes(t, a+b, l)
			if i > 0 && i < len(l) { // the other way round the types do not ascend
				decodeFails(t, b+a, api.ErrForm)
			}
			if i > 0 {
				decodeFails(t, a+a, api.ErrForm)
			}
		}
	}
}

func TestListsJoinedP6_5(t *testing.T) {
	x := newSamples()
	all := itemLists()
	for _, l := range all {
		m := all[x.below(len(all))]
		a, e := List(l)
		b, f := List(m)
		both := slices.Concat(l, m)
		if e != api.OK || f != api.OK {
			t.Fatalf("List: errors %d, %d", e, f)
		}
		lists(t, both, a+b)
		listReads(t, a+b, len(both), both)
		if len(both) > 0 {
			listFails(t, a+b, len(both)-1, api.ErrForm)
		}
	}
}

// cuts are the places where a text is cut: all of a short one, and those at the ends and some between of a long one.
func cuts(x *samples, n int) []int {
	var out []int
	for i := range min(n+1, 300) {
		out = append(out, i, n-i)
	}
	for range 40 {
		out = append(out, x.below(n+1))
	}
	return out
}

func TestAttrsCutP6_6(t *testing.T) {
	x := newSamples()
	for _, l := range attrLists() {
		s := attrBytes(l)
		whole := map[int]int{} // how many attributes end at a place
		for i := range len(l) + 1 {
			whole[len(attrBytes(l[:i]))] = i
		}
		for _, at := range cuts(x, len(s)) {
			if n, ok := whole[at]; ok {
				decodes(t, s[:at], l[:n])
			} else {
				decodeFails(t, s[:at], api.ErrShort)
			}
		}
	}
}

func TestListsCutP6_6(t *testing.T) {
	x := newSamples()
	for _, l := range itemLists() {
		s := listBytes(l)
		whole := map[int]int{}
		for i := range len(l) + 1 {
			whole[len(listBytes(l[:i]))] = i
		}
		for _, at := range cuts(x, len(s)) {
			if n, ok := whole[at]; ok {
				listReads(t, s[:at], len(l), l[:n])
			} else {
				listFails(t, s[:at], len(l), api.ErrShort)
			}
		}
	}
}
