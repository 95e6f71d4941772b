package field

import (
	"fmt"
	"math"
	"math/big"
	"strings"
	"testing"

	"turnout/api"
	"turnout/word"
)

var all = api.Word{Hi: math.MaxUint64, Lo: math.MaxUint64}

// samples yields numbers without a pattern, always the same ones.
type samples uint64

func (x *samples) next() uint64 {
	*x ^= *x << 13
	*x ^= *x >> 7
	*x ^= *x << 17
	return uint64(*x)
}

func (x *samples) text(n int) string {
	b := make([]byte, n)
	for i := range b {
		b[i] = byte(x.next() >> 32)
	}
	return string(b)
}

func (x *samples) word() api.Word {
	return api.Word{Hi: x.next(), Lo: x.next()}
}

func newSamples() *samples {
	x := samples(88172645463325252)
	return &x
}

// texts are of every length up to a little more than the widest field, and one that is much longer.
func texts() []string {
	x := newSamples()
	out := []string{"\x00", "\xff", "\x12\x34", strings.Repeat("\x00", 17), strings.Repeat("\xff", 17), x.text(api.MaxPacket)}
	for n := range 19 {
		out = append(out, x.text(n))
	}
	return out
}

// words are the words at both ends and at each edge, and some between.
func words() []api.Word {
	out := []api.Word{{}, {Lo: 1}, {Lo: math.MaxUint64}, {Hi: 1}, {Hi: 1 << 63}, {Hi: math.MaxUint64}, all, {Hi: 0xaaaaaaaaaaaaaaaa, Lo: 0xaaaaaaaaaaaaaaaa}}
	x := newSamples()
	for range 5 {
		out = append(out, x.word())
	}
	return out
}

// offsets are those of all fields of width bits in a string of n bits, or of some at its beginning and at its end.
func offsets(n, width int) []int {
	var out []int
	for off := 0; off+width <= n; off++ {
		if off < 20 || off+width > n-20 {
			out = append(out, off)
		}
	}
	return out
}

// digits are the bits of s, one by one, as 0 and 1.
func digits(s string) string {
	var b strings.Builder
	for i := 0; i < len(s); i++ {
		fmt.Fprintf(&b, "%08b", s[i])
	}
	return b.String()
}

// number is what the digits say.
func number(digits string) api.Word {
	n, ok := new(big.Int).SetString("0"+digits, 2)
	if !ok {
		panic(digits)
	}
	lo := new(big.Int).And(n, new(big.Int).SetUint64(math.MaxUint64))
	return api.Word{Hi: n.Rsh(n, 64).Uint64(), Lo: lo.Uint64()}
}

// lowest are the width last digits of w.
func lowest(w api.Word, width int) string {
	return fmt.Sprintf("%064b%064b", w.Hi, w.Lo)[128-width:]
}

func get(t *testing.T, s string, off, width int) api.Word {
	t.Helper()
	w, e := Get(s, off, width)
	if e != api.OK {
		t.Fatalf("Get of %x, %d, %d: error %d", s, off, width, e)
	}
	return w
}

func put(t *testing.T, s string, off, width int, w api.Word) string {
	t.Helper()
	p, e := Put(s, off, width, w)
	if e != api.OK {
		t.Fatalf("Put of %x, %d, %d, %v: error %d", s, off, width, w, e)
	}
	return p
}

// someWidths are both ends, and those beside whole bytes and halves of words.
var someWidths = []int{1, 2, 3, 7, 8, 9, 15, 16, 17, 31, 32, 33, 48, 63, 64, 65, 100, 120, 121, 127, 128}

func TestGetP2_1(t *testing.T) {
	for _, s := range texts() {
		d := digits(s)
		for width := 1; width <= api.MaxWidth; width++ {
			for _, off := range offsets(len(d), width) {
				if w := get(t, s, off, width); w != number(d[off:off+width]) {
					t.Fatalf("Get of %x, %d, %d: %v", s, off, width, w)
				}
			}
		}
	}
}

func TestPutP2_1(t *testing.T) {
	for _, s := range texts() {
		d := digits(s)
		for _, width := range someWidths {
			for i, off := range offsets(len(d), width) {
				w := words()[i%len(words())]
				want := d[:off] + lowest(w, width) + d[off+width:]
				if p := put(t, s, off, width, w); digits(p) != want {
					t.Fatalf("Put of %x, %d, %d, %v: %x", s, off, width, w, p)
				}
			}
		}
	}
}

func TestExamplesP2_1(t *testing.T) {
	const s = "\x12\x34"
	for _, x := range []struct {
		off, width int
		lo         uint64
	}{{4, 4, 2}, {4, 8, 0x23}, {0, 16, 0x1234}, {15, 1, 0}, {13, 1, 1}, {0, 1, 0}, {8, 8, 0x34}, {3, 9, 0x123 & 0x1ff}} {
		if w := get(t, s, x.off, x.width); w != word.New(x.lo) {
			t.Errorf("Get of %d, %d: %v", x.off, x.width, w)
		}
	}
	for _, x := range []struct {
		off, width int
		w          api.Word
		want       string
	}{
		{4, 4, word.New(15), "\x1f\x34"},
		{4, 4, all, "\x1f\x34"},
		{4, 4, api.Word{Hi: 5, Lo: 0xff0}, "\x10\x34"},
		{0, 16, word.New(0xabcd), "\xab\xcd"},
		{7, 2, word.New(3), "\x13\xb4"},
		{15, 1, word.New(1), "\x12\x35"},
		{0, 1, word.New(1), "\x92\x34"},
	} {
		if p := put(t, s, x.off, x.width, x.w); p != x.want {
			t.Errorf("Put of %d, %d, %v: %x", x.off, x.width, x.w, p)
		}
	}
}

// wrong are calls that are refused; where two errors apply, the first of the chapter's row.
var wrong = []struct {
	s          string
	off, width int
	e          api.Errno
}{
	{"\x12\x34", 8, 9, api.ErrShort},
	{"\x12\x34", 0, 17, api.ErrShort},
	{"\x12\x34", 16, 1, api.ErrShort},
	{"\x12\x34", 17, 1, api.ErrShort},
	{"\x12\x34", 15, 2, api.ErrShort},
	{"\x12\x34", 1, 16, api.ErrShort},
	{"\x12\x34", 0, 128, api.ErrShort},
	{"\x12\x34", 1 << 20, 1, api.ErrShort},
	{"\x12\x34", math.MaxInt32, 8, api.ErrShort},
	{"\x12\x34", math.MaxInt, 1, api.ErrShort},
	{"\x12\x34", math.MaxInt, 128, api.ErrShort},
	{"\x12\x34", math.MaxInt - 127, 128, api.ErrShort},
	{"", 0, 1, api.ErrShort},
	{"", 0, 128, api.ErrShort},
	{"0123456789abcdef", 1, 128, api.ErrShort},
	{"0123456789abcdef", 128, 1, api.ErrShort},
	{"\x12\x34", 0, 0, api.ErrArg},
	{"\x12\x34", 0, -1, api.ErrArg},
	{"\x12\x34", 8, -8, api.ErrArg},
	{"\x12\x34", 0, math.MinInt, api.ErrArg},
	{"\x12\x34", 0, 129, api.ErrArg},
	{"0123456789abcdefg", 0, 129, api.ErrArg},
	{"0123456789abcdefg", 0, math.MaxInt, api.ErrArg},
	{"\x12\x34", -1, 1, api.ErrArg},
	{"\x12\x34", -1, 128, api.ErrArg},
	{"\x12\x34", -8, 16, api.ErrArg},
	{"\x12\x34", math.MinInt, 8, api.ErrArg},
	{"\x12\x34", math.MinInt, math.MinInt, api.ErrArg},
	{"\x12\x34", math.MaxInt, 0, api.ErrArg},
	{"\x12\x34", math.MaxInt, math.MaxInt, api.ErrArg},
	{"\x12\x34", 16, 0, api.ErrArg},
	{"\x12\x34", 17, 129, api.ErrArg},
	{"", 0, 0, api.ErrArg},
	{"", -1, 1, api.ErrArg},
	{"", 0, 129, api.ErrArg},
	{"", math.MinInt, 1, api.ErrArg},
}

func TestWrongP2_1(t *testing.T) {
	for _, x := range wrong {
		if w, e := Get(x.s, x.off, x.width); e != x.e || w != (api.Word{}) {
			t.Errorf("Get of %q, %d, %d: %v, error %d", x.s, x.off, x.width, w, e)
		}
		if p, e := Put(x.s, x.off, x.width, all); e != x.e || p != "" {
			t.Errorf("Put of %q, %d, %d: %q, error %d", x.s, x.off, x.width, p, e)
		}
	}
}

func TestTextP2_2(t *testing.T) {
	for _, w := range words() {
		for width := 1; width <= api.MaxWidth; width++ {
			s, e := Text(w, width)
			want := strings.Repeat("0", (8-width%8)%8) + lowest(w, width)
			if e != api.OK || digits(s) != want {
				t.Errorf("Text of %v, %d: %x, error %d", w, width, s, e)
			}
			if len(s) != Bytes(width) {
				t.Errorf("Text of %v, %d: %d bytes, of %d", w, width, len(s), Bytes(width))
			}
		}
	}
}

func TestTextExamplesP2_2(t *testing.T) {
	for _, x := range []struct {
		w     api.Word
		width int
		want  string
	}{
		{word.New(0x1f), 5, "\x1f"},
		{word.New(0x1ff), 9, "\x01\xff"},
		{word.New(0x3ff), 9, "\x01\xff"},
		{word.New(0x1ff), 8, "\xff"},
		{word.New(0x1ff), 1, "\x01"},
		{word.New(2), 1, "\x00"},
		{word.New(0), 17, "\x00\x00\x00"},
		{api.Word{Hi: 0x0102030405060708, Lo: 0x090a0b0c0d0e0f10}, 128, "\x01\x02\x03\x04\x05\x06\x07\x08\x09\x0a\x0b\x0c\x0d\x0e\x0f\x10"},
		{api.Word{Hi: 0x81, Lo: 0}, 71, "\x01\x00\x00\x00\x00\x00\x00\x00\x00"},
	} {
		if s, e := Text(x.w, x.width); s != x.want || e != api.OK {
			t.Errorf("Text of %v, %d: %x, error %d", x.w, x.width, s, e)
		}
	}
}

func TestTextWrongP2_2(t *testing.T) {
	for _, width := range []int{math.MinInt, -128, -8, -1, 0, 129, 136, 256, math.MaxInt32, math.MaxInt} {
		if s, e := Text(all, width); s != "" || e != api.ErrArg {
			t.Errorf("Text of width %d: %x, error %d", width, s, e)
		}
	}
}

func TestBytesP2_2(t *testing.T) {
	for width := 1; width <= api.MaxWidth; width++ {
		n := Bytes(width)
		if n*8 < width || (n-1)*8 >= width {
			t.Errorf("Bytes of %d: %d", width, n)
		}
	}
	for _, x := range [][2]int{{1, 1}, {7, 1}, {8, 1}, {9, 2}, {16, 2}, {17, 3}, {120, 15}, {121, 16}, {128, 16}, {0, 0}, {-1, 0}, {-8, 0}, {129, 0}, {136, 0}, {math.MinInt, 0}, {math.MaxInt, 0}, {math.MaxInt - 7, 0}} {
		if n := Bytes(x[0]); n != x[1] {
			t.Errorf("Bytes of %d: %d", x[0], n)
		}
	}
}

func TestMatchP2_2(t *testing.T) {
	for _, s := range texts() {
		d := digits(s)
		for _, width := range someWidths {
			for i, off := range offsets(len(d), width) {
				x := number(d[off : off+width])
				mask := words()[i%len(words())]
				under := api.Word{Hi: x.Hi & mask.Hi, Lo: x.Lo & mask.Lo}
				for _, value := range []api.Word{under, x, {}, all, mask, {Hi: under.Hi, Lo: under.Lo ^ 1}, {Hi: under.Hi ^ 1, Lo: under.Lo}} {
					if ok, e := Match(s, off, width, value, mask); ok != (value == under) || e != api.OK {
						t.Fatalf("Match of %x, %d, %d, %v, %v: %v, error %d", s, off, width, value, mask, ok, e)
					}
				}
			}
		}
	}
}

func TestMatchExamplesP2_2(t *testing.T) {
	const s = "\x12\x34"
	for _, x := range []struct {
		off, width  int
		value, mask api.Word
		ok          bool
	}{
		{4, 4, word.New(2), word.New(3), true},
		{4, 4, word.New(2), all, true},
		{4, 4, word.New(2), word.New(2), true},
		{4, 4, word.New(3), word.New(3), false},
		{4, 4, word.New(0), word.New(2), false},
		{4, 4, word.New(0), word.New(0), true},
		{4, 4, word.New(2), word.New(0), false},
		{4, 4, word.New(0), word.New(0xf0), true},
		{4, 4, word.New(0x12), word.New(3), false},
		{4, 4, word.New(0x12), all, false},
		{4, 4, api.Word{Hi: 1, Lo: 2}, all, false},
		{0, 16, word.New(0x1004), word.New(0xf00f), true},
		{0, 16, word.New(0x1234), word.New(0xf00f), false},
	} {
		if ok, e := Match(s, x.off, x.width, x.value, x.mask); ok != x.ok || e != api.OK {
			t.Errorf("Match of %d, %d, %v, %v: %v, error %d", x.off, x.width, x.value, x.mask, ok, e)
		}
	}
}

func TestMatchWrongP2_2(t *testing.T) {
	for _, x := range wrong {
		if ok, e := Match(x.s, x.off, x.width, api.Word{}, api.Word{}); ok || e != x.e {
			t.Errorf("Match of %q, %d, %d: %v, error %d", x.s, x.off, x.width, ok, e)
		}
	}
}

// agree is how many digits at the beginning of a and b are the same.
func agree(a, b string) int {
	n := 0
	for n < min(len(a), len(b)) && a[n] == b[n] {
		n++
	}
	return n
}

func TestPrefixP2_2(t *testing.T) {
	for _, a := range texts() {
		for _, b := range append(texts(), pairs(a)...) {
			if n := Prefix(a, b); n != agree(digits(a), digits(b)) {
				t.Fatalf("Prefix of %x and %x: %d", a, b, n)
			}
		}
	}
}

// pairs are strings that agree with s for some bits: all, all of its half, all but one.
func pairs(s string) []string {
	out := []string{s, s + "\x00", s[:len(s)/2], ""}
	for at := 0; at < 8*len(s) && at < 150; at++ {
		b := []byte(s)
		b[at/8] ^= 0x80 >> (at % 8)
		out = append(out, string(b))
	}
	return out
}

func TestPrefixExamplesP2_2(t *testing.T) {
	for _, x := range []struct {
		a, b string
		n    int
	}{
		{"\x12", "\x13", 7}, {"\x12\xff", "\x13\xff", 7}, {"\x12", "\x12", 8}, {"\x12", "\x92", 0}, {"", "", 0}, {"", "\x12", 0}, {"\x12", "\x12\x34", 8},
		{"\x12\x34", "\x12\x33", 13}, {"\x00", "\x00\x00\x00", 8}, {"0123456789abcdef\x01", "0123456789abcdef\x00", 135},
	} {
		if n, m := Prefix(x.a, x.b), Prefix(x.b, x.a); n != x.n || m != x.n {
			t.Errorf("Prefix of %x and %x: %d, %d", x.a, x.b, n, m)
		}
	}
}

func TestInverseP2_3(t *testing.T) {
	x := newSamples()
	for _, s := range texts() {
		for _, width := range someWidths {
			for _, off := range offsets(8*len(s), width) {
				w := x.word()
				p := put(t, s, off, width, w)
				if got := get(t, p, off, width); got != word.Cut(w, width) {
					t.Fatalf("Get of Put of %x, %d, %d, %v: %v", s, off, width, w, got)
				}
				if len(p) != len(s) {
					t.Fatalf("Put of %x, %d, %d, %v: %d bytes", s, off, width, w, len(p))
				}
				// The field as it was, put back, must give the whole as it was.
				if back := put(t, p, off, width, get(t, s, off, width)); back != s {
					t.Fatalf("Put of %x, %d, %d, %v: other bits changed: %x", s, off, width, w, p)
				}
			}
		}
	}
}

func TestConcatenationP2_4(t *testing.T) {
	for _, s := range texts() {
		for _, width := range someWidths[1:] {
			for i, off := range offsets(8*len(s), width) {
				trail := 1 + i%(width-1)
				whole := get(t, s, off, width)
				lead := get(t, s, off, width-trail)
				rest := get(t, s, off+width-trail, trail)
				if whole != word.Add(word.Left(lead, trail), rest) {
					t.Fatalf("field of %x, %d, %d: not its %d last bits behind the others", s, off, width, trail)
				}
			}
		}
	}
}

func TestOrderP2_5(t *testing.T) {
	x := newSamples()
	for n := 1; n <= 16; n++ {
		for range 10 {
			a := x.text(n)
			for _, b := range append(pairs(a), x.text(n), x.text(n)) {
				if len(b) != n {
					continue
				}
				if word.Compare(get(t, a, 0, 8*n), get(t, b, 0, 8*n)) != strings.Compare(a, b) {
					t.Errorf("numbers of %x and %x: not in their order", a, b)
				}
			}
		}
	}
}

func TestUnderMaskP2_6(t *testing.T) {
	x := newSamples()
	s := x.text(16)
	for _, width := range []int{1, 3, 5} {
		for _, off := range offsets(8*len(s), width) {
			f := get(t, s, off, width).Lo
			for mask := range uint64(1 << (width + 1)) {
				for value := range uint64(1 << (width + 1)) {
					want := true
					for i := range width + 1 {
						v, m := value>>i&1, mask>>i&1
						want = want && (m == 1 && v == f>>i&1 || m == 0 && v == 0)
					}
					if ok, e := Match(s, off, width, word.New(value), word.New(mask)); ok != want || e != api.OK {
						t.Fatalf("Match of %x, %d, %d, %x, %x: %v, error %d", s, off, width, value, mask, ok, e)
					}
				}
			}
		}
	}
}

func TestLeadingBitsP2_7(t *testing.T) {
	x := newSamples()
	for _, size := range []int{1, 2, 8, 16, 17} {
		a := x.text(size)
		for _, b := range pairs(a) {
			for n := 1; n <= min(8*len(a), 8*len(b), 128); n++ {
				same := get(t, a, 0, n) == get(t, b, 0, n)
				if (Prefix(a, b) >= n) != same {
					t.Errorf("%d leading bits of %x and %x: Prefix %d, fields equal: %v", n, a, b, Prefix(a, b), same)
				}
			}
		}
	}
}

func TestLongTexts(t *testing.T) {
	s := strings.Repeat("\xa5", 1<<20)
	if w := get(t, s, 8*len(s)-12, 12); w != word.New(0x5a5) {
		t.Errorf("Get at the end: %v", w)
	}
	p := put(t, s, 8*len(s)-12, 12, word.New(0))
	if p != s[:len(s)-2]+"\xa0\x00" {
		t.Error("Put at the end")
	}
	if n := Prefix(s, p); n != 8*len(s)-11 {
		t.Errorf("Prefix: %d", n)
	}
}
