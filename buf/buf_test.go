package buf

import (
	"math"
	"math/big"
	"strings"
	"testing"

	"turnout/api"
	"turnout/field"
	"turnout/sum"
)

// samples yields numbers without a pattern, always the same ones.
type samples uint64

func newSamples() *samples {
	x := samples(88172645463325252)
	return &x
}

func (x *samples) next() uint64 {
	*x ^= *x << 13
	*x ^= *x >> 7
	*x ^= *x << 17
	return uint64(*x)
}

// below yields a number from 0 to n - 1.
func (x *samples) below(n int) int {
	return int(x.next() >> 33 % uint64(n))
}

// text yields n bytes, none of them 0, so that an inserted byte differs from each.
func (x *samples) text(n int) string {
	b := make([]byte, n)
	for i := range b {
		b[i] = byte(1 + x.below(255))
	}
	return string(b)
}

// texts are of no byte, of every small length, with zero bytes, and of as many bytes as a buffer may have, or nearly.
func texts() []string {
	x := newSamples()
	out := []string{"\x00", "\x00\x00\x00", "\xff\xff\xff\xff", "a\x00b", x.text(1500), x.text(api.MaxPacket - 1), x.text(api.MaxPacket)}
	for n := range 20 {
		out = append(out, x.text(n))
	}
	return out
}

// short are the texts of few bytes.
func short() []string {
	var out []string
	for _, s := range texts() {
		if len(s) < 20 {
			out = append(out, s)
		}
	}
	return out
}

// far are offsets and lengths at the ends of what a number can be.
func far() []int {
	return []int{math.MinInt, math.MinInt + 1, math.MinInt32, -1 << 20, -8, -2, -1, 0, 1, 2, api.MaxPacket - 1, api.MaxPacket, api.MaxPacket + 1, math.MaxInt32, math.MaxInt - api.MaxPacket, math.MaxInt - 1, math.MaxInt}
}

func made(t *testing.T, s string) *Buf {
	t.Helper()
	b, e := New(s)
	if e != api.OK || b == nil {
		t.Fatalf("New of %d bytes: %v, error %d", len(s), b != nil, e)
	}
	return b
}

// brief is a text for a message: of a long one the beginning, and how many bytes it has.
func brief(s string) (string, int) {
	return s[:min(len(s), 40)], len(s)
}

func holds(t *testing.T, what string, b *Buf, want string) {
	t.Helper()
	if got := b.Text(); got != want {
		g, n := brief(got)
		w, m := brief(want)
		t.Fatalf("%s: %x (%d bytes), not %x (%d bytes)", what, g, n, w, m)
	}
	if b.Len() != len(want) {
		t.Fatalf("%s: Len is %d, not %d", what, b.Len(), len(want))
	}
}

func answers(t *testing.T, what string, got, want api.Errno) {
	t.Helper()
	if got != want {
		t.Fatalf("%s: error %d, not %d", what, got, want)
	}
}

func does(t *testing.T, what string, e api.Errno) {
	t.Helper()
	answers(t, what, e, api.OK)
}

func summed(t *testing.T, b *Buf, at, n int) uint16 {
	t.Helper()
	got, e := b.Sum(at, n)
	answers(t, "Sum", e, api.OK)
	return got
}

// binary is the bits of s as digits.
func binary(s string) string {
	var out strings.Builder
	for i := range len(s) {
		for k := 7; k >= 0; k-- {
			out.WriteByte('0' + s[i]>>k&1)
		}
	}
	return out.String()
}

// number is the word of the digits.
func number(digits string) api.Word {
	n, _ := new(big.Int).SetString("0"+digits, 2)
	low := new(big.Int).And(n, new(big.Int).SetUint64(math.MaxUint64))
	return api.Word{Hi: new(big.Int).Rsh(n, 64).Uint64(), Lo: low.Uint64()}
}

// digits are the width lowest bits of w.
func digits(w api.Word, width int) string {
	var b []byte
	for i := range 8 {
		b = append(b, byte(w.Hi>>(56-8*i)))
	}
	for i := range 8 {
		b = append(b, byte(w.Lo>>(56-8*i)))
	}
	return binary(string(b))[128-width:]
}

// bytesOf is the string of the digits.
func bytesOf(digits string) string {
	var b []byte
	for i := 0; i < len(digits); i += 8 {
		b = append(b, byte(number(digits[i:i+8]).Lo))
	}
	return string(b)
}

// with is s with n zero bytes at an offset, without is s without n bytes there.
func with(s string, at, n int) string    { return s[:at] + strings.Repeat("\x00", n) + s[at:] }
func without(s string, at, n int) string { return s[:at] + s[at+n:] }

func TestNewLenTextP5_1(t *testing.T) {
	for _, s := range texts() {
		b := made(t, s)
		holds(t, "New", b, s)
		holds(t, "New, asked again", b, s)
	}
	x := newSamples()
	for _, n := range []int{api.MaxPacket + 1, api.MaxPacket + 2, 2 * api.MaxPacket, 1 << 20} {
		if b, e := New(x.text(n)); b != nil || e != api.ErrLong {
			t.Errorf("New of %d bytes: a buffer %v, error %d", n, b != nil, e)
		}
	}
}

func TestGetP5_1(t *testing.T) {
	for _, s := range short() {
		b := made(t, s)
		bits := binary(s)
		for off := range len(bits) {
			for width := 1; width <= min(128, len(bits)-off); width++ {
				w, e := b.Get(off, width)
				if want := number(bits[off : off+width]); e != api.OK || w != want {
					t.Fatalf("Get(%d, %d) of %x: %x, error %d, not %x", off, width, s, w, e, want)
				}
			}
		}
		holds(t, "Get", b, s)
	}
}

func TestPutP5_1(t *testing.T) {
	x := newSamples()
	for _, s := range short() {
		bits := binary(s)
		for off := range len(bits) {
			for width := 1; width <= min(128, len(bits)-off); width += 1 + x.below(5) {
				b := made(t, s)
				w := api.Word{Hi: x.next(), Lo: x.next()}
				does(t, "Put", b.Put(off, width, w))
				holds(t, "Put", b, bytesOf(bits[:off]+digits(w, width)+bits[off+width:]))
			}
		}
	}
}

func TestLongP5_1(t *testing.T) {
	s := newSamples().text(api.MaxPacket)
	b := made(t, s)
	last := 8*api.MaxPacket - 128
	w, e := b.Get(last, 128)
	if e != api.OK || w != number(binary(s[len(s)-16:])) {
		t.Errorf("the last bits: %x, error %d", w, e)
	}
	does(t, "Put", b.Put(last, 128, api.Word{Hi: 1, Lo: 2}))
	holds(t, "Put at the end", b, s[:len(s)-16]+"\x00\x00\x00\x00\x00\x00\x00\x01\x00\x00\x00\x00\x00\x00\x00\x02")
	_, e = b.Get(last+1, 128)
	answers(t, "Get beyond the end", e, api.ErrShort)
	answers(t, "Put beyond the end", b.Put(last+1, 128, api.Word{}), api.ErrShort)
}

// Get and Put are field's, on the buffer's string, with field's errors too.
func TestAsFieldP5_1(t *testing.T) {
	w := api.Word{Hi: 0x0123456789abcdef, Lo: 0xfedcba9876543210}
	for _, s := range []string{"", "\x12", "\x12\x34\x56", newSamples().text(17), newSamples().text(api.MaxPacket)} {
		offs := append(far(), 7, 8, 9, 16, 23, 24, 8*len(s)-1, 8*len(s), 8*len(s)+1)
		for _, off := range offs {
			for _, width := range append(far(), 7, 8, 9, 64, 127, 128, 129) {
				b := made(t, s)
				got, e := b.Get(off, width)
				want, f := field.Get(s, off, width)
				if got != want || e != f {
					t.Fatalf("Get(%d, %d): %x, error %d, not %x, %d", off, width, got, e, want, f)
				}
				text, f := field.Put(s, off, width, w)
				if f != api.OK {
					text = s
				}
				answers(t, "Put", b.Put(off, width, w), f)
				holds(t, "Put", b, text)
			}
		}
	}
}

func TestNilP5_1(t *testing.T) {
	var b *Buf
	if b.Len() != 0 || b.Text() != "" || b.Copy() != nil {
		t.Error("nil has bytes, or a copy")
	}
	for _, i := range far() {
		for _, n := range far() {
			w, e := b.Get(i, n)
			m, f := b.Sum(i, n)
			if w != (api.Word{}) || m != 0 || e != api.ErrNil || f != api.ErrNil {
				t.Fatalf("of nil at %d, %d: Get %x, error %d, Sum %d, error %d", i, n, w, e, m, f)
			}
			answers(t, "Put of nil", b.Put(i, n, api.Word{Lo: 1}), api.ErrNil)
			answers(t, "Insert of nil", b.Insert(i, n), api.ErrNil)
			answers(t, "Delete of nil", b.Delete(i, n), api.ErrNil)
		}
	}
}

// A buffer that New did not make has no bytes.
func TestZeroP5_1(t *testing.T) {
	b := &Buf{}
	holds(t, "a buffer of nothing", b, "")
	holds(t, "its copy", b.Copy(), "")
	does(t, "Delete", b.Delete(0, 0))
	does(t, "Insert", b.Insert(0, 3))
	holds(t, "a buffer of nothing, and 3", b, "\x00\x00\x00")
}

func TestInsertP5_2(t *testing.T) {
	for _, s := range short() {
		for at := range len(s) + 1 {
			for n := range 40 {
				b := made(t, s)
				does(t, "Insert", b.Insert(at, n))
				holds(t, "Insert", b, with(s, at, n))
			}
		}
	}
}

func TestDeleteP5_2(t *testing.T) {
	for _, s := range short() {
		for at := range len(s) + 1 {
			for n := range len(s) - at + 1 {
				b := made(t, s)
				does(t, "Delete", b.Delete(at, n))
				holds(t, "Delete", b, without(s, at, n))
			}
		}
	}
}

func TestSumP5_2(t *testing.T) {
	for _, s := range texts() {
		step := 1 + len(s)/50
		b := made(t, s)
		for at := 0; at <= len(s); at += step {
			for n := 0; n <= len(s)-at; n += step {
				if got := summed(t, b, at, n); got != sum.Sum(s[at:at+n]) {
					t.Fatalf("Sum(%d, %d) of %d bytes: %d", at, n, len(s), got)
				}
			}
		}
		if got := summed(t, b, 0, len(s)); got != sum.Sum(s) {
			t.Fatalf("Sum of all %d bytes: %d", len(s), got)
		}
		holds(t, "Sum", b, s)
	}
}

func TestCopyP5_2(t *testing.T) {
	for _, s := range texts() {
		b := made(t, s)
		c := b.Copy()
		if c == b {
			t.Fatal("the copy is the buffer")
		}
		holds(t, "Copy", c, s)
		holds(t, "what is copied", b, s)
	}
}

func TestFullP5_2(t *testing.T) {
	x := newSamples()
	for _, have := range []int{0, 1, 2, 100, api.MaxPacket - 2, api.MaxPacket - 1, api.MaxPacket} {
		room := api.MaxPacket - have
		s := x.text(have)
		for _, at := range []int{0, have / 2, have} {
			b := made(t, s)
			answers(t, "Insert of one too many", b.Insert(at, room+1), api.ErrLong)
			holds(t, "Insert of one too many", b, s)
			does(t, "Insert of all that fits", b.Insert(at, room))
			holds(t, "Insert of all that fits", b, with(s, at, room))
			answers(t, "Insert into the full", b.Insert(at, 1), api.ErrLong)
			does(t, "Insert of nothing", b.Insert(api.MaxPacket, 0))
			holds(t, "the full", b, with(s, at, room))
			does(t, "Delete of all", b.Delete(0, api.MaxPacket))
			holds(t, "Delete of all", b, "")
			does(t, "Insert into the empty", b.Insert(0, api.MaxPacket))
			holds(t, "Insert into the empty", b, strings.Repeat("\x00", api.MaxPacket))
		}
	}
}

func TestExamplesP5_2(t *testing.T) {
	const s = "\x01\x02\x03"
	b := made(t, s)
	does(t, "Insert", b.Insert(1, 2))
	holds(t, "Insert(1, 2)", b, "\x01\x00\x00\x02\x03")
	does(t, "Delete", b.Delete(0, 3))
	holds(t, "and Delete(0, 3)", b, "\x02\x03")
	b = made(t, s)
	if w, e := b.Get(4, 8); e != api.OK || w != (api.Word{Lo: 0x10}) {
		t.Errorf("Get(4, 8) of 01 02 03: %x, error %d", w, e)
	}
	b = made(t, s)
	does(t, "Put", b.Put(4, 8, api.Word{Lo: 0xab}))
	holds(t, "Put(4, 8, AB)", b, "\x0a\xb2\x03")
	b = made(t, "\x02\x03") // the chapter's other lines are about what its first two left
	if w, e := b.Get(4, 8); e != api.OK || w != (api.Word{Lo: 0x20}) {
		t.Errorf("Get(4, 8) of 02 03: %x, error %d", w, e)
	}
	does(t, "Put", b.Put(4, 8, api.Word{Lo: 0xab}))
	holds(t, "Put(4, 8, AB)", b, "\x0a\xb3")
	if n := summed(t, b, 0, 2); n != 0x0ab3 {
		t.Errorf("Sum(0, 2): %x", n)
	}
	if n := summed(t, b, 1, 1); n != 0xb300 {
		t.Errorf("Sum(1, 1): %x", n)
	}
	answers(t, "Delete(1, 2)", b.Delete(1, 2), api.ErrShort)
	answers(t, "Insert(3, 0)", b.Insert(3, 0), api.ErrShort)
	does(t, "Insert(2, 0)", b.Insert(2, 0))
	holds(t, "after them", b, "\x0a\xb3")
}

func TestInverseP5_3(t *testing.T) {
	for _, s := range short() {
		for at := range len(s) + 1 {
			for n := range 20 {
				b := made(t, s)
				does(t, "Insert", b.Insert(at, n))
				does(t, "Delete", b.Delete(at, n))
				holds(t, "Insert, Delete", b, s)
			}
			for n := range len(s) - at + 1 {
				b := made(t, s)
				does(t, "Delete", b.Delete(at, n))
				does(t, "Insert", b.Insert(at, n))
				holds(t, "Delete, Insert", b, s[:at]+strings.Repeat("\x00", n)+s[at+n:])
				for i := at; i < at+n; i++ {
					does(t, "Put", b.Put(8*i, 8, api.Word{Lo: uint64(s[i])}))
				}
				holds(t, "Delete, Insert, and the bytes", b, s)
			}
		}
	}
}

func TestShiftsP5_4(t *testing.T) {
	x := newSamples()
	for _, s := range texts() {
		for range 40 {
			at := x.below(len(s) + 1)
			n := x.below(api.MaxPacket - len(s) + 1)
			b := made(t, s)
			does(t, "Insert", b.Insert(at, n))
			for i := range min(n, 50) {
				if w, _ := b.Get(8*(at+i), 8); w != (api.Word{}) {
					t.Fatalf("Insert(%d, %d): the byte %d of what is inserted is %x", at, n, i, w)
				}
			}
			moved(t, b, s, at, at, n)
			n = x.below(len(s) - at + 1)
			b = made(t, s)
			does(t, "Delete", b.Delete(at, n))
			moved(t, b, s, at, at+n, -n)
		}
	}
}

// moved checks that the bytes of s before the byte at are where they were, and those from the byte from on are n further.
func moved(t *testing.T, b *Buf, s string, at, from, n int) {
	t.Helper()
	got := b.Text()
	if len(got) != len(s)+n {
		t.Fatalf("%d bytes, not %d", len(got), len(s)+n)
	}
	for i := range len(s) {
		if i < at && got[i] != s[i] {
			t.Fatalf("at %d, by %d: the byte %d did not stay", at, n, i)
		}
		if i >= from && got[i+n] != s[i] {
			t.Fatalf("at %d, by %d: the byte %d did not move", at, n, i)
		}
	}
}

func TestPartsP5_5(t *testing.T) {
	for _, s := range short() {
		for at := range len(s) + 1 {
			for n := range 12 {
				for first := range n + 1 {
					a, b, c := made(t, s), made(t, s), made(t, s)
					does(t, "Insert", a.Insert(at, n))
					does(t, "Insert", b.Insert(at, first))
					does(t, "Insert", b.Insert(at+first, n-first))
					does(t, "Insert", c.Insert(at, n-first))
					does(t, "Insert", c.Insert(at, first))
					holds(t, "Insert in parts", b, a.Text())
					holds(t, "Insert in parts before each other", c, a.Text())
				}
			}
			for n := range len(s) - at + 1 {
				for first := range n + 1 {
					a, b, c := made(t, s), made(t, s), made(t, s)
					does(t, "Delete", a.Delete(at, n))
					does(t, "Delete", b.Delete(at, first))
					does(t, "Delete", b.Delete(at, n-first))
					does(t, "Delete", c.Delete(at+first, n-first))
					does(t, "Delete", c.Delete(at, first))
					holds(t, "Delete in parts", b, a.Text())
					holds(t, "Delete in parts from behind", c, a.Text())
				}
			}
		}
	}
}

func TestSumsP5_6(t *testing.T) {
	x := newSamples()
	for _, s := range texts() {
		b := made(t, s)
		for range 40 {
			at := x.below(len(s) + 1)
			first := x.below(len(s)-at+1) &^ 1
			n := x.below(len(s) - at - first + 1)
			if got := sum.Add(summed(t, b, at, first), summed(t, b, at+first, n)); got != summed(t, b, at, first+n) {
				t.Fatalf("the sums of %d and %d bytes from %d of %d: %d", first, n, at, len(s), got)
			}
		}
		if len(s) > api.MaxPacket-2 {
			continue
		}
		for range 20 {
			b := made(t, s)
			at, w := x.below(len(s)+1)&^1, uint16(x.next()>>32)
			was := summed(t, b, 0, b.Len())
			does(t, "Insert", b.Insert(at, 2))
			if got := summed(t, b, 0, b.Len()); got != was {
				t.Fatalf("the sum with a zero word at %d of %d bytes: %d, not %d", at, len(s), got, was)
			}
			does(t, "Put", b.Put(8*at, 16, api.Word{Lo: uint64(w)}))
			if got, want := summed(t, b, 0, b.Len()), sum.Add(was, w); got != want {
				t.Fatalf("the sum with %x at %d of %d bytes: %d, not %d", w, at, len(s), got, want)
			}
		}
	}
}

// edits change a buffer in every way, also where a part before is appended to.
func edits(b *Buf) []func() api.Errno {
	return []func() api.Errno{
		func() api.Errno { return b.Put(0, 16, api.Word{Lo: 0xa55a}) },
		func() api.Errno { return b.Insert(0, 1) },
		func() api.Errno { return b.Insert(2, 3) },
		func() api.Errno { return b.Insert(b.Len(), 2) },
		func() api.Errno { return b.Delete(0, 1) },
		func() api.Errno { return b.Delete(b.Len()-1, 1) },
		func() api.Errno { return b.Delete(0, b.Len()) },
	}
}

func TestIndependenceP5_7(t *testing.T) {
	for _, s := range texts() {
		if len(s) < 3 || len(s) > api.MaxPacket-3 {
			continue
		}
		for i := range edits(nil) {
			for k := range edits(nil) {
				b := made(t, s)
				c := b.Copy()
				does(t, "the copy's edit", edits(c)[i]())
				holds(t, "the buffer after the copy's edit", b, s)
				text := c.Text()
				does(t, "the buffer's edit", edits(b)[k]())
				holds(t, "the copy after the buffer's edit", c, text)
			}
		}
	}
}

// What was deleted leaves room behind the bytes: a copy has none of it, and what is inserted is zero there too.
func TestAfterDeleteP5_7(t *testing.T) {
	b := made(t, "abcdefgh")
	does(t, "Delete", b.Delete(2, 4))
	c := b.Copy()
	does(t, "Insert", c.Insert(4, 2))
	does(t, "Insert", b.Insert(2, 1))
	holds(t, "the copy", c, "abgh\x00\x00")
	holds(t, "the buffer", b, "ab\x00gh")
	does(t, "Delete", b.Delete(0, 5))
	does(t, "Insert", b.Insert(0, 8))
	holds(t, "the buffer of zeros", b, strings.Repeat("\x00", 8))
	holds(t, "the copy, still", c, "abgh\x00\x00")
}

// A text that was answered stays what it was.
func TestTextStaysP5_7(t *testing.T) {
	b := made(t, "abcdef")
	text := b.Text()
	for _, f := range edits(b) {
		does(t, "an edit", f())
		if text != "abcdef" {
			t.Fatalf("the text became %x", text)
		}
	}
}

// wrong is the chapter's row of errors for a call at an offset, of n bytes, of a buffer of a length.
func wrong(length, at, n int, inserts bool) api.Errno {
	whole := new(big.Int).Add(big.NewInt(int64(at)), big.NewInt(int64(n)))
	full := new(big.Int).Add(big.NewInt(int64(length)), big.NewInt(int64(n)))
	switch {
	case at < 0 || n < 0:
		return api.ErrArg
	case at > length:
		return api.ErrShort
	case inserts && full.Cmp(big.NewInt(api.MaxPacket)) > 0:
		return api.ErrLong
	case !inserts && whole.Cmp(big.NewInt(int64(length))) > 0:
		return api.ErrShort
	}
	return api.OK
}

func TestErrorsP5_8(t *testing.T) {
	for _, s := range texts() {
		edges := append(far(), len(s)/2, len(s)-1, len(s), len(s)+1, api.MaxPacket-len(s), api.MaxPacket-len(s)+1)
		for _, at := range edges {
			for _, n := range edges {
				b := made(t, s)
				want := wrong(len(s), at, n, true)
				answers(t, "Insert", b.Insert(at, n), want)
				if want == api.OK {
					holds(t, "Insert", b, with(s, at, n))
				} else {
					holds(t, "Insert with an error", b, s)
				}
				want = wrong(len(s), at, n, false)
				b = made(t, s)
				sum, e := b.Sum(at, n)
				answers(t, "Sum", e, want)
				holds(t, "Sum", b, s)
				answers(t, "Delete", b.Delete(at, n), want)
				if want == api.OK {
					holds(t, "Delete", b, without(s, at, n))
				} else if holds(t, "Delete with an error", b, s); sum != 0 {
					t.Fatalf("Sum(%d, %d) of %d bytes: %d beside error %d", at, n, len(s), sum, e)
				}
			}
		}
	}
}

// Where more than one error holds, the first of the row is answered.
func TestOrderP5_8(t *testing.T) {
	b := made(t, "abc")
	answers(t, "Insert behind the end, below 0", b.Insert(4, -1), api.ErrArg)
	answers(t, "Insert below 0, too long", b.Insert(-1, api.MaxPacket+1), api.ErrArg)
	answers(t, "Insert behind the end, too long", b.Insert(4, api.MaxPacket), api.ErrShort)
	answers(t, "Insert too long", b.Insert(3, api.MaxPacket-2), api.ErrLong)
	answers(t, "Delete behind the end, below 0", b.Delete(4, -1), api.ErrArg)
	answers(t, "Delete below 0, too many", b.Delete(-1, 5), api.ErrArg)
	answers(t, "Delete of nothing behind the end", b.Delete(4, 0), api.ErrShort)
	answers(t, "Put of no width behind the end", b.Put(100, 0, api.Word{}), api.ErrArg)
	answers(t, "Put below 0, too wide", b.Put(-1, 128, api.Word{}), api.ErrArg)
	answers(t, "Put behind the end", b.Put(17, 8, api.Word{}), api.ErrShort)
	_, e := b.Sum(4, -1)
	answers(t, "Sum behind the end, below 0", e, api.ErrArg)
	_, e = b.Sum(4, 0)
	answers(t, "Sum of nothing behind the end", e, api.ErrShort)
	_, e = b.Get(100, 129)
	answers(t, "Get too wide behind the end", e, api.ErrArg)
	holds(t, "after all of them", b, "abc")
}

// A buffer and its copies under many calls, right and wrong, are what strings under the same calls are.
func TestManyCallsP5_8(t *testing.T) {
	x := newSamples()
	bufs, texts := []*Buf{made(t, "abc")}, []string{"abc"}
	for range 20000 {
		i := x.below(len(bufs))
		b, s := bufs[i], texts[i]
		at, n := x.below(len(s)+3)-1, x.below(12)-1
		switch x.below(5) {
		case 0:
			want := wrong(len(s), at, n, true)
			answers(t, "Insert", b.Insert(at, n), want)
			if want == api.OK {
				s = with(s, at, n)
			}
		case 1:
			want := wrong(len(s), at, n, false)
			answers(t, "Delete", b.Delete(at, n), want)
			if want == api.OK {
				s = without(s, at, n)
			}
		case 2:
			w := api.Word{Hi: x.next(), Lo: x.next()}
			off := 8*at + x.below(8)
			now, want := field.Put(s, off, 16*n, w)
			answers(t, "Put", b.Put(off, 16*n, w), want)
			if want == api.OK {
				s = now
			}
		case 3:
			want, f := field.Get(s, at, 8*n)
			if w, e := b.Get(at, 8*n); w != want || e != f {
				t.Fatalf("Get(%d, %d): %x, error %d, not %x, %d", at, 8*n, w, e, want, f)
			}
		case 4:
			if len(bufs) < 8 {
				bufs, texts = append(bufs, b.Copy()), append(texts, s)
			} else {
				k := x.below(8)
				bufs[k], texts[k] = b.Copy(), s
			}
			continue
		}
		texts[i] = s
		for k := range bufs {
			holds(t, "a buffer among copies", bufs[k], texts[k])
		}
	}
}
