package word

import (
	"math"
	"math/big"
	"strings"
	"testing"

	"turnout/api"
)

var (
	none = api.Word{}
	all  = api.Word{Hi: math.MaxUint64, Lo: math.MaxUint64}
)

// counts are shifts and widths: at every edge, and on both sides of it.
var counts = []int{math.MinInt, -129, -128, -64, -1, 0, 1, 2, 7, 8, 9, 31, 32, 33, 62, 63, 64, 65, 66, 95, 96, 100, 126, 127, 128, 129, 192, 255, 256, 1 << 20, math.MaxInt32, 1 << 32, math.MaxInt}

// words are the words at both ends and at each edge, and some between, always the same ones.
func words() []api.Word {
	halves := []uint64{0, 1, 2, 0xff, 1 << 32, 1<<63 - 1, 1 << 63, math.MaxUint64 - 1, math.MaxUint64}
	var out []api.Word
	for _, hi := range halves {
		for _, lo := range halves {
			out = append(out, api.Word{Hi: hi, Lo: lo})
		}
	}
	x := uint64(88172645463325252)
	next := func() uint64 {
		x ^= x << 13
		x ^= x >> 7
		x ^= x << 17
		return x
	}
	for range 40 {
		out = append(out, api.Word{Hi: next(), Lo: next()})
	}
	return out
}

// number is a as a number without a limit, to reckon by.
func number(a api.Word) *big.Int {
	n := new(big.Int).SetUint64(a.Hi)
	return n.Add(n.Lsh(n, 64), new(big.Int).SetUint64(a.Lo))
}

// lowest is the 128 lowest bits of n.
func lowest(n *big.Int) api.Word {
	n = new(big.Int).And(n, number(all))
	hi := new(big.Int).Rsh(n, 64).Uint64()
	lo := new(big.Int).And(n, new(big.Int).SetUint64(math.MaxUint64)).Uint64()
	return api.Word{Hi: hi, Lo: lo}
}

func same(t *testing.T, what string, got, want api.Word, of ...any) {
	t.Helper()
	if got != want {
		t.Errorf("%s of %v: %v, not %v", what, of, got, want)
	}
}

func TestNewP1_1(t *testing.T) {
	for _, lo := range []uint64{0, 1, 24930, 1 << 63, math.MaxUint64} {
		same(t, "New", New(lo), api.Word{Lo: lo}, lo)
	}
}

func TestTwoWordsP1_1(t *testing.T) {
	calls := []struct {
		name string
		f    func(a, b api.Word) api.Word
		rule func(z, a, b *big.Int) *big.Int
	}{
		{"Add", Add, (*big.Int).Add},
		{"Sub", Sub, (*big.Int).Sub},
		{"And", And, (*big.Int).And},
		{"Or", Or, (*big.Int).Or},
		{"Xor", Xor, (*big.Int).Xor},
	}
	for _, c := range calls {
		for _, a := range words() {
			for _, b := range words() {
				want := lowest(c.rule(new(big.Int), number(a), number(b)))
				same(t, c.name, c.f(a, b), want, a, b)
			}
		}
	}
}

func TestNotP1_1(t *testing.T) {
	for _, a := range words() {
		same(t, "Not", Not(a), lowest(new(big.Int).Not(number(a))), a)
	}
}

func TestShiftsP1_1(t *testing.T) {
	for _, a := range words() {
		for _, n := range counts {
			by := uint(min(max(n, 0), 128))
			same(t, "Left", Left(a, n), lowest(new(big.Int).Lsh(number(a), by)), a, n)
			same(t, "Right", Right(a, n), lowest(new(big.Int).Rsh(number(a), by)), a, n)
		}
	}
}

func TestExamplesP1_1(t *testing.T) {
	same(t, "Add", Add(New(math.MaxUint64), New(1)), api.Word{Hi: 1})
	same(t, "Add", Add(all, New(1)), none)
	same(t, "Sub", Sub(none, New(1)), all)
	same(t, "Sub", Sub(api.Word{Hi: 1}, New(1)), New(math.MaxUint64))
	same(t, "And", And(New(12), New(10)), New(8))
	same(t, "Or", Or(New(12), New(10)), New(14))
	same(t, "Xor", Xor(New(12), New(10)), New(6))
	same(t, "Not", Not(none), all)
	same(t, "Left", Left(New(1), 127), api.Word{Hi: 1 << 63})
	same(t, "Right", Right(Left(New(1), 127), 127), New(1))
	same(t, "Left", Left(New(1), 63), api.Word{Lo: 1 << 63})
	same(t, "Left", Left(New(1), 64), api.Word{Hi: 1})
	same(t, "Right", Right(api.Word{Hi: 1}, 64), New(1))
	same(t, "Right", Right(api.Word{Hi: 1}, 1), api.Word{Lo: 1 << 63})
	for _, n := range []int{128, 129, math.MaxInt} {
		same(t, "Left", Left(all, n), none, n)
		same(t, "Right", Right(all, n), none, n)
	}
	for _, n := range []int{0, -1, -128, math.MinInt} {
		same(t, "Left", Left(all, n), all, n)
		same(t, "Right", Right(all, n), all, n)
	}
}

func TestCompareP1_2(t *testing.T) {
	for _, a := range words() {
		for _, b := range words() {
			if got, want := Compare(a, b), number(a).Cmp(number(b)); got != want {
				t.Errorf("Compare of %v, %v: %d, not %d", a, b, got, want)
			}
		}
	}
	if Compare(api.Word{Hi: 1}, New(math.MaxUint64)) != 1 || Compare(New(1), New(2)) != -1 || Compare(all, all) != 0 {
		t.Error("Compare of the plain ones")
	}
}

func TestMaskAndCutP1_2(t *testing.T) {
	for _, n := range counts {
		power := new(big.Int).Lsh(big.NewInt(1), uint(min(max(n, 0), 128)))
		mask := lowest(power.Sub(power, big.NewInt(1)))
		same(t, "Mask", Mask(n), mask, n)
		for _, a := range words() {
			same(t, "Cut", Cut(a, n), lowest(new(big.Int).And(number(a), number(mask))), a, n)
		}
	}
	same(t, "Mask", Mask(65), api.Word{Hi: 1, Lo: math.MaxUint64})
	same(t, "Mask", Mask(64), New(math.MaxUint64))
	same(t, "Mask", Mask(1), New(1))
	same(t, "Mask", Mask(127), api.Word{Hi: 1<<63 - 1, Lo: math.MaxUint64})
	same(t, "Mask", Mask(128), all)
	same(t, "Mask", Mask(129), all)
	same(t, "Mask", Mask(0), none)
	same(t, "Mask", Mask(-1), none)
	same(t, "Cut", Cut(New(0x1234), 8), New(0x34))
}

func TestSizeP1_2(t *testing.T) {
	for _, a := range words() {
		if got, want := Size(a), number(a).BitLen(); got != want {
			t.Errorf("Size of %v: %d, not %d", a, got, want)
		}
	}
	for n := range 129 {
		if got := Size(Mask(n)); got != n {
			t.Errorf("Size of Mask(%d): %d", n, got)
		}
	}
	for n := range 128 {
		if got := Size(Left(New(1), n)); got != n+1 {
			t.Errorf("Size of bit %d: %d", n, got)
		}
	}
}

func TestTextP1_3(t *testing.T) {
	for _, a := range words() {
		want := string(number(a).FillBytes(make([]byte, 16)))
		if got := Text(a); got != want {
			t.Errorf("Text of %v: %q, not %q", a, got, want)
		}
	}
	a := api.Word{Hi: 0x0102030405060708, Lo: 0x090a0b0c0d0e0f10}
	if got := Text(a); got != "\x01\x02\x03\x04\x05\x06\x07\x08\x09\x0a\x0b\x0c\x0d\x0e\x0f\x10" {
		t.Errorf("Text: %q", got)
	}
}

func TestOfP1_3(t *testing.T) {
	texts := []string{"", "\x00", "ab", "\xff", strings.Repeat("\x00", 16), strings.Repeat("\xff", 16), "\x80" + strings.Repeat("\x00", 15)}
	for n := range 17 {
		texts = append(texts, "\xfeAbCdEfGhIjKlMnO"[:n])
	}
	for _, s := range texts {
		w, e := Of(s)
		if want := lowest(new(big.Int).SetBytes([]byte(s))); e != api.OK || w != want {
			t.Errorf("Of(%q): %v, %d, not %v", s, w, e, want)
		}
	}
	if w, e := Of("ab"); e != api.OK || w != New(24930) {
		t.Errorf("Of(ab): %v, %d", w, e)
	}
}

func TestOfTooLongP1_3(t *testing.T) {
	for _, s := range []string{strings.Repeat("\x00", 17), strings.Repeat("\xff", 17), "\x00" + Text(all), strings.Repeat("a", 18), strings.Repeat("a", 9216)} {
		if w, e := Of(s); e != api.ErrLong || w != none {
			t.Errorf("Of %d bytes: %v, %d", len(s), w, e)
		}
	}
}

func TestSumsP1_4(t *testing.T) {
	for _, a := range words() {
		same(t, "Add 0", Add(a, none), a, a)
		for _, b := range words() {
			same(t, "Add", Add(a, b), Add(b, a), a, b)
			same(t, "Sub behind Add", Sub(Add(a, b), b), a, a, b)
			same(t, "Sub", Sub(a, b), Add(a, Add(Not(b), New(1))), a, b)
		}
	}
}

func TestShiftsP1_5(t *testing.T) {
	steps := []int{0, 1, 2, 31, 63, 64, 65, 100, 127, 128, 129}
	for _, a := range words() {
		same(t, "Left by 1", Left(a, 1), Add(a, a), a)
		for _, n := range steps {
			back := Right(Left(a, n), n)
			same(t, "Left and Right", And(back, a), back, a, n)
			same(t, "Left and Right", back, Cut(a, 128-n), a, n)
			for _, m := range steps {
				same(t, "Left twice", Left(Left(a, n), m), Left(a, n+m), a, n, m)
				same(t, "Right twice", Right(Right(a, n), m), Right(a, n+m), a, n, m)
			}
		}
	}
}

func TestOrderP1_6(t *testing.T) {
	for _, a := range words() {
		for _, b := range words() {
			c := Compare(a, b)
			if c != strings.Compare(Text(a), Text(b)) || c != -Compare(b, a) || (c == 0) != (a == b) {
				t.Errorf("Compare of %v, %v: %d", a, b, c)
			}
			if size := Size(Sub(a, b)); (size >= 1) != (a != b) {
				t.Errorf("Size of the difference of %v, %v: %d", a, b, size)
			}
			if Compare(Or(a, b), a) < 0 {
				t.Errorf("%v is smaller with the bits of %v", a, b)
			}
		}
	}
}

func TestInverseP1_7(t *testing.T) {
	for _, a := range words() {
		if w, e := Of(Text(a)); e != api.OK || w != a {
			t.Errorf("Of Text of %v: %v, %d", a, w, e)
		}
	}
	for n := range 17 {
		s := "\x80\x00turnout\xffswitch"[:n]
		w, e := Of(s)
		if text := Text(w); e != api.OK || text != strings.Repeat("\x00", 16-n)+s {
			t.Errorf("Text of Of(%q): %q, %d", s, text, e)
		}
	}
}

func TestTruncationP1_8(t *testing.T) {
	calls := []func(a, b api.Word) api.Word{Add, Sub, And, Or, Xor}
	for _, n := range []int{-1, 0, 1, 8, 63, 64, 65, 127, 128, 129} {
		for _, a := range words() {
			cut := Cut(a, n)
			if Compare(cut, Mask(n)) > 0 || Size(cut) > max(n, 0) {
				t.Errorf("Cut of %v, %d: %v", a, n, cut)
			}
			same(t, "Cut of Not", Cut(Not(a), n), Cut(Not(cut), n), a, n)
			for _, b := range words() {
				for i, f := range calls {
					same(t, "Cut", Cut(f(a, b), n), Cut(f(cut, Cut(b, n)), n), i, a, b, n)
				}
			}
		}
	}
}

func TestBitsP1_9(t *testing.T) {
	for _, a := range words() {
		for _, b := range words() {
			both := And(a, b)
			same(t, "Add", Add(a, b), Add(Xor(a, b), Add(both, both)), a, b)
			same(t, "Or", Or(a, b), Xor(Xor(a, b), both), a, b)
			same(t, "Not of And", Not(both), Or(Not(a), Not(b)), a, b)
		}
	}
}
