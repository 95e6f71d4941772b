package sum

import (
	"math/bits"
	"slices"
	"strings"
	"testing"

	"turnout/api"
)

const most = 1<<16 - 1

// samples yields numbers without a pattern, always the same ones.
type samples uint64

func newSamples() *samples {
	x := samples(88172645463325252)
	return &x
}

func (x *samples) next() uint64 {
	*x ^= *x << 13
	*x ^= *x >> 7
	*x ^= *x << 17
	return uint64(*x)
}

func (x *samples) text(n int) string {
	b := make([]byte, n)
	for i := range b {
		b[i] = byte(x.next() >> 32)
	}
	return string(b)
}

// numbers are 16-bit words at both ends and at each edge, and some between.
func numbers() []uint16 {
	out := []uint16{0, 1, 2, 0xfe, 0xff, 0x100, 0x101, 0x7ffe, 0x7fff, 0x8000, 0x8001, 0xfeff, 0xff00, 0xff01, 0xfffe, 0xffff}
	x := newSamples()
	for range 24 {
		out = append(out, uint16(x.next()>>32))
	}
	return out
}

// texts are of no byte, of every small length, of some long ones, and of bytes whose sums are at both ends.
func texts() []string {
	x := newSamples()
	out := []string{"", x.text(api.MaxPacket), x.text(api.MaxPacket - 1)}
	for n := range 20 {
		out = append(out, x.text(n), strings.Repeat("\x00", n), strings.Repeat("\xff", n))
	}
	return append(out, "\x00\x01", "\x01\x00", "\xff\xfe\x00\x01", "\xff\xff\x00\x01", "\x80\x00\x80\x00", "\x00\x00\xff\xff", "\xff\xff\x00\x00", "\x00\x00\x00\x01")
}

// lists are the strings cut and joined in many ways: none at all, empty ones among others, odd ones behind each other.
func lists() [][]string {
	out := [][]string{nil, {}, {""}, {"", "", ""}, {"a"}, {"a", "b"}, {"", "a", "", "b", ""}, {"a", "", "b"}, {"a", "b", "c"}, {"abc", "", "d", "ef"}, {"\xff", "\xff"}, {"\xff", "", "\xff", "\x00", "\x01"}, {"ab", "c", "\x00"}}
	x := newSamples()
	for i := range 300 {
		var l []string
		for range i % 8 {
			l = append(l, x.text(int(x.next()>>32)%7))
		}
		out = append(out, l)
	}
	return out
}

// words are the 16-bit words of the joined strings.
func words(l ...string) []uint16 {
	s := strings.Join(l, "")
	if len(s)%2 == 1 {
		s += "\x00"
	}
	var out []uint16
	for i := 0; i < len(s); i += 2 {
		out = append(out, uint16(s[i])*256+uint16(s[i+1]))
	}
	return out
}

// join is the words as a string.
func join(words []uint16) string {
	var b []byte
	for _, w := range words {
		b = append(b, byte(w/256), byte(w%256))
	}
	return string(b)
}

// total is the sum of the words by another rule: 0, or what they leave modulo 2^16 - 1, from 1 on.
func total(words []uint16) uint16 {
	n := uint64(0)
	for _, w := range words {
		n += uint64(w)
	}
	if n == 0 {
		return 0
	}
	return uint16((n-1)%most + 1)
}

// both is the rule of a sum of two, as the chapter says it.
func both(a, b uint16) uint16 {
	n := int(a) + int(b)
	if n >= 1<<16 {
		n = n - 1<<16 + 1
	}
	return uint16(n)
}

func same(t *testing.T, what string, got, want uint16, of ...any) {
	t.Helper()
	if got != want {
		t.Errorf("%s of %x: %d, not %d", what, of, got, want)
	}
}

func TestAddP3_1(t *testing.T) {
	for _, a := range numbers() {
		for b := range 1 << 16 {
			if got := Add(a, uint16(b)); got != both(a, uint16(b)) {
				t.Fatalf("Add of %d, %d: %d", a, b, got)
			}
		}
	}
	same(t, "Add", Add(65535, 1), 1)
	same(t, "Add", Add(65535, 65535), 65535)
	same(t, "Add", Add(65535, 0), 65535)
	same(t, "Add", Add(65534, 1), 65535)
	same(t, "Add", Add(65534, 2), 1)
	same(t, "Add", Add(32768, 32768), 1)
	same(t, "Add", Add(0, 0), 0)
	same(t, "Add", Add(1, 2), 3)
}

func TestSumP3_1(t *testing.T) {
	for _, l := range lists() {
		same(t, "Sum", Sum(l...), total(words(l...)), l)
	}
	for _, s := range texts() {
		same(t, "Sum", Sum(s), total(words(s)), []byte(s))
		n := uint16(0)
		for _, w := range words(s) {
			n = both(n, w)
		}
		same(t, "Sum", Sum(s), n, []byte(s))
	}
}

func TestOfP3_1(t *testing.T) {
	for _, l := range lists() {
		same(t, "Of", Of(l...), most-total(words(l...)), l)
	}
	for _, s := range texts() {
		same(t, "Of", Of(s), most-total(words(s)), []byte(s))
	}
}

func TestGoodP3_1(t *testing.T) {
	for _, s := range texts() {
		if got, want := Good(s), total(words(s)) == most; got != want {
			t.Errorf("Good of %x: %v", s, got)
		}
	}
	for n := range 1 << 16 {
		if got := Good(join([]uint16{uint16(n)})); got != (n == most) {
			t.Errorf("Good of the word %d: %v", n, got)
		}
	}
	for _, s := range []string{"\xff\xff", "\xff\xfe\x00\x01", "\xff\xff\xff\xff", "\x00\x00\xff\xff", "\xff\xff\x00", "\xff\x00\x00\xff", "\x00\xff\xff"} {
		if !Good(s) {
			t.Errorf("Good of %x: false", s)
		}
	}
	for _, s := range []string{"", "\x00", "\x00\x00", "\xff", "\x00\xff", "\xff\xfe", "\xfe\xff", "\xff\xff\x00\x01", "\xff\xff\x01", "a"} {
		if Good(s) {
			t.Errorf("Good of %x: true", s)
		}
	}
}

func TestExamplesP3_1(t *testing.T) {
	parts := []string{"\x00\x01", "\xf2\x03\xf4\xf5", "\xf6\xf7"}
	same(t, "Sum", Sum(parts...), 0xddf2)
	same(t, "Of", Of(parts...), 0x220d)
	same(t, "Sum", Sum("\x00\x01\xf2\x03\xf4\xf5\xf6\xf7"), 56818)
	same(t, "Of", Of("\x00\x01\xf2\x03\xf4\xf5\xf6\xf7"), 8717)
	same(t, "Sum", Sum("a"), 24832)
	same(t, "Sum", Sum("a", "b"), 24930)
	same(t, "Sum", Sum("ab"), 24930)
	same(t, "Sum", Sum("", "a", "", "b", ""), 24930)
	same(t, "Sum", Sum("b", "a"), 25185)
	same(t, "Sum", Sum(), 0)
	same(t, "Sum", Sum(""), 0)
	same(t, "Of", Of(), 65535)
	same(t, "Of", Of("", ""), 65535)
	same(t, "Of", Of("\xff\xff"), 0)
}

func TestStringsAreKeptP3_1(t *testing.T) {
	for _, l := range lists() {
		before := slices.Clone(l)
		first, check := Sum(l...), Of(l...)
		if !slices.Equal(l, before) {
			t.Errorf("%q: now %q", before, l)
		}
		same(t, "Sum again", Sum(l...), first, l)
		same(t, "Of again", Of(l...), check, l)
	}
}

func TestLongTextsP3_1(t *testing.T) {
	const half = 1 << 20
	same(t, "Sum of ff", Sum(strings.Repeat("\xff", 2*half)), most)
	same(t, "Sum of ff, an odd number", Sum(strings.Repeat("\xff", 2*half+1)), 0xff00)
	same(t, "Sum of 00 01", Sum(strings.Repeat("\x00\x01", half)), half%most)
	same(t, "Sum of 00", Sum(strings.Repeat("\x00", 2*half+1)), 0)
	s := newSamples().text(half + 1)
	same(t, "Sum", Sum(s), total(words(s)))
	same(t, "Sum byte by byte", Sum(strings.Split(s, "")...), total(words(strings.Split(s, "")...)))
	single := make([]string, len(s))
	for i := range single {
		single[i] = s[i : i+1]
	}
	same(t, "Sum of single bytes", Sum(single...), total(words(s)))
}

func TestUpdateP3_2(t *testing.T) {
	for _, sum := range numbers() {
		for _, old := range numbers() {
			for _, now := range numbers() {
				want := most - both(both(most-sum, most-old), now)
				same(t, "Update", Update(sum, old, now), want, sum, old, now)
			}
		}
	}
	same(t, "Update", Update(8717, 1, 2), 8716)
	same(t, "Update", Update(8717, 2, 1), 8718)
	// From and to words whose sums are at the ends: 0 is reached by none but the sums of zeros.
	same(t, "Update", Update(0, 0, 0), 0)
	same(t, "Update", Update(65535, 0, 0), 0)
	same(t, "Update", Update(65535, 65535, 0), 65535)
	same(t, "Update", Update(65535, 65535, 65535), 0)
	same(t, "Update", Update(65535, 0, 65535), 0)
	same(t, "Update", Update(0, 65535, 0), 0)
	same(t, "Update", Update(0, 65535, 1), 65534)
	same(t, "Update", Update(0, 65535, 65535), 0)
	same(t, "Update", Update(65534, 1, 0), 0)
}

func TestAnyOrderP3_3(t *testing.T) {
	for _, a := range numbers() {
		for b := range 1 << 16 {
			n := Add(a, uint16(b))
			if n != Add(uint16(b), a) {
				t.Fatalf("Add of %d, %d: not that of %d, %d", a, b, b, a)
			}
			if (n == 0) != (a == 0 && b == 0) {
				t.Fatalf("Add of %d, %d: %d", a, b, n)
			}
		}
		for _, b := range numbers() {
			for _, c := range numbers() {
				same(t, "Add twice", Add(Add(a, b), c), Add(a, Add(b, c)), a, b, c)
			}
		}
	}
	for _, s := range texts() {
		l := words(s)
		slices.Sort(l)
		same(t, "Sum of sorted words", Sum(join(l)), Sum(s), []byte(s))
		slices.Reverse(l)
		same(t, "Sum of words in reverse", Sum(join(l)), Sum(s), []byte(s))
	}
}

func TestPartsP3_4(t *testing.T) {
	for _, s := range texts() {
		if len(s) > 40 {
			continue
		}
		for i := range len(s) + 1 {
			for j := i; j <= len(s); j++ {
				a, b, c := s[:i], s[i:j], s[j:]
				parts := []uint16{Sum(a), Sum(b), Sum(c)}
				if i%2 == 1 {
					parts[1] = bits.ReverseBytes16(parts[1])
				}
				if j%2 == 1 {
					parts[2] = bits.ReverseBytes16(parts[2])
				}
				same(t, "Sum of parts", Add(Add(parts[0], parts[1]), parts[2]), Sum(s), a, b, c)
				same(t, "Sum of a list", Sum(a, b, c), Sum(s), a, b, c)
				same(t, "Of of a list", Of(a, b, c), Of(s), a, b, c)
			}
		}
	}
}

func TestGoodP3_5(t *testing.T) {
	for _, s := range texts() {
		if len(s)%2 == 1 || len(s) > 40 {
			continue
		}
		check := join([]uint16{Of(s)})
		for off := 0; off <= len(s); off += 2 {
			whole := s[:off] + check + s[off:]
			if !Good(whole) {
				t.Errorf("%x, its checksum at %d: not good", s, off)
			}
			testReplaced(t, words(whole))
		}
	}
	if !Good("\x00\x01\xf2\x03\xf4\xf5\xf6\xf7\x22\x0d") || Good("\x00\x01\xf2\x03\xf4\xf5\xf6\xf7\x0d\x22") {
		t.Error("the example behind its checksum")
	}
}

// testReplaced puts other words for each of a good string's.
func testReplaced(t *testing.T, l []uint16) {
	t.Helper()
	for i, old := range l {
		for _, now := range append(numbers(), old^1, old^0x8000, ^old, old+1, old-1) {
			changed := slices.Clone(l)
			changed[i] = now
			unseen := old == now || old%most == 0 && now%most == 0
			// A string of zeros alone has no word by which 0 and 2^16 - 1 would be the same.
			want := unseen && total(changed) != 0
			if Good(join(changed)) != want {
				t.Errorf("%x, the word %d now %d: good: %v", l, i, now, !want)
			}
		}
	}
}

func TestUpdateP3_6(t *testing.T) {
	for _, s := range texts() {
		if len(s) > 40 || len(s)%2 == 1 {
			continue
		}
		for i, old := range words(s) {
			for _, now := range append(numbers(), old) {
				l := words(s)
				l[i] = now
				want := Of(join(l))
				if total(l) == 0 {
					want = 0 // the sum comes round to 2^16 - 1, not to 0
				}
				same(t, "Update", Update(Of(s), old, now), want, []byte(s), i, now)
			}
		}
	}
}

func TestUpdateWithinP3_6(t *testing.T) {
	x := newSamples()
	for _, s := range []string{x.text(3), x.text(11), x.text(1001), x.text(api.MaxPacket)} {
		for off := 0; off+2 <= len(s); off += 2 {
			old, now := words(s[off : off+2])[0], uint16(x.next()>>32)
			changed := s[:off] + join([]uint16{now}) + s[off+2:]
			same(t, "Update", Update(Of(s), old, now), Of(changed), len(s), off, now)
		}
	}
}

func TestSwappingP3_7(t *testing.T) {
	for _, s := range texts() {
		l := words(s)
		for i := range l {
			l[i] = bits.ReverseBytes16(l[i])
		}
		same(t, "Sum of swapped words", Sum(join(l)), bits.ReverseBytes16(Sum(s)), []byte(s))
	}
}

func TestZerosP3_8(t *testing.T) {
	for _, s := range texts() {
		for n := range 5 {
			zeros := strings.Repeat("\x00", n)
			same(t, "Sum before zeros", Sum(s+zeros), Sum(s), []byte(s), n)
			same(t, "Sum with zeros", Sum(s, zeros), Sum(s), []byte(s), n)
		}
		for off := 0; off <= min(len(s), 40); off += 2 {
			same(t, "Sum around zeros", Sum(s[:off]+"\x00\x00"+s[off:]), Sum(s), []byte(s), off)
		}
		if (Sum(s) == 0) != (strings.Trim(s, "\x00") == "") {
			t.Errorf("Sum of %x: %d", s, Sum(s))
		}
	}
}
