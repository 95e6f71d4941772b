package hash

import (
	"hash/fnv"
	"math"
	"math/big"
	"slices"
	"sort"
	"strings"
	"testing"

	"turnout/api"
)

const all = 1 << 32 // how many hashes there are

// samples yields numbers without a pattern, always the same ones.
type samples uint64

func newSamples() *samples {
	x := samples(88172645463325252)
	return &x
}

func (x *samples) next() uint64 {
	*x ^= *x << 13
	*x ^= *x >> 7
	*x ^= *x << 17
	return uint64(*x)
}

func (x *samples) number() uint32 {
	return uint32(x.next() >> 16)
}

func (x *samples) text(n int) string {
	b := make([]byte, n)
	for i := range b {
		b[i] = byte(x.next() >> 32)
	}
	return string(b)
}

// numbers are those at both ends, each single bit and its neighbours, and some between.
func numbers() []uint32 {
	out := []uint32{0, math.MaxUint32, basis, prime, first, second, 0x12345678, 0xaaaaaaaa, 0x55555555}
	for i := range 32 {
		bit := uint32(1) << i
		out = append(out, bit, bit-1, bit+1, ^bit)
	}
	x := newSamples()
	for range 200 {
		out = append(out, x.number())
	}
	return out
}

// counts are rows of slots: of none, of one, of few, of many, and of the most.
func counts() []int {
	out := []int{0, 1, 2, 3, 5, 7, 8, 10, 16, 100, 255, 256, 257, 1000, 65535, 65536, 65537, 1 << 20, 1<<30 - 1, 1 << 30, 1<<30 + 1, api.MaxInt - 1, api.MaxInt}
	x := newSamples()
	for range 20 {
		out = append(out, int(x.next()%api.MaxInt)+1)
	}
	return out
}

// texts are of no byte, of each small length, of some long ones, and of the bytes at both ends.
func texts() []string {
	x := newSamples()
	out := []string{"", "a", "foobar", "\x80\x7f", "é日", x.text(api.MaxPacket), x.text(1 << 20)}
	for n := range 20 {
		out = append(out, x.text(n), strings.Repeat("\x00", n), strings.Repeat("\xff", n))
	}
	return out
}

// lists are none at all, empty strings among others, and the strings cut in many ways.
func lists() [][]string {
	out := [][]string{nil, {}, {""}, {"", "", ""}, {"a"}, {"a", "b"}, {"b", "a"}, {"", "a", "", "b", ""}, {"foo", "bar"}, {"\x00"}, {"\x00", "", "\x00"}, {"\xff", "\x80", "\x7f"}}
	x := newSamples()
	for i := range 300 {
		var l []string
		for range i % 8 {
			l = append(l, x.text(int(x.next()>>32)%7))
		}
		out = append(out, l)
	}
	return out
}

// rule is the chapter's hash of the joined strings, from its own numbers on.
func rule(from uint64, l ...string) uint32 {
	h := from
	for _, c := range []byte(strings.Join(l, "")) {
		h = (h ^ uint64(c)) * 16777619 % all
	}
	return uint32(h)
}

// mixed is the chapter's rule of Mix, by divisions.
func mixed(n uint32) uint32 {
	h := uint64(n)
	h = h ^ h/65536
	h = h * 0x85EBCA6B % all
	h = h ^ h/8192
	h = h * 0xC2B2AE35 % all
	h = h ^ h/65536
	return uint32(h)
}

// slot is the chapter's rule of Slot, by numbers without a limit.
func slot(h uint32, n int) int {
	p := new(big.Int).Mul(big.NewInt(int64(h)), big.NewInt(int64(n)))
	return int(p.Div(p, big.NewInt(all)).Int64())
}

// same ends the test at the first difference: there are many samples, and some are long.
func same(t *testing.T, what string, got, want uint32, of ...any) {
	t.Helper()
	if got != want {
		t.Fatalf("%s of %.80x: %08x, not %08x", what, of, got, want)
	}
}

func sameSlot(t *testing.T, h uint32, n, want int) {
	t.Helper()
	if got := Slot(h, n); got != want {
		t.Fatalf("Slot of %d, %d: %d, not %d", h, n, got, want)
	}
}

func TestOfP4_1(t *testing.T) {
	for _, l := range lists() {
		same(t, "Of", Of(l...), rule(2166136261, l...), l)
	}
	for _, s := range texts() {
		same(t, "Of", Of(s), rule(2166136261, s), s)
		library := fnv.New32a()
		library.Write([]byte(s))
		same(t, "Of", Of(s), library.Sum32(), s)
	}
	for c := range 256 {
		s := string([]byte{byte(c)})
		same(t, "Of", Of(s), rule(2166136261, s), s)
	}
}

func TestOfExamplesP4_1(t *testing.T) {
	same(t, "Of", Of(), 2166136261)
	same(t, "Of", Of(), 0x811C9DC5)
	same(t, "Of", Of(""), 0x811C9DC5, "")
	same(t, "Of", Of("", "", ""), 0x811C9DC5, "", "", "")
	same(t, "Of", Of("a"), 0xE40C292C, "a")
	same(t, "Of", Of("b"), 0xE70C2DE5, "b")
	same(t, "Of", Of("foo"), 0xA9F37ED7, "foo")
	same(t, "Of", Of("foobar"), 0xBF9CF968, "foobar")
	same(t, "Of", Of("foo", "bar"), 0xBF9CF968, "foo", "bar")
	same(t, "Of", Of("\x00"), 0x050C5D1F, "\x00")
	same(t, "Of", Of("\x00\x00"), 0x117697CD, "\x00\x00")
	same(t, "Of", Of("\xff"), 0x7A0B824E, "\xff")
}

func TestMoreP4_1(t *testing.T) {
	for _, h := range numbers() {
		same(t, "More", More(h, ""), h, h, "")
		for _, s := range []string{"a", "\x00", "\xff", "foobar", "\x80\x7f\x00", strings.Repeat("ab", 50)} {
			same(t, "More", More(h, s), rule(uint64(h), s), h, s)
		}
	}
	for _, s := range texts() {
		same(t, "More", More(Of(), s), Of(s), s)
		same(t, "More", More(Of("foo"), s), Of("foo"+s), s)
	}
	same(t, "More", More(0x811C9DC5, "a"), 0xE40C292C, "a")
	same(t, "More", More(0xA9F37ED7, "bar"), 0xBF9CF968, "bar")
	same(t, "More", More(0, "\x00"), 0, "\x00")
	same(t, "More", More(0, "\x01"), 16777619, "\x01")
}

func TestMixP4_1(t *testing.T) {
	for _, h := range numbers() {
		same(t, "Mix", Mix(h), mixed(h), h)
	}
	for low := range uint32(1 << 16) {
		same(t, "Mix", Mix(low), mixed(low), low)
		same(t, "Mix", Mix(low<<16), mixed(low<<16), low<<16)
	}
	same(t, "Mix", Mix(0), 0)
	same(t, "Mix", Mix(1), 0x514E28B7)
	same(t, "Mix", Mix(2), 0x30F4C306)
	same(t, "Mix", Mix(0x12345678), 0xE37CD1BC)
	same(t, "Mix", Mix(1<<31), 0x6D3C65A0)
	same(t, "Mix", Mix(math.MaxUint32), 0x81F16F39)
	same(t, "Mix", Mix(Of("a")), 0x1A80B1B3)
}

func TestBackP4_1(t *testing.T) {
	for _, h := range numbers() {
		same(t, "Back", Back(mixed(h)), h, mixed(h))
		same(t, "the rule of Mix of Back", mixed(Back(h)), h, h)
	}
	same(t, "Back", Back(0), 0)
	same(t, "Back", Back(0x514E28B7), 1)
	same(t, "Back", Back(0x30F4C306), 2)
	same(t, "Back", Back(0x6D3C65A0), 1<<31)
	same(t, "Back", Back(0x81F16F39), math.MaxUint32)
}

func TestStringsAreKeptP4_1(t *testing.T) {
	for _, l := range lists() {
		before := slices.Clone(l)
		once := Of(l...)
		if !slices.Equal(l, before) {
			t.Fatalf("%q: now %q", before, l)
		}
		same(t, "Of again", Of(l...), once, l)
	}
}

func TestSlotP4_2(t *testing.T) {
	for _, n := range counts() {
		for _, h := range numbers() {
			sameSlot(t, h, n, slot(h, n))
		}
	}
	sameSlot(t, 1<<31, 10, 5)
	sameSlot(t, 1<<32-1, 10, 9)
	sameSlot(t, 0, 10, 0)
	sameSlot(t, 1<<31-1, 2, 0)
	sameSlot(t, 1<<31, 2, 1)
	sameSlot(t, 429496729, 10, 0)
	sameSlot(t, 429496730, 10, 1)
	sameSlot(t, 1, api.MaxInt, 0)
	sameSlot(t, 2, api.MaxInt, 0)
	sameSlot(t, 3, api.MaxInt, 1)
	sameSlot(t, math.MaxUint32, api.MaxInt, api.MaxInt-1)
	sameSlot(t, math.MaxUint32, 1, 0)
}

func TestSlotLimitsP4_2(t *testing.T) {
	for _, h := range numbers() {
		for _, n := range []int{0, -1, -2, -10, -api.MaxInt, -api.MaxInt - 1, -1 << 32, -1<<32 + 1, math.MinInt + 1, math.MinInt} {
			sameSlot(t, h, n, 0)
		}
		most := slot(h, api.MaxInt)
		for _, n := range []int{api.MaxInt, api.MaxInt + 1, api.MaxInt + 2, 1<<32 - 1, 1 << 32, 1<<32 + 1, 1 << 40, math.MaxInt - 1, math.MaxInt} {
			sameSlot(t, h, n, most)
		}
	}
	sameSlot(t, math.MaxUint32, 0, 0)
	sameSlot(t, math.MaxUint32, -1, 0)
	sameSlot(t, math.MaxUint32, 1<<31, 1<<31-2)
	sameSlot(t, math.MaxUint32, math.MaxInt, 1<<31-2)
	sameSlot(t, 1<<31, 1<<31, 1<<30-1)
}

func TestPiecesP4_3(t *testing.T) {
	for _, s := range texts() {
		want := Of(s)
		if len(s) > 40 {
			single := strings.Split(s, "") // runes, where the bytes make some
			same(t, "Of of a list", Of(single...), want, s)
			continue
		}
		for i := range len(s) + 1 {
			for j := i; j <= len(s); j++ {
				a, b, c := s[:i], s[i:j], s[j:]
				same(t, "Of of a list", Of(a, b, c), want, a, b, c)
				same(t, "Of of a list", Of("", a, "", b, c, ""), want, a, b, c)
				same(t, "More twice", More(More(Of(a), b), c), want, a, b, c)
				same(t, "More of Of", More(Of(a, b), c), want, a, b, c)
			}
		}
	}
	for _, l := range lists() {
		h := Of()
		for _, s := range l {
			h = More(h, s)
		}
		same(t, "More of each", h, Of(l...), l)
		same(t, "Of of the whole", Of(strings.Join(l, "")), Of(l...), l)
	}
}

func TestBijectionP4_4(t *testing.T) {
	check := func(h uint32) {
		if Back(Mix(h)) != h || Mix(Back(h)) != h {
			t.Fatalf("%08x: Back of Mix %08x, Mix of Back %08x", h, Back(Mix(h)), Mix(Back(h)))
		}
	}
	for _, h := range numbers() {
		check(h)
	}
	for h := range uint32(1 << 16) {
		check(h)
		check(h << 16)
		check(^h)
		check(h << 8)
	}
	// A stride without a common factor, through all of them.
	for n := uint64(0); n < all; n += 4099 {
		check(uint32(n))
	}
}

// least is the least number from which on Slot is s or more; all, if there is none.
func least(s, n int) int {
	return sort.Search(all, func(h int) bool { return Slot(uint32(h), n) >= s })
}

func TestRangeP4_5(t *testing.T) {
	for _, n := range counts() {
		if n == 0 {
			continue
		}
		sameSlot(t, 0, n, 0)
		sameSlot(t, math.MaxUint32, n, n-1)
		l := numbers()
		slices.Sort(l)
		last := 0
		for _, h := range l {
			s := Slot(h, n)
			if s < last || s >= n {
				t.Fatalf("Slot of %d, %d: %d, behind %d", h, n, s, last)
			}
			last = s
		}
	}
}

func TestNoStepBackP4_5(t *testing.T) {
	for _, n := range counts() {
		for _, from := range []int{0, all/2 - 1000, all - 2000} {
			for h := from; h < from+1999; h++ {
				a, b := Slot(uint32(h), n), Slot(uint32(h+1), n)
				if b < a || b > a+1 {
					t.Fatalf("Slot of %d, %d: %d, then %d", h, n, a, b)
				}
			}
		}
	}
}

func TestSharesP4_5(t *testing.T) {
	for n := 1; n <= 300; n++ {
		total := 0
		for s := range n {
			total += testShare(t, s, n)
		}
		if total != all {
			t.Fatalf("%d slots have %d numbers", n, total)
		}
	}
	x := newSamples()
	for _, n := range counts() {
		if n == 0 {
			continue
		}
		for range 50 {
			testShare(t, int(x.next()%uint64(n)), n)
		}
		testShare(t, 0, n)
		testShare(t, n-1, n)
	}
}

// testShare counts the numbers that slot s of n has: as many as fit, or one more.
func testShare(t *testing.T, s, n int) int {
	t.Helper()
	share := least(s+1, n) - least(s, n)
	if few := all / n; share != few && (all%n == 0 || share != few+1) {
		t.Fatalf("slot %d of %d: %d numbers, of %d", s, n, share, few)
	}
	return share
}

func TestOneByteP4_6(t *testing.T) {
	for _, s := range texts() {
		s = s[:min(len(s), 64)]
		for i := range len(s) {
			testByte(t, Of(), s[:i], s[i+1:])
		}
	}
	long := strings.Repeat("x", api.MaxPacket)
	for i := range len(long) {
		if Of(long[:i], "y", long[i+1:]) == Of(long) {
			t.Fatalf("byte %d of %d: the same hash", i, len(long))
		}
	}
}

func TestOneByteBehindAnyP4_6(t *testing.T) {
	for _, h := range numbers() {
		for _, after := range []string{"", "\x00", "abc", strings.Repeat("\xff", 40)} {
			testByte(t, h, "", after)
		}
	}
}

// testByte puts every byte between before and after: each gives a hash of its own.
func testByte(t *testing.T, from uint32, before, after string) {
	t.Helper()
	seen := map[uint32]int{}
	for c := range 256 {
		h := More(from, before+string([]byte{byte(c)})+after)
		if other, had := seen[h]; had {
			t.Fatalf("behind %08x, between %x and %x: %02x and %02x: %08x", from, before, after, other, c, h)
		}
		seen[h] = c
	}
}
