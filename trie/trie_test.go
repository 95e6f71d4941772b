package trie

import (
	"iter"
	"math"
	"slices"
	"strconv"
	"strings"
	"testing"
	"unsafe"

	"turnout/api"
)

// extremes are numbers at both ends, and around 0.
func extremes() []int {
	return []int{0, 1, -1, 5, math.MaxInt, math.MinInt, math.MaxInt - 1, math.MinInt + 1, math.MaxInt32, math.MinInt32, 1 << 32}
}

// lengths are the numbers of bits at both ends, around whole bytes, and some between.
func lengths() []int {
	return []int{0, 1, 2, 6, 7, 8, 9, 10, 15, 16, 17, 24, 63, 64, 65, 100, 127, 128, 129, 200, 247, 248, 249, 254, 255, 256}
}

// odd are prefixes of all those lengths: of zeros, of ones, of both by turns, with one bit at either end, and others.
func odd() []string {
	x := newSamples()
	var l []string
	for _, n := range lengths() {
		l = append(l, strings.Repeat("0", n), strings.Repeat("1", n), strings.Repeat("10", n)[:n], x.digits(n), x.digits(n))
		if n > 0 {
			l = append(l, strings.Repeat("0", n-1)+"1", "1"+strings.Repeat("0", n-1))
		}
	}
	slices.Sort(l)
	return slices.Compact(l)
}

// wrong are keys and lengths that are no prefixes, each with what is wrong first.
func wrong() map[pairOf]api.Errno {
	l := map[pairOf]api.Errno{}
	for _, n := range []int{-1, -8, 257, 264, math.MaxInt, math.MaxInt - 7, math.MinInt, math.MaxInt32 + 1, math.MinInt32 - 1, 1 << 32} {
		for _, size := range []int{0, 1, 31, 32, 33, 34} { // also as many bytes as are too many for any prefix
			l[pairOf{strings.Repeat("\x00", size), n}] = api.ErrArg
			l[pairOf{strings.Repeat("\xff", size), n}] = api.ErrArg
		}
	}
	for n := range 257 {
		size := len(keyOf(strings.Repeat("0", n)))
		for _, other := range []int{size - 1, size + 1, size - 2, size + 2, 0, 32, 33, 1000} {
			if other >= 0 && other != size {
				l[pairOf{strings.Repeat("\x00", other), n}] = api.ErrForm
				l[pairOf{strings.Repeat("\xff", other), n}] = api.ErrForm
			}
		}
		for at := n; at < 8*size; at++ { // a single 1 bit behind the last one
			l[pairOf{keyOf(strings.Repeat("0", at) + "1"), n}] = api.ErrForm
			l[pairOf{keyOf(strings.Repeat("1", n) + strings.Repeat("0", at-n) + "1"), n}] = api.ErrForm
		}
	}
	return l
}

// pairOf is a key, and a number of bits.
type pairOf struct {
	key string
	n   int
}

func TestExamplesP11_2(t *testing.T) {
	x := New()
	puts(t, x, "", 0, 1, api.OK)
	puts(t, x, "\x80", 1, 2, api.OK)
	puts(t, x, "\x80\x40", 10, 3, api.OK)
	want := []Item{{"", 0, 1}, {"\x80", 1, 2}, {"\x80\x40", 10, 3}}
	for _, bad := range []pairOf{{"\x80", 0}, {"\xc0", 1}, {"\x80\x00", 1}} {
		puts(t, x, bad.key, bad.n, 9, api.ErrForm)
		lists(t, x, want)
	}
	found(t, x, "\x80\x7f")(10, 3, true)
	found(t, x, "\x80\x00")(1, 2, true)
	found(t, x, "\x80")(1, 2, true)
	found(t, x, "\x00")(0, 1, true)
	found(t, x, "")(0, 1, true)
	lists(t, x, want)
}

func TestEmptyP11_1(t *testing.T) {
	tries := map[string]*Trie{"New": New(), "zero": {}, "a copy": (&Trie{}).Copy()}
	tries["emptied"], _ = of(t, "", "1", strings.Repeat("0", 256))
	for _, digits := range []string{"1", strings.Repeat("0", 256), ""} {
		dels(t, tries["emptied"], digits, true)
	}
	for name, x := range tries {
		t.Run(name, func(t *testing.T) {
			for _, digits := range odd() {
				gets(t, x, digits)(0, false)
				dels(t, x, digits, false)
				found(t, x, keyOf(digits))(0, 0, false)
			}
			alike(t, x, nil)
			alike(t, x.Copy(), nil)
			put(t, x, "0101", 4)
			alike(t, x, model{{"0101", 4}})
		})
	}
}

func TestNilP11_2(t *testing.T) {
	var x *Trie
	for _, digits := range odd() {
		puts(t, x, keyOf(digits), len(digits), 5, api.ErrNil)
		gets(t, x, digits)(0, false)
		dels(t, x, digits, false)
		found(t, x, keyOf(digits))(0, 0, false)
	}
	for p := range wrong() {
		puts(t, x, p.key, p.n, 5, api.ErrNil)
		getsOf(t, x, p.key, p.n)(0, false)
		delsOf(t, x, p.key, p.n, false)
		found(t, x, p.key)(0, 0, false)
	}
	if x.Len() != 0 || len(x.All()) != 0 || x.Copy() != nil {
		t.Error("nil", x.Len(), x.All(), x.Copy())
	}
}

// What is no prefix is refused, and changes nothing: neither what is near nor what it would be, cut or filled.
func TestWrongP11_1(t *testing.T) {
	empty := New()
	x, w := of(t, odd()...)
	for p, e := range wrong() {
		for _, y := range []*Trie{empty, x} {
			puts(t, y, p.key, p.n, 7, e)
			getsOf(t, y, p.key, p.n)(0, false)
			delsOf(t, y, p.key, p.n, false)
		}
		if empty.Len() != 0 || x.Len() != len(w) {
			t.Fatalf("%x, %d changed something", p.key, p.n)
		}
	}
	alike(t, empty, nil)
	alike(t, x, w)
}

// Each length alone: which keys have it as a prefix.
func TestOneP11_1(t *testing.T) {
	for _, digits := range odd() {
		x := New()
		put(t, x, digits, 7)
		alike(t, x, model{{digits, 7}})
		n := len(digits)
		if n > 0 {
			found(t, x, keyOf(digits)[:(n-1)/8])(0, 0, false)
			gets(t, x, digits[:n-1])(0, false)
			dels(t, x, digits[:n-1], false)
		}
		for at := range n {
			flipped := []byte(digits)
			flipped[at] ^= 1
			found(t, x, keyOf(string(flipped)))(0, 0, false)
			gets(t, x, string(flipped))(0, false)
			dels(t, x, string(flipped), false)
		}
		if n < 256 {
			for _, more := range []string{"0", "1"} {
				gets(t, x, digits+more)(0, false)
				dels(t, x, digits+more, false)
			}
		}
		found(t, x, keyOf(digits))(n, 7, true)
		dels(t, x, digits, true)
		dels(t, x, digits, false)
		alike(t, x, nil)
	}
}

func TestNumbersP11_1(t *testing.T) {
	for _, digits := range []string{"", "0", "10101010", strings.Repeat("1", 256)} {
		x := New()
		for _, v := range append(extremes(), extremes()...) {
			put(t, x, digits, v)
			alike(t, x, model{{digits, v}})
		}
		for _, v := range extremes() {
			dels(t, x, digits, true)
			gets(t, x, digits)(0, false)
			put(t, x, digits, v)
			gets(t, x, digits)(v, true)
			found(t, x, keyOf(digits))(len(digits), v, true)
		}
	}
}

func TestPutAgainP11_1(t *testing.T) {
	x, w := of(t, odd()...)
	for i, digits := range odd() {
		put(t, x, digits, i) // the same number
		put(t, x, digits, -i-1)
		w = w.with(digits, -i-1)
		if x.Len() != len(w) {
			t.Fatalf("%d prefixes, not %d", x.Len(), len(w))
		}
	}
	alike(t, x, w)
}

// A prefix that is the beginning of others, one between two, and the ends of a row, each put and deleted last.
func TestNestedP11_2(t *testing.T) {
	long := newSamples().digits(256)
	var row []string
	for _, n := range lengths() {
		row = append(row, long[:n])
	}
	for i, digits := range row {
		others := slices.Delete(slices.Clone(row), i, i+1)
		x, w := of(t, others...)
		alike(t, x, w)
		gets(t, x, digits)(0, false)
		dels(t, x, digits, false)
		put(t, x, digits, 99)
		alike(t, x, w.with(digits, 99))
		dels(t, x, digits, true)
		alike(t, x, w)
	}
}

// Del of the only one, of one with longer ones behind it, of one at the end of a long way, and of one beside another.
func TestDelP11_1(t *testing.T) {
	long := strings.Repeat("01", 128)
	beside := long[:255] + "0"
	tests := []struct {
		l    []string
		gone string
	}{
		{[]string{""}, ""},
		{[]string{"1"}, "1"},
		{[]string{long}, long},
		{[]string{"", long}, ""},
		{[]string{"", long}, long},
		{[]string{"1", "11", "10"}, "1"},
		{[]string{"1", "11", "10"}, "11"},
		{[]string{"1", "11", "111"}, "11"},
		{[]string{"1", "11", "111"}, "111"},
		{[]string{"0", "1"}, "0"},
		{[]string{"0", "1"}, "1"},
		{[]string{long[:128], long}, long},
		{[]string{long[:128], long}, long[:128]},
		{[]string{long, beside}, long},
		{[]string{long, beside}, beside},
		{[]string{long, long[:1] + "0"}, long},
		{[]string{long, "1"}, long},
		{[]string{long[:9], long[:8], long[:7]}, long[:8]},
	}
	for _, c := range tests {
		x, w := of(t, c.l...)
		dels(t, x, c.gone, true)
		alike(t, x, w.without(c.gone))
		gets(t, x, c.gone)(0, false)
		dels(t, x, c.gone, false)
		put(t, x, c.gone, 50)
		alike(t, x, w.with(c.gone, 50))
	}
}

// Keys whose number of bytes is below that of the longest prefix, the same, and above it.
func TestLongestP11_2(t *testing.T) {
	x, _ := of(t, "", "0", "0000000", "00000000", "000000000", "00000001", strings.Repeat("0", 255), strings.Repeat("0", 256))
	tests := []struct {
		key  string
		n, v int
	}{
		{"", 0, 0},
		{"\x80", 0, 0},
		{"\x80\x00", 0, 0},
		{"\x7f", 1, 1},
		{"\x02", 1, 1},
		{"\x00", 8, 3},
		{"\x01", 8, 5},
		{"\x01\x00", 8, 5},
		{"\x00\x80", 8, 3},
		{"\x00\x7f", 9, 4},
		{"\x00\x00", 9, 4},
		{strings.Repeat("\x00", 31), 9, 4},
		{strings.Repeat("\x00", 31) + "\x02", 9, 4},
		{strings.Repeat("\x00", 31) + "\x01", 255, 6},
		{strings.Repeat("\x00", 32), 256, 7},
		{strings.Repeat("\x00", 33), 256, 7},
		{strings.Repeat("\x00", 32) + "\xff", 256, 7},
		{strings.Repeat("\x00", 1<<20), 256, 7},
	}
	for _, c := range tests {
		found(t, x, c.key)(c.n, c.v, true)
	}
	dels(t, x, "", true)
	found(t, x, "")(0, 0, false)
	found(t, x, "\x80")(0, 0, false)
	found(t, x, "\x7f")(1, 1, true)
}

// Longest is the last of All that is a prefix of the key.
func TestLastOfAllP11_3(t *testing.T) {
	r := newSamples()
	for range 40 {
		x := New()
		for range r.below(60) {
			put(t, x, r.digits(r.below(11)), r.below(100))
		}
		all := x.All()
		for a := range 256 {
			for _, key := range []string{string([]byte{byte(a)}), string([]byte{byte(r.next()), byte(a)})} {
				var last Item
				is := false
				for _, y := range all {
					if strings.HasPrefix(digitsOf(key), digitsOf(y.Key)[:y.Len]) {
						last, is = y, true
					}
				}
				found(t, x, key)(last.Len, last.V, is)
			}
		}
	}
}

// Sorted by bits: the prefixes of one byte's text, in either order, and those around the end of a byte.
func TestAllP11_6(t *testing.T) {
	x, _ := of(t, "1000000000", "10000000", "100", "1", "0", "", "01", "00000000", "000000000", "0000000", "11", "10", "000000001", "1000000")
	want := []Item{
		{"", 0, 5},
		{"\x00", 1, 4},
		{"\x00", 7, 9},
		{"\x00", 8, 7},
		{"\x00\x00", 9, 8},
		{"\x00\x80", 9, 12},
		{"\x40", 2, 6},
		{"\x80", 1, 3},
		{"\x80", 2, 11},
		{"\x80", 3, 2},
		{"\x80", 7, 13},
		{"\x80", 8, 1},
		{"\x80\x00", 10, 0},
		{"\xc0", 2, 10},
	}
	lists(t, x, want)
	for n := 8; n >= 0; n-- { // each of these has the same key, but for the last
		put(t, x, strings.Repeat("0", n), n)
	}
	for n, y := range x.All()[:9] {
		if y.Len != n || y.V != n {
			t.Errorf("%v at place %d", y, n)
		}
	}
}

// What All says holds for Get, Longest and Len.
func TestEachOfAllP11_6(t *testing.T) {
	x, _ := of(t, odd()...)
	all := x.All()
	if len(all) != x.Len() {
		t.Errorf("%d elements of %d", len(all), x.Len())
	}
	before := ""
	for i, y := range all {
		getsOf(t, x, y.Key, y.Len)(y.V, true)
		if n, _, is := x.Longest(y.Key); !is || n < y.Len {
			t.Errorf("%v: the longest has %d bits", y, n)
		}
		digits := digitsOf(y.Key)[:y.Len]
		if i > 0 && before >= digits {
			t.Errorf("%s is before %s", before, digits)
		}
		before = digits
	}
}

// A key with bytes behind it has the same longest prefix, or a longer one, which extends it.
func TestLongerKeysP11_5(t *testing.T) {
	x, w := of(t, odd()...)
	short, v := of(t, "", "1", "10", "1010", "10101010", "00000000", "0111")
	for _, key := range append(queries(w), queries(v)...) {
		for _, more := range []string{"\x00", "\xff", "\xaa\xaa\xaa", strings.Repeat("\x00", 40), strings.Repeat("\xff", 40)} {
			n, _, is := x.Longest(key)
			m, _, still := x.Longest(key + more)
			if !is || !still || m < n || m > n && m <= 8*len(key) {
				t.Fatalf("%x: %d, and with %x behind it %d", key, n, more, m)
			}
			if key != "" { // no prefix of this trie is longer than it
				found(t, short, key+more)(short.Longest(key))
			}
		}
	}
}

// The same prefixes in each order, each put once, and among them others that are deleted.
func TestAnyOrderP11_4(t *testing.T) {
	l := []string{"", "1", "10", "1000000", "10000000", "100000001"}
	_, want := of(t, l...)
	count := 0
	for order := range orders(l) {
		x, y := New(), New()
		for i, digits := range order {
			put(t, x, digits, slices.Index(l, digits))
			put(t, y, "11"+order[(i+1)%6], i)
			put(t, y, digits, slices.Index(l, digits))
			if i%2 == count%2 {
				dels(t, y, order[0], true)
				put(t, y, order[0], slices.Index(l, order[0]))
			}
		}
		for _, digits := range order {
			dels(t, y, "11"+digits, true)
		}
		alike(t, x, want)
		alike(t, y, want)
		count++
	}
	if count != 720 {
		t.Errorf("%d orders", count)
	}
}

// orders yields each order of the items.
func orders(l []string) iter.Seq[[]string] {
	return func(yield func([]string) bool) {
		if len(l) == 0 {
			yield(nil)
			return
		}
		for i := range l {
			rest := slices.Delete(slices.Clone(l), i, i+1)
			for order := range orders(rest) {
				if !yield(append([]string{l[i]}, order...)) {
					return
				}
			}
		}
	}
}

// A prefix that is absent, put and deleted again.
func TestPutAndDeletedP11_4(t *testing.T) {
	x, w := of(t, odd()...)
	empty := New()
	r := newSamples()
	for _, n := range append(lengths(), lengths()...) {
		near := odd()[r.below(len(odd()))]
		for _, digits := range []string{r.digits(n), (near + strings.Repeat("1", 256))[:n], near[:n*len(near)/256] + "1"} {
			if _, had := w.get(digits); had || len(digits) > 256 {
				continue
			}
			testTakenBack(t, x, digits)
			testTakenBack(t, empty, digits)
			alike(t, empty, nil)
		}
	}
	alike(t, x, w)
}

// What was put and deleted again leaves nothing behind that a copy would have to have as well.
func TestNothingLeftP11_4(t *testing.T) {
	full, _ := of(t, odd()...)
	for _, x := range []*Trie{New(), full} {
		copies := func() int { return int(testing.AllocsPerRun(10, func() { x.Copy() })) }
		before := copies()
		for _, digits := range []string{"0110", strings.Repeat("0110", 64), strings.Repeat("1", 250) + "011", strings.Repeat("0", 200) + "101"} {
			put(t, x, digits, 5)
			dels(t, x, digits, true)
		}
		if now := copies(); now != before {
			t.Errorf("a copy takes %d pieces of memory, not %d", now, before)
		}
	}
}

// testTakenBack puts a prefix that is absent, and deletes it.
func testTakenBack(t *testing.T, x *Trie, digits string) {
	t.Helper()
	all, n := x.All(), x.Len()
	var was []func(int, int, bool)
	keys := queries(model{{digits, 0}})
	for _, key := range keys {
		was = append(was, found(t, x, key))
	}
	put(t, x, digits, 77)
	gets(t, x, digits)(77, true)
	if x.Len() != n+1 {
		t.Fatalf("%d prefixes, not one more than %d", x.Len(), n)
	}
	dels(t, x, digits, true)
	lists(t, x, all)
	for i, key := range keys {
		was[i](x.Longest(key))
	}
}

// All tries of some bits with up to two behind them, by what is present: each against a list, and each prefix put and deleted.
func TestAllSmallTriesP11_1(t *testing.T) {
	for _, base := range []string{"", "000000", "1111111", "01100101", strings.Repeat("1", 254)} {
		l := []string{base}
		for i := 0; len(l) < 7; i++ {
			l = append(l, l[i]+"0", l[i]+"1")
		}
		for code := range 1 << len(l) {
			x, w := New(), model{}
			for i, digits := range l {
				if code>>i&1 != 0 {
					put(t, x, digits, i)
					w = w.with(digits, i)
				}
			}
			alike(t, x, w)
			for i, digits := range l {
				y := x.Copy()
				dels(t, y, digits, code>>i&1 != 0)
				alike(t, y, w.without(digits))
				put(t, y, digits, 100)
				alike(t, y, w.with(digits, 100))
			}
			alike(t, x, w)
		}
	}
}

// Copies are made of tries, and of copies; then all are changed, in different ways.
func TestCopyP11_7(t *testing.T) {
	r := newSamples()
	for n := range 40 {
		x, w := New(), model{}
		for i := range n {
			digits := r.digits(r.below(12))
			put(t, x, digits, i)
			w = w.with(digits, i)
		}
		tries, models := []*Trie{x}, []model{w}
		for i := range 5 {
			tries = append(tries, tries[i/2].Copy())
			models = append(models, models[i/2])
			alike(t, tries[i+1], models[i+1])
		}
		for i := range tries {
			for _, digits := range []string{"", "0", "1", r.digits(r.below(12)), r.digits(12)} {
				if _, had := models[i].get(digits); i%3 != 0 {
					dels(t, tries[i], digits, had)
					models[i] = models[i].without(digits)
				}
				if i%2 != 0 {
					put(t, tries[i], digits, 100*i)
					models[i] = models[i].with(digits, 100*i)
				}
				for j := range tries {
					alike(t, tries[j], models[j])
				}
			}
		}
	}
}

func TestAllWrittenOverP11_7(t *testing.T) {
	x, w := of(t, "", "1", "10", "0", "000000001")
	l, other := x.All(), x.All()
	for i := range l {
		l[i] = Item{"x", 8, 9}
	}
	_ = append(l[:0], Item{"y", 8, 9}, Item{"z", 8, 9})
	if !slices.Equal(other, w.all()) {
		t.Errorf("%v", other)
	}
	alike(t, x, w)
}

// What was passed may become something else later, and nothing that is answered is a part of it, or of another answer.
func TestOwnMemoryP11_7(t *testing.T) {
	within := func(part, s string) bool {
		p, from := uintptr(unsafe.Pointer(unsafe.StringData(part))), uintptr(unsafe.Pointer(unsafe.StringData(s)))
		return from <= p && p < from+uintptr(len(s))
	}
	data := []byte("\x12\x34\x56\x78")
	passed := unsafe.String(&data[0], len(data))
	x := New()
	puts(t, x, passed[:2], 16, 1, api.OK)
	puts(t, x, passed[1:], 24, 2, api.OK)
	want := []Item{{"\x12\x34", 16, 1}, {"\x34\x56\x78", 24, 2}}
	c := x.Copy()
	l, other, copied := x.All(), x.All(), c.All()
	for i := range l {
		if within(l[i].Key, passed) || within(copied[i].Key, passed) || within(other[i].Key, l[i].Key) || within(copied[i].Key, l[i].Key) {
			t.Errorf("%v shares memory", l[i])
		}
	}
	clear(data)
	for _, y := range []*Trie{x, c} {
		lists(t, y, want)
		found(t, y, "\x12\x34\x56")(16, 1, true)
	}
}

func TestReadingChangesNothingP11_2(t *testing.T) {
	x, w := of(t, odd()...)
	for range 2 {
		for _, key := range queries(w) {
			x.Longest(key)
			for _, n := range []int{8 * len(key), 8*len(key) - 3, -1, 257} {
				x.Get(key, n)
			}
		}
		x.All()
		x.Len()
		x.Copy()
		alike(t, x, w)
	}
}

// Long rows of acts: of few short prefixes, of many, and of long ones with a common beginning; more puts than deletes,
// and then the other way round.
func TestLongRowsP11_1(t *testing.T) {
	r := newSamples()
	few := []string{"", "0", "1", "00", "11", "110", "1101", "11011011", "110110110"}
	var many, long []string
	for i := range 300 {
		many = append(many, r.digits(i%20))
	}
	base := r.digits(256)
	for i := range 60 {
		n := 256 - r.below(30)
		long = append(long, base[:n], (base[:n-1-i%9] + r.digits(9))[:n])
	}
	testRow(t, few, 6000, 1)
	testRow(t, many, 8000, 101)
	testRow(t, long, 4000, 101)
}

// testRow makes so many changes of a trie and a list, and compares both after every so many.
func testRow(t *testing.T, prefixes []string, changes, every int) {
	t.Helper()
	r := newSamples()
	x, w := New(), model{}
	for i := range changes {
		digits, v := prefixes[r.below(len(prefixes))], int(r.next())
		if more := i/(changes/4)%2 == 0; r.below(10) < 7 == more {
			put(t, x, digits, v)
			w = w.with(digits, v)
		} else {
			_, had := w.get(digits)
			dels(t, x, digits, had)
			w = w.without(digits)
		}
		gets(t, x, digits)(w.get(digits))
		key := keyOf(prefixes[r.below(len(prefixes))]) + string([]byte{byte(r.next())})
		found(t, x, key)(w.longest(key))
		if i%every == 0 {
			alike(t, x, w)
			if _, had := w.get(digits); !had {
				testTakenBack(t, x, digits)
			}
		}
	}
	alike(t, x, w)
}

// The same calls have the same answers.
func TestSameAgainP11_4(t *testing.T) {
	run := func() *Trie {
		r, x := newSamples(), New()
		for i := range 2000 {
			digits := r.digits(r.below(14))
			if put(t, x, digits, i); r.below(2) == 0 {
				x.Del(keyOf(digits[:len(digits)/2]), len(digits)/2)
			}
		}
		return x
	}
	a, b := run(), run()
	if !slices.Equal(a.All(), b.All()) || a.Len() != b.Len() || a.Len() < 100 {
		t.Errorf("two runs differ, or have only %s prefixes", strconv.Itoa(a.Len()))
	}
}
