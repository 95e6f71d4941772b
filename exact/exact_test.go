package exact

import (
	"maps"
	"math"
	"slices"
	"strconv"
	"strings"
	"testing"
	"unsafe"
)

// odd are keys of no byte, of each single byte, of the bytes at both ends, of some beyond ASCII, the beginnings of one
// another, those that differ in a bit, and long ones; each once.
func odd() []string {
	l := []string{"", "é", "日", "ab", "a\x00", "a\x00\x00", "aa", "\xff\xff", "\x00\x00", strings.Repeat("x", 1<<20), strings.Repeat("x", 1<<20+1)}
	for c := range 256 {
		l = append(l, string([]byte{byte(c)}))
	}
	for i := range 32 {
		b := make([]byte, 32)
		b[i] = 1 << (i % 8)
		l = append(l, string(b))
	}
	return l
}

// extremes are numbers at both ends, and around 0.
func extremes() []int {
	return []int{0, 1, -1, 5, math.MaxInt, math.MinInt, math.MaxInt - 1, math.MinInt + 1, math.MaxInt32, math.MinInt32, 1 << 32}
}

func TestExamplesP10_1(t *testing.T) {
	m := New()
	puts(t, m, "a", 5, 0, false)
	puts(t, m, "a", 7, 5, true)
	gets(t, m, "a")(7, true)
	has(t, m, 1, 8)
	for _, key := range []string{"b", "c", "d"} {
		puts(t, m, key, 1, 0, false)
	}
	has(t, m, 4, 8)
	puts(t, m, "e", 1, 0, false)
	has(t, m, 5, 16)
	dels(t, m, "a", true)
	gets(t, m, "a")(0, false)
	dels(t, m, "a", false)
	has(t, m, 4, 16)
}

func TestWithoutKeysP10_1(t *testing.T) {
	for name, m := range map[string]*Map{"New": New(), "zero": {}} {
		for _, key := range odd() {
			gets(t, m, key)(0, false)
			dels(t, m, key, false)
			if n := m.Looks(key); n != 1 {
				t.Fatalf("%s: %.40q: %d looks", name, key, n)
			}
		}
		has(t, m, 0, 8)
		if l := m.Keys(); len(l) != 0 {
			t.Fatalf("%s: the keys are %q", name, l)
		}
		alike(t, m, newModel())
		alike(t, m.Copy(), newModel())
		puts(t, m, "a", 5, 0, false)
		laid(t, m, "a.......")
		gets(t, m, "a")(5, true)
	}
	m := &Map{}
	puts(t, m.Copy(), "a", 5, 0, false)
	has(t, m, 0, 8)
}

func TestNumbersP10_1(t *testing.T) {
	m := New()
	was, had := 0, false
	for _, v := range append(extremes(), extremes()...) {
		puts(t, m, "a", v, was, had)
		gets(t, m, "a")(v, true)
		was, had = v, true
	}
	for i, v := range extremes() {
		key := strconv.Itoa(i)
		puts(t, m, key, v, 0, false)
		gets(t, m, key)(v, true)
	}
	for i, v := range extremes() {
		key := strconv.Itoa(i)
		puts(t, m, key, 0, v, true)
		gets(t, m, key)(0, true)
		dels(t, m, key, true)
		gets(t, m, key)(0, false)
		puts(t, m, key, v, 0, false)
		gets(t, m, key)(v, true)
	}
}

func TestEmptyKeyP10_1(t *testing.T) {
	m := New()
	gets(t, m, "")(0, false)
	puts(t, m, "", 3, 0, false)
	puts(t, m, "", 4, 3, true)
	gets(t, m, "")(4, true)
	gets(t, m, "\x00")(0, false)
	has(t, m, 1, 8)
	if l := m.Keys(); !slices.Equal(l, []string{""}) {
		t.Errorf("the keys are %q", l)
	}
	dels(t, m, "\x00", false)
	dels(t, m, "", true)
	dels(t, m, "", false)
	has(t, m, 0, 8)
}

func TestKeysOfAllSortsP10_1(t *testing.T) {
	m, w := New(), newModel()
	for i, key := range odd() {
		puts(t, m, key, i, 0, false)
		w.put(key, i)
	}
	alike(t, m, w)
	for i, key := range odd() {
		gets(t, m, key)(i, true)
		puts(t, m, key, -i, i, true)
		w.put(key, -i)
	}
	alike(t, m, w)
	for i, key := range odd() {
		gets(t, m, key)(-i, true)
		dels(t, m, key, true)
		w.del(key)
		gets(t, m, key)(0, false)
	}
	alike(t, m, w)
}

func TestNilP10_2(t *testing.T) {
	var m *Map
	for _, key := range []string{"", "a", strings.Repeat("x", 1000)} {
		for _, v := range extremes() {
			puts(t, m, key, v, 0, false)
			puts(t, m, key, v, 0, false)
		}
		gets(t, m, key)(0, false)
		dels(t, m, key, false)
		if n := m.Looks(key); n != 0 {
			t.Errorf("%d looks", n)
		}
	}
	has(t, m, 0, 0)
	if c := m.Copy(); c != nil || m != nil {
		t.Error("a copy of nil", c, m)
	}
}

// Each letter alone in a map, and each other one looked for: it takes two looks where the home slot is the same.
func TestHomesP10_2(t *testing.T) {
	homes := map[int]string{0: "amzJNY356", 1: "rsuxyU2", 2: "cghiqAEFI19", 3: "eknwGHPSV047", 4: "bjoBDWZ", 5: "ptvCL8", 6: "dfMOQRTX", 7: "lK"}
	for home, there := range homes {
		for _, key := range strings.Split(there, "") {
			m := New()
			m.Put(key, 1)
			for other, l := range homes {
				for _, absent := range strings.Split(l, "") {
					want := 1
					if home == other && key != absent {
						want = 2
					}
					if n := m.Looks(absent); n != want {
						t.Errorf("%s beside %s: %d looks, not %d", absent, key, n, want)
					}
				}
			}
		}
	}
}

func TestProbingP10_1(t *testing.T) {
	laid(t, New(), "........")
	laid(t, of("cghi"), "..cghi..")
	laid(t, of("ihgc"), "..ihgc..")
	laid(t, of("cegb"), "..cegb..")
	laid(t, of("ecbg"), "..cebg..")
	laid(t, of("dfla"), "la....df")
	laid(t, of("alfd"), "ad....fl")
	laid(t, of("lKma"), "Kma....l")
	laid(t, of("aml"), "am.....l")
}

// The slots after a deletion, of rows of keys with one home slot and with several.
func TestGapsP10_1(t *testing.T) {
	tests := []struct{ keys, gone, want string }{
		{"a", "a", "........"},
		{"l", "l", "........"},
		{"cghi", "c", "..ghi..."},
		{"cghi", "g", "..chi..."},
		{"cghi", "h", "..cgi..."},
		{"cghi", "i", "..cgh..."},
		{"cghi", "q", "..cghi.."}, // absent, with the same home slot
		{"cghi", "b", "..cghi.."}, // absent, with another one
		{"cegb", "c", "..geb..."}, // e stays: it is at its home slot
		{"cegb", "e", "..cgb..."},
		{"cegb", "g", "..ceb..."},
		{"cegb", "b", "..ceg..."},
		{"cgb", "c", "..g.b..."}, // b stays
		{"ceb", "c", "...eb..."}, // both stay
		{"cge", "c", "..ge...."}, // e, behind its home slot, moves to it
		{"ceg", "c", "..ge...."},
		{"agcr", "a", ".rgc...."}, // r, g stay, and so does c: its probing begins behind the gap
		{"dfla", "d", "a.....fl"}, // across the end
		{"dfla", "f", "a.....dl"},
		{"dfla", "l", "a.....df"},
		{"dfla", "a", "l.....df"},
		{"dlfa", "d", "a.....fl"}, // f goes back over the end
		{"dlf", "l", "......df"},
		{"dla", "d", "a......l"}, // both stay
		{"lKma", "l", "ma.....K"},
		{"lKma", "K", "ma.....l"},
		{"amlK", "l", "am.....K"}, // K goes back over two that stay
		{"amlK", "a", "mK.....l"},
	}
	for _, x := range tests {
		m := of(x.keys)
		dels(t, m, x.gone, strings.Contains(x.keys, x.gone))
		if got := layout(t, m); got != x.want {
			t.Errorf("%s without %s: %s, not %s", x.keys, x.gone, got, x.want)
		}
		for i := range len(x.keys) {
			if key := x.keys[i : i+1]; key != x.gone {
				gets(t, m, key)(i, true)
			}
		}
		gets(t, m, x.gone)(0, false)
		dels(t, m, x.gone, false)
	}
}

// The keys of the old slots are put in the order of these, and the new one after them.
func TestDoubledP10_1(t *testing.T) {
	laid(t, of("cghib"), "....cghib.......")
	laid(t, of("ihgcb"), "....ihgcb.......")
	laid(t, of("cbghi"), "....cghib.......")
	laid(t, of("wkneb"), "......wkneb.....")
	laid(t, of("lKcdb"), "....c...b...d.Kl") // K was at slot 0, ahead of l
	laid(t, of("lcdbK"), "....c...b...d.lK")
	laid(t, of("dfOQb"), "........b...OQdf") // O and Q were at slots 0 and 1
	laid(t, of("lKmaz"), "maz...........Kl")
}

// Two keys whose row goes across the end of each table: the one that was put later is ahead when the table is doubled.
func TestDoubledAcrossTheEndP10_1(t *testing.T) {
	for n := 8; n <= 1024; n *= 2 {
		m, w := New(), newModel()
		put := func(key string) {
			m.Put(key, n)
			w.put(key, n)
		}
		for i := 0; m.Slots() < n || m.Len() < n/2-2; i++ {
			if key := "k" + strconv.Itoa(i); homeOf(key, n) < n/2 {
				put(key)
			}
		}
		ends := named("end", 2*n-2, 2*n, 2)
		put(ends[0])
		put(ends[1])
		if m.Looks(ends[0]) != 1 || m.Looks(ends[1]) < 2 {
			t.Fatalf("%d slots: %d and %d looks", n, m.Looks(ends[0]), m.Looks(ends[1]))
		}
		has(t, m, n/2, n)
		put("one more")
		has(t, m, n/2+1, 2*n)
		if m.Looks(ends[1]) != 1 || m.Looks(ends[0]) != 2 {
			t.Fatalf("%d slots: %d and %d looks", 2*n, m.Looks(ends[0]), m.Looks(ends[1]))
		}
		alike(t, m, w)
	}
}

func TestWhenDoubledP10_4(t *testing.T) {
	m, w := New(), newModel()
	for i := range 2100 {
		slots := m.Slots()
		if 2*i == slots {
			testHalf(t, m, w)
			slots *= 2
		}
		key := strconv.Itoa(i)
		puts(t, m, key, i, 0, false)
		w.put(key, i)
		has(t, m, i+1, slots)
		if i < 70 || 2*i >= slots-4 || 4*i <= slots+4 {
			alike(t, m, w)
			bound(t, m)
		}
	}
	has(t, m, 2100, 8192)
}

// testHalf puts each key of a map that is at its half again, and one in another's stead: nothing is doubled.
func testHalf(t *testing.T, m *Map, w *model) {
	t.Helper()
	n := m.Slots()
	for _, key := range m.Keys() {
		v, _ := m.Get(key)
		puts(t, m, key, v+1, v, true)
		puts(t, m, key, v, v+1, true)
		has(t, m, n/2, n)
	}
	alike(t, m, w)
	dels(t, m, "0", true)
	puts(t, m, "other", 1, 0, false)
	has(t, m, n/2, n)
	dels(t, m, "other", true)
	puts(t, m, "0", 0, 0, false)
	w.del("0")
	w.put("0", 0)
	alike(t, m, w)
}

func TestNeverFewerSlotsP10_4(t *testing.T) {
	m, w := New(), newModel()
	for i := range 100 {
		m.Put(strconv.Itoa(i), i)
		w.put(strconv.Itoa(i), i)
	}
	for i := range 100 {
		key := strconv.Itoa(i * 37 % 100)
		dels(t, m, key, true)
		w.del(key)
		has(t, m, 99-i, 256)
		alike(t, m, w)
		bound(t, m)
	}
	for i := range 128 {
		puts(t, m, "k"+strconv.Itoa(i), i, 0, false)
		has(t, m, i+1, 256)
	}
	puts(t, m, "one more", 0, 0, false)
	has(t, m, 129, 512)
}

func TestKeysP10_2(t *testing.T) {
	m := New()
	for _, key := range []string{"b", "ab", "\xff", "", "a", "日", "\x80", "aa", "\x00", "a\x00", "B", "é", "abc", "\x7f", "a\xff"} {
		m.Put(key, 1)
	}
	m.Put("a", 2)
	m.Del("B")
	want := []string{"", "\x00", "a", "a\x00", "aa", "ab", "abc", "a\xff", "b", "\x7f", "\x80", "é", "日", "\xff"}
	if l := m.Keys(); !slices.Equal(l, want) {
		t.Errorf("%q", l)
	}
}

func TestKeysWrittenOverP10_2(t *testing.T) {
	m, w := New(), newModel()
	for i := range 7 {
		m.Put(strconv.Itoa(i), i)
		w.put(strconv.Itoa(i), i)
	}
	l, other := m.Keys(), m.Keys()
	for i := range l {
		l[i] = "x"
	}
	_ = append(l[:0], "y", "z")
	if want := strings.Split("0123456", ""); !slices.Equal(other, want) {
		t.Errorf("%q", other)
	}
	alike(t, m, w)
}

// What was passed may become something else later, and nothing that is answered is a part of it, or of the map.
func TestOwnMemoryP10_2(t *testing.T) {
	within := func(part, s string) bool {
		p, from := uintptr(unsafe.Pointer(unsafe.StringData(part))), uintptr(unsafe.Pointer(unsafe.StringData(s)))
		return from <= p && p < from+uintptr(len(s))
	}
	data := []byte("first and second")
	passed := unsafe.String(&data[0], len(data))
	m := New()
	m.Put(passed[:5], 1)
	m.Put(passed[10:], 2)
	c := m.Copy()
	l, other, copied := m.Keys(), m.Keys(), c.Keys()
	for i, key := range l {
		if within(key, passed) || within(copied[i], passed) || within(other[i], key) || within(copied[i], key) {
			t.Errorf("%q shares memory", key)
		}
	}
	clear(data)
	for _, x := range []*Map{m, c} {
		gets(t, x, "first")(1, true)
		gets(t, x, "second")(2, true)
		if got := x.Keys(); !slices.Equal(got, []string{"first", "second"}) {
			t.Errorf("the keys have become %q", got)
		}
	}
}

// Copies are made of maps of every number of keys, and of copies; then all are changed, in different ways.
func TestCopyP10_2(t *testing.T) {
	for n := range 40 {
		m, w := New(), newModel()
		for i := range n {
			m.Put(strconv.Itoa(i), i)
			w.put(strconv.Itoa(i), i)
		}
		maps, models := []*Map{m}, []*model{w}
		for i := range 5 {
			maps = append(maps, maps[i/2].Copy())
			models = append(models, models[i/2].copy())
			alike(t, maps[i+1], models[i+1])
		}
		for i := range maps {
			for _, key := range []string{"0", strconv.Itoa(n / 2), strconv.Itoa(n), "new"} {
				if i%3 != 0 {
					maps[i].Del(key)
					models[i].del(key)
				}
				if i%2 != 0 {
					maps[i].Put(key, 100*i)
					models[i].put(key, 100*i)
				}
				for j := range maps {
					alike(t, maps[j], models[j])
				}
			}
		}
	}
}

func TestReadingChangesNothingP10_2(t *testing.T) {
	m, w := New(), newModel()
	for i := range 64 {
		m.Put(strconv.Itoa(i), i)
		w.put(strconv.Itoa(i), i)
	}
	for range 3 {
		for _, key := range append(odd(), strangers(128)...) {
			if _, had := w.get(key); !had {
				gets(t, m, key)(0, false)
				dels(t, m, key, false)
			}
		}
		alike(t, m, w)
	}
}

// All maps of up to four keys at 8 slots, by their home slots; of each, every key is deleted.
func TestAllSmallMapsP10_1(t *testing.T) {
	var keys [8][]string
	for home := range keys {
		keys[home] = named("k", home, 8, 4)
	}
	for code := range 8 * 8 * 8 * 8 {
		m, w := New(), newModel()
		var l []string
		for i := range 4 {
			key := keys[code>>(3*i)&7][i]
			testTakenBack(t, m, key)
			puts(t, m, key, i, 0, false)
			w.put(key, i)
			l = append(l, key)
		}
		alike(t, m, w)
		bound(t, m)
		for _, key := range l {
			c, x := m.Copy(), w.copy()
			dels(t, c, key, true)
			x.del(key)
			alike(t, c, x)
			bound(t, c)
		}
	}
}

// testTakenBack puts a key that is absent and for which there is room, and deletes it.
func testTakenBack(t *testing.T, m *Map, key string) {
	t.Helper()
	looks := looksOf(m)
	n, slots := m.Len(), m.Slots()
	puts(t, m, key, 1, 0, false)
	has(t, m, n+1, slots)
	dels(t, m, key, true)
	has(t, m, n, slots)
	if now := looksOf(m); !maps.Equal(looks, now) {
		t.Fatalf("%q put and deleted: the looks are %v, not %v", key, now, looks)
	}
}

// looksOf is the looks of all keys of m, and of an absent one for each home slot.
func looksOf(m *Map) map[string]int {
	out := map[string]int{}
	for _, key := range append(m.Keys(), strangers(m.Slots())...) {
		out[key] = m.Looks(key)
	}
	return out
}

// Keys with one home slot, as many as there is room for: the probing of the last one visits all, and so does that of an absent one.
func TestOneHomeP10_5(t *testing.T) {
	for n := 8; n <= 128; n *= 2 {
		for _, home := range []int{0, 1, n / 2, n - 2, n - 1} {
			m := New()
			for i := 0; m.Slots() < n; i++ {
				m.Put(strconv.Itoa(i), i)
			}
			for _, key := range m.Keys() {
				dels(t, m, key, true)
			}
			keys := named("k", home, n, n/2+1)
			for i, key := range keys[:n/2] {
				puts(t, m, key, i, 0, false)
				if looks := m.Looks(key); looks != i+1 {
					t.Fatalf("key %d of home slot %d of %d: %d looks", i, home, n, looks)
				}
				if looks := m.Looks(keys[n/2]); looks != i+2 {
					t.Fatalf("an absent key behind %d of home slot %d of %d: %d looks", i, home, n, looks)
				}
			}
			bound(t, m)
			for i, key := range keys[:n/2] {
				gets(t, m, key)(i, true)
				dels(t, m, key, true)
				for j, later := range keys[i+1 : n/2] {
					if looks := m.Looks(later); looks != j+1 {
						t.Fatalf("key %d of home slot %d of %d: %d looks", j, home, n, looks)
					}
				}
			}
		}
	}
}

// The same keys in each order, with others that are put among them and deleted.
func TestAnyOrderP10_6(t *testing.T) {
	want := map[string]int{"c": 1, "g": 2, "h": -3, "l": 4, "K": 0, "": 6}
	keys := slices.Sorted(maps.Keys(want))
	count := 0
	for order := range orders(keys) {
		m := New()
		for i, key := range order {
			other := "other" + strconv.Itoa(i)
			puts(t, m, other, i, 0, false)
			puts(t, m, key, 100, 0, false)
			if i%2 == count%2 {
				dels(t, m, key, true)
				dels(t, m, other, true)
				puts(t, m, key, 200, 0, false)
			}
		}
		for i, key := range order {
			m.Del("other" + strconv.Itoa(i))
			puts(t, m, key, want[key], 100+100*(1-(i+count)%2), true)
		}
		contains(t, m, want)
		count++
	}
	if count != 720 {
		t.Errorf("%d orders", count)
	}
}

// orders yields each order of the items.
func orders(l []string) func(yield func([]string) bool) {
	return func(yield func([]string) bool) {
		if len(l) == 0 {
			yield(nil)
			return
		}
		for i := range l {
			rest := slices.Delete(slices.Clone(l), i, i+1)
			for order := range orders(rest) {
				if !yield(append([]string{l[i]}, order...)) {
					return
				}
			}
		}
	}
}

// contains ends the test where m does not have these keys with these numbers, and no others.
func contains(t *testing.T, m *Map, want map[string]int) {
	t.Helper()
	if got, all := m.Keys(), slices.Sorted(maps.Keys(want)); m.Len() != len(want) || !slices.Equal(got, all) {
		t.Fatalf("%d keys, %.200q, not %.200q", m.Len(), got, all)
	}
	for key, v := range want {
		gets(t, m, key)(v, true)
	}
}

// Many orders of putting and deleting many keys, that are doubled at different times.
func TestAnyOrderOfManyP10_6(t *testing.T) {
	x := newSamples()
	for range 30 {
		m, want := New(), map[string]int{}
		for i := range 300 {
			key := strconv.Itoa(x.below(400))
			if x.below(3) == 0 {
				m.Del(key)
			} else {
				m.Put(key, -i)
			}
		}
		order := make([]int, 400)
		for i := range order {
			j := x.below(i + 1)
			order[i], order[j] = order[j], i
		}
		for _, i := range order {
			key := strconv.Itoa(i)
			m.Del(key)
			if i%3 != 0 {
				m.Put(key, i)
				want[key] = i
			}
		}
		contains(t, m, want)
	}
}

// Long rows of puts and deletes: of few keys with the same home slots, of some, and of many; more puts than deletes, and then the other way round.
func TestLongRowsP10_3(t *testing.T) {
	few := append(append(named("k", 7, 8, 3), named("k", 6, 8, 2)...), named("k", 0, 8, 2)...)
	some := append(named("k", 15, 16, 6), odd()[:9]...)
	var many []string
	for i := range 900 {
		many = append(many, "key"+strconv.Itoa(i))
	}
	testRow(t, few, 20000, 1)
	testRow(t, some, 10000, 1)
	testRow(t, many, 20000, 97)
}

// testRow makes so many changes of a map, a plain one and a model, and compares all of them after every so many.
func testRow(t *testing.T, keys []string, changes, every int) {
	t.Helper()
	x := newSamples()
	m, plain, w := New(), map[string]int{}, newModel()
	for i := range changes {
		key, v := keys[x.below(len(keys))], int(x.next())
		was, had := plain[key]
		if more := i/(changes/4)%2 == 0; x.below(10) < 7 == more {
			puts(t, m, key, v, was, had)
			plain[key] = v
			w.put(key, v)
		} else {
			dels(t, m, key, had)
			delete(plain, key)
			w.del(key)
		}
		alikeIn(t, m, w, key)
		if _, had := plain[key]; !had && 2*(m.Len()+1) <= m.Slots() && i%every == 0 {
			testTakenBack(t, m, key)
		}
		if i%every == 0 {
			contains(t, m, plain)
			alike(t, m, w)
			bound(t, m)
		}
	}
	contains(t, m, plain)
	alike(t, m, w)
}

// The same calls have the same answers.
func TestSameAgainP10_3(t *testing.T) {
	run := func() *Map {
		x, m := newSamples(), New()
		for range 2000 {
			key := strconv.Itoa(x.below(200))
			if m.Put(key, x.below(100)); x.below(2) == 0 {
				m.Del(strconv.Itoa(x.below(200)))
			}
		}
		return m
	}
	a, b := run(), run()
	if !maps.Equal(looksOf(a), looksOf(b)) || !slices.Equal(a.Keys(), b.Keys()) || a.Slots() != b.Slots() {
		t.Error("two runs differ")
	}
}
