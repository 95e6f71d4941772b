package table

import (
	"slices"
	"strings"
	"testing"

	"turnout/api"
)

// samples yields numbers without a pattern, always the same ones.
type samples uint64

func newSamples() *samples {
	x := samples(88172645463325252)
	return &x
}

func (x *samples) next() uint64 {
	*x ^= *x << 13
	*x ^= *x >> 7
	*x ^= *x << 17
	return uint64(*x)
}

// below yields a number from 0 to n - 1.
func (x *samples) below(n int) int {
	return int(x.next() >> 33 % uint64(n))
}

// bytes yields n bytes.
func (x *samples) bytes(n int) string {
	b := make([]byte, n)
	for i := range b {
		b[i] = byte(x.next() >> 29)
	}
	return string(b)
}

// few yields n bytes of a few values.
func (x *samples) few(n int) string {
	b := make([]byte, n)
	for i := range b {
		b[i] = "\x00\x01\x02\x80\xc0\xff"[x.below(6)]
	}
	return string(b)
}

// entry yields an entry for a table of a kind, with keys whose fields have these widths, from bytes that text yields.
func (x *samples) entry(kind uint8, widths []int, text func(n int) string) api.Entry {
	n := size(widths)
	y := api.Entry{Table: tableID, Key: text(n), Block: 1 + x.below(65534), Cookie: x.next(), Tell: x.below(2) == 0}
	for range x.below(5) {
		y.Args = append(y.Args, x.next())
	}
	y.Hard, y.Idle = int64(x.below(2)*x.below(40)), int64(x.below(2)*x.below(20))
	switch kind {
	case api.Prefix:
		y.Len = x.below(8*n + 1)
		y.Key = packed(digits(y.Key)[:y.Len] + strings.Repeat("0", 8*n-y.Len))
	case api.Ternary:
		y.Other, y.Prio = text(n), x.below(3)
		y.Key = under(y.Key, y.Other)
	case api.Range:
		y.Prio = x.below(3)
		other := text(n)
		var low, high string
		for i, a := range parts(widths, y.Key) {
			b := parts(widths, other)[i]
			low, high = low+min(a, b), high+max(a, b)
		}
		y.Key, y.Other = low, high
	}
	return y
}

const tableID = 77

// kinds are the four kinds.
func kinds() []uint8 { return []uint8{1, 2, 3, 4} }

// shapes are widths: of one field up to the most, of one byte up to the most, together up to MaxKey.
func shapes() [][]int {
	return [][]int{{1}, {2}, {16}, {1, 1}, {1, 2}, {16, 16}, {3, 1, 2}, {4, 4, 2, 1}, {1, 1, 1, 1}, {8, 8, 8, 8}, {16, 14, 1, 1}}
}

// definition is a table of a kind, with as many fields.
func definition(kind uint8, fields, most int) api.Table {
	return api.Table{ID: tableID, Kind: kind, Keys: []int{9, 1, 9, 65534}[:fields], Cap: most, Miss: 5}
}

// size is how many bytes the keys have whose fields have these widths.
func size(widths []int) int {
	n := 0
	for _, width := range widths {
		n += width
	}
	return n
}

// digits are the bits of s, as digits.
func digits(s string) string {
	var b []byte
	for i := range len(s) {
		for n := 7; n >= 0; n-- {
			b = append(b, '0'+s[i]>>n&1)
		}
	}
	return string(b)
}

// packed are the bytes that have these digits as bits.
func packed(bits string) string {
	b := make([]byte, len(bits)/8)
	for i := range bits {
		b[i/8] = 2*b[i/8] + bits[i] - '0'
	}
	return string(b)
}

// under is s under a mask of the same length, bit by bit.
func under(s, mask string) string {
	a, b := digits(s), digits(mask)
	bits := make([]byte, len(a))
	for i := range bits {
		bits[i] = min(a[i], b[i])
	}
	return packed(string(bits))
}

// parts are the fields of a key.
func parts(widths []int, key string) []string {
	var l []string
	for _, width := range widths {
		l = append(l, key[:width])
		key = key[width:]
	}
	return l
}

// row is an entry, and when it was put, and last put or found.
type row struct {
	x         api.Entry
	put, used int64
}

// model is a table, the widths of its fields, and a plain list of its entries in the order in which they were put.
type model struct {
	table  api.Table
	widths []int
	rows   []row
}

// clock is the time that now counts as.
func clock(now int64) int64 {
	switch {
	case now < 0:
		return 0
	case now > 1<<40:
		return 1 << 40
	}
	return now
}

// equal tells whether two entries are alike in all that they have.
func equal(a, b api.Entry) bool {
	return a.Table == b.Table && a.Key == b.Key && a.Other == b.Other && a.Len == b.Len && a.Prio == b.Prio && a.Block == b.Block &&
		slices.Equal(a.Args, b.Args) && a.Idle == b.Idle && a.Hard == b.Hard && a.Cookie == b.Cookie && a.Tell == b.Tell
}

// equalTables tells whether two tables are alike in all that they have.
func equalTables(a, b api.Table) bool {
	return a.ID == b.ID && a.Kind == b.Kind && slices.Equal(a.Keys, b.Keys) && a.Cap == b.Cap && a.Miss == b.Miss
}

// place is where the same entry is; -1 if it is nowhere.
func (w model) place(x api.Entry) int {
	return slices.IndexFunc(w.rows, func(r row) bool {
		return r.x.Table == x.Table && r.x.Key == x.Key && r.x.Other == x.Other && r.x.Len == x.Len && r.x.Prio == x.Prio
	})
}

// put is the model with an entry put, and w as it was.
func (w model) put(x api.Entry, now int64) model {
	w = w.del(x)
	w.rows = append(w.rows, row{x, clock(now), clock(now)})
	return w
}

// del is the model with an entry deleted, and w as it was.
func (w model) del(x api.Entry) model {
	at := w.place(x)
	w.rows = slices.Clone(w.rows)
	if at >= 0 {
		w.rows = slices.Delete(w.rows, at, at+1)
	}
	return w
}

// matches tells whether an entry matches key.
func (w model) matches(x api.Entry, key string) bool {
	if len(key) != size(w.widths) {
		return false
	}
	switch w.table.Kind {
	case api.Exact:
		return x.Key == key
	case api.Prefix:
		return digits(x.Key)[:x.Len] == digits(key)[:x.Len]
	case api.Ternary:
		return under(key, x.Other) == x.Key
	}
	for i, part := range parts(w.widths, key) {
		if part < parts(w.widths, x.Key)[i] || part > parts(w.widths, x.Other)[i] {
			return false
		}
	}
	return true
}

// best is where the entry is that is found for key; -1 if it is nowhere.
func (w model) best(key string) int {
	best := -1
	for i, r := range w.rows {
		if w.matches(r.x, key) && (best < 0 || r.x.Len > w.rows[best].x.Len || r.x.Prio > w.rows[best].x.Prio) {
			best = i
		}
	}
	return best
}

// find is what is found for key, whether anything is, and the model with the time recorded, and w as it was.
func (w model) find(key string, now int64) (api.Entry, bool, model) {
	at := w.best(key)
	if at < 0 {
		return api.Entry{}, false, w
	}
	w.rows = slices.Clone(w.rows)
	w.rows[at].used = clock(now)
	return w.rows[at].x, true, w
}

// over tells how an entry has expired at a time that counts: 0 if it has not, 1 by Hard, and 2 by Idle.
func (r row) over(now int64) int {
	switch {
	case r.x.Hard > 0 && now-r.put >= r.x.Hard:
		return 1
	case r.x.Idle > 0 && now-r.used >= r.x.Idle:
		return 2
	}
	return 0
}

// expire is what expires at a time, and the model without it, and w as it was.
func (w model) expire(now int64) ([]Gone, model) {
	var l []Gone
	var rest []row
	for _, r := range w.rows {
		if tag := r.over(clock(now)); tag > 0 {
			l = append(l, Gone{r.x, tag})
		} else {
			rest = append(rest, r)
		}
	}
	w.rows = rest
	return l, w
}

// due is when the first entry expires, and whether any does.
func (w model) due() (int64, bool) {
	var l []int64
	for _, r := range w.rows {
		if r.x.Hard > 0 {
			l = append(l, r.put+r.x.Hard)
		}
		if r.x.Idle > 0 {
			l = append(l, r.used+r.x.Idle)
		}
	}
	if len(l) == 0 {
		return 0, false
	}
	return slices.Min(l), true
}

// queries are the keys of each entry, some that differ from these in a bit, a byte or the length, and others.
func (w model) queries() []string {
	r := newSamples()
	n := size(w.widths)
	l := []string{"", r.bytes(n), r.few(n), r.few(n), strings.Repeat("\xff", n), strings.Repeat("\x00", n), strings.Repeat("\x00", n+1), strings.Repeat("\x00", n-1)}
	for _, x := range w.rows {
		for _, key := range []string{x.x.Key, x.x.Other} {
			if key == "" {
				continue
			}
			b := []byte(key)
			b[r.below(n)] ^= 1 << r.below(8)
			l = append(l, key, string(b), key+"\x00", key[:n-1], key[1:])
		}
		if at := x.x.Len; at > 0 {
			bits := []byte(digits(x.x.Key))
			bits[at-1] ^= 1
			l = append(l, packed(string(bits)))
		}
	}
	slices.Sort(l)
	return slices.Compact(l)
}

// alike ends the test where s is not as w is, in anything that a call answers; s stays as it is.
func alike(t *testing.T, s *Store, w model) {
	t.Helper()
	lists(t, s, w)
	for _, key := range w.queries() {
		looks(t, s, w, key)
	}
	times(t, s, w)
}

// lists ends the test where the definition and the entries of s are not those of w, or what is due is another time.
func lists(t *testing.T, s *Store, w model) {
	t.Helper()
	got := s.Entries()
	if !slices.EqualFunc(got, w.rows, func(x api.Entry, r row) bool { return equal(x, r.x) }) || s.Len() != len(w.rows) {
		t.Fatalf("%d entries, %#v, not %#v", s.Len(), got, w.rows)
	}
	if got := s.Table(); !equalTables(got, w.table) {
		t.Fatalf("%#v, not %#v", got, w.table)
	}
	due, is := s.Due()
	if want, does := w.due(); due != want || is != does {
		t.Fatalf("due %d, %v, not %d, %v", due, is, want, does)
	}
}

// looks ends the test where Look of a key does not answer what w says.
func looks(t *testing.T, s *Store, w model, key string) {
	t.Helper()
	want, is, _ := w.find(key, 0)
	if x, had := s.Look(key); !equal(x, want) || had != is {
		t.Fatalf("for %x: %#v, %v, not %#v, %v", key, x, had, want, is)
	}
}

// finds ends the test where Find of a key does not answer what w says, and is w with the time recorded.
func finds(t *testing.T, s *Store, w model, key string, now int64) model {
	t.Helper()
	want, is, w := w.find(key, now)
	if x, had := s.Find(key, now); !equal(x, want) || had != is {
		t.Fatalf("for %x: %#v, %v, not %#v, %v", key, x, had, want, is)
	}
	return w
}

// times ends the test where s does not have the times of w: on copies, entry by entry, at all times at which one of
// them expires, and one tick before.
func times(t *testing.T, s *Store, w model) {
	t.Helper()
	for {
		due, is := w.due()
		if !is || due > api.MaxTicks {
			return
		}
		s = s.Copy()
		w = expires(t, s, w, due-1)
		w = expires(t, s, w, due)
	}
}

// expires ends the test where Expire does not answer what w says, and is w with those entries taken out.
func expires(t *testing.T, s *Store, w model, now int64) model {
	t.Helper()
	want, w := w.expire(now)
	got := s.Expire(now)
	if !slices.EqualFunc(got, want, func(a, b Gone) bool { return a.Tag == b.Tag && equal(a.Entry, b.Entry) }) {
		t.Fatalf("at %d expire: %#v, not %#v", now, got, want)
	}
	lists(t, s, w)
	return w
}

// puts ends the test where the answer of Put, or of May, is not this one.
func puts(t *testing.T, s *Store, x api.Entry, now int64, want api.Errno) {
	t.Helper()
	may := want
	if want == api.ErrFull {
		may = api.OK
	}
	if e := s.May(x); e != may {
		t.Fatalf("%#v may be put: error %d, not %d", x, e, may)
	}
	if e := s.Put(x, now); e != want {
		t.Fatalf("%#v put: error %d, not %d", x, e, want)
	}
}

// dels ends the test where the answer of Del is not this one.
func dels(t *testing.T, s *Store, x api.Entry, want bool) {
	t.Helper()
	if had := s.Del(x); had != want {
		t.Fatalf("%#v deleted: it was there: %v", x, had)
	}
}

// empty is a new table without entries, and a model of it.
func empty(t *testing.T, kind uint8, widths []int, most int) (*Store, model) {
	t.Helper()
	def := definition(kind, len(widths), most)
	s, e := New(def, widths)
	if s == nil || e != api.OK {
		t.Fatalf("%#v, %v: %v, error %d", def, widths, s, e)
	}
	return s, model{table: def, widths: widths}
}

// of is a table of these entries, put in this order at 100, 101 and so on, and a model of it.
func of(t *testing.T, kind uint8, widths []int, l ...api.Entry) (*Store, model) {
	t.Helper()
	s, w := empty(t, kind, widths, api.MaxEntries)
	for i, x := range l {
		puts(t, s, x, int64(100+i), api.OK)
		w = w.put(x, int64(100+i))
	}
	return s, w
}
