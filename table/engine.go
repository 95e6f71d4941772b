package table

import (
	"slices"

	"turnout/api"
	"turnout/exact"
	"turnout/rang"
	"turnout/tern"
	"turnout/trie"
)

const octet = 8 // bits of a byte

// engine finds the entries of a table of one kind. It knows them by their places.
type engine interface {
	fits(x api.Entry) bool                // x, whose key is as long as it must be, is what the kind requires
	put(x api.Entry, place int)           // x, which fits and is not there, comes behind all others
	del(x api.Entry)                      // x is there
	find(key string) (place int, is bool) // key is as long as it must be
	twin() engine                         // it shares nothing with this one
}

// newEngine returns the engine of a kind of tables, whose fields have these widths, without entries.
func newEngine(kind uint8, widths []int) engine {
	switch kind {
	case api.Exact:
		return exacts{exact.New()}
	case api.Prefix:
		return prefixes{trie.New()}
	case api.Ternary:
		return ternaries{tern.New()}
	}
	set, _ := rang.New(widths)
	return ranges{set: set, widths: slices.Clone(widths)}
}

// exacts are the keys of entries.
type exacts struct{ keys *exact.Map }

func (e exacts) fits(x api.Entry) bool                { return x.Other == "" && x.Len == 0 && x.Prio == 0 }
func (e exacts) put(x api.Entry, place int)           { e.keys.Put(x.Key, place) }
func (e exacts) del(x api.Entry)                      { e.keys.Del(x.Key) }
func (e exacts) find(key string) (place int, is bool) { return e.keys.Get(key) }
func (e exacts) twin() engine                         { return exacts{e.keys.Copy()} }

// prefixes are the first bits of the keys of entries.
type prefixes struct{ bits *trie.Trie }

func (p prefixes) fits(x api.Entry) bool {
	return x.Other == "" && x.Prio == 0 && between(x.Len, 0, octet*len(x.Key)) && endsAt(x.Key, x.Len)
}

func (p prefixes) put(x api.Entry, place int) { p.bits.Put(start(x.Key, x.Len), x.Len, place) }
func (p prefixes) del(x api.Entry)            { p.bits.Del(start(x.Key, x.Len), x.Len) }
func (p prefixes) twin() engine               { return prefixes{p.bits.Copy()} }

func (p prefixes) find(key string) (place int, is bool) {
	_, place, is = p.bits.Longest(key)
	return place, is
}

// ternaries are the keys of entries under masks.
type ternaries struct{ items *tern.Set }

func (t ternaries) fits(x api.Entry) bool {
	return x.Len == 0 && between(x.Prio, 0, api.MaxInt) && tern.Match(item(x, 0), x.Key)
}

func (t ternaries) put(x api.Entry, place int) { t.items.Put(item(x, place)) }
func (t ternaries) del(x api.Entry)            { t.items.Del(x.Key, x.Other, x.Prio) }
func (t ternaries) twin() engine               { return ternaries{t.items.Copy()} }

func (t ternaries) find(key string) (place int, is bool) {
	found, is := t.items.Find(key)
	return found.V, is
}

// ranges are the ranges of entries, field by field.
type ranges struct {
	set    *rang.Set
	widths []int
}

func (r ranges) fits(x api.Entry) bool {
	return x.Len == 0 && between(x.Prio, 0, api.MaxInt) && len(x.Other) == len(x.Key) && rises(x.Key, x.Other, r.widths)
}

func (r ranges) put(x api.Entry, place int)           { r.set.Put(x.Key, x.Other, x.Prio, place) }
func (r ranges) del(x api.Entry)                      { r.set.Del(x.Key, x.Other, x.Prio) }
func (r ranges) find(key string) (place int, is bool) { return r.set.Find(key) }
func (r ranges) twin() engine                         { return ranges{set: r.set.Copy(), widths: r.widths} }

// start is the bytes of key that have its first n bits.
func start(key string, n int) string { return key[:(n+octet-1)/octet] }

// endsAt tells whether the bits of key behind the first n ones are 0.
func endsAt(key string, n int) bool {
	for i := range len(key) {
		if key[i]<<min(max(n-octet*i, 0), octet) != 0 {
			return false
		}
	}
	return true
}

// item is x as an item of a ternary match.
func item(x api.Entry, place int) tern.Item {
	return tern.Item{Key: x.Key, Mask: x.Other, Prio: x.Prio, V: place}
}

// rises tells whether no field of low is greater than that of high.
func rises(low, high string, widths []int) bool {
	from := 0
	for _, width := range widths {
		to := from + width
		if low[from:to] > high[from:to] {
			return false
		}
		from = to
	}
	return true
}
