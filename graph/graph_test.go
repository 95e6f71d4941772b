package graph

import (
	"math"
	"slices"
	"testing"

	"turnout/api"
)

// example are the nodes of the chapter's example.
func example() []api.Node {
	return []api.Node{
		{ID: 1, SelOff: 96, SelWidth: 16, Arms: []api.Arm{{Value: 2048, Next: 2}, {Value: 34525, Next: 3}}},
		{ID: 2, SelOff: 72, SelWidth: 8, Arms: []api.Arm{{Value: 6, Next: 4}}},
		{ID: 3, Other: 4},
		{ID: 4},
	}
}

func TestExamplesP15_1(t *testing.T) {
	l := example()
	valid(t, l, 3)
	leadsTo(t, l, 1, 2048, 2)
	leadsTo(t, l, 1, 5, 0)
	leadsTo(t, l, 3, 7, 4)
	for _, x := range l {
		finds(t, l, x.ID, x, true)
	}
	l[3].Other = 1
	wrong(t, l, api.ErrCycle)
	l[3].Other = 9
	wrong(t, l, api.ErrRef)
	l[3].Other = 65535
	valid(t, l, 3)
	valid(t, nil, 0)
	valid(t, []api.Node{}, 0)
}

// Headers of which one may stand between two others: the longest path is by way of it.
func TestOrdinaryP15_2(t *testing.T) {
	l := []api.Node{
		{ID: 1, Size: 14, SelOff: 96, SelWidth: 16, Arms: []api.Arm{{Value: 0x0800, Next: 10}, {Value: 0x8100, Next: 5}, {Value: 0x86dd, Next: 20}}, Other: 65535},
		{ID: 5, Size: 4, SelOff: 16, SelWidth: 16, Arms: []api.Arm{{Value: 0x0800, Next: 10}, {Value: 0x86dd, Next: 20}}},
		{ID: 10, LenOff: 4, LenWidth: 4, LenUnit: 4, SelOff: 72, SelWidth: 8, Arms: []api.Arm{{Value: 6, Next: 30}, {Value: 17, Next: 31}}},
		{ID: 20, Size: 40, SelOff: 48, SelWidth: 8, Arms: []api.Arm{{Value: 6, Next: 30}, {Value: 17, Next: 31}}},
		{ID: 30, LenOff: 96, LenWidth: 4, LenUnit: 4},
		{ID: 31, Size: 8},
	}
	valid(t, l, 4)
	leadsTo(t, l, 1, 0x86dd, 20)
	leadsTo(t, l, 1, 0x0801, 65535)
	leadsTo(t, l, 10, 17, 31)
	leadsTo(t, l, 10, 1, 0)
	leadsTo(t, l, 30, 6, 0)
}

func TestHowManyNodesP15_1(t *testing.T) {
	for n := range 70 {
		if l := chain(n); n <= 32 {
			valid(t, l, n)
		} else {
			wrong(t, l, api.ErrFull)
		}
	}
	for _, n := range []int{255, 256, 257, 288, 65534} {
		l := make([]api.Node, n)
		for i := range l {
			l[i].ID = i + 1
		}
		wrong(t, l, api.ErrFull)
		l[n-1].Size = 257
		wrong(t, l, api.ErrForm)
	}
}

// Two nodes with one ID, and two that descend, at each place of graphs of some sizes.
func TestIDsAscendP15_1(t *testing.T) {
	for _, n := range []int{2, 3, 7, 32} {
		for at := range n - 1 {
			l := chain(n)
			for i := range l {
				l[i].ID, l[i].Arms, l[i].Other = 3*(i+1), nil, 0
			}
			valid(t, l, 0)
			for _, id := range []int{l[at+1].ID, l[at+1].ID + 1, l[n-1].ID, l[n-1].ID + 1} {
				c := slices.Clone(l)
				c[at].ID = id // as great as the ID behind it, or greater
				wrong(t, c, api.ErrForm)
			}
			c := slices.Clone(l)
			c[at], c[at+1] = c[at+1], c[at]
			wrong(t, c, api.ErrForm)
			c = slices.Clone(l)
			c[at+1].ID = l[0].ID
			wrong(t, c, api.ErrForm)
		}
	}
	for _, ids := range [][]int{{1, 2}, {1, 65534}, {2, 3}, {65533, 65534}, {32767, 32768}} {
		l := []api.Node{{ID: ids[0]}, {ID: ids[1]}}
		if ids[0] == 1 {
			valid(t, l, 1)
		} else {
			valid(t, l, 0)
		}
		slices.Reverse(l)
		wrong(t, l, api.ErrForm)
	}
}

// malformed are nodes with a given ID in each of whose parts something is wrong.
func malformed(id int) []api.Node {
	return []api.Node{
		{ID: id, Size: -1}, {ID: id, Size: 257}, {ID: id, LenOff: 1}, {ID: id, LenUnit: 1}, {ID: id, LenWidth: 1}, {ID: id, LenWidth: 17, LenUnit: 1},
		{ID: id, LenWidth: 1, LenUnit: 257}, {ID: id, LenWidth: 1, LenUnit: 1, LenOff: 2049}, {ID: id, SelOff: 1}, {ID: id, SelWidth: 33},
		{ID: id, SelWidth: 1, SelOff: 2049}, {ID: id, Arms: armsTo(0, 1)}, {ID: id, SelWidth: 32, Arms: armsTo(0, 33)}, {ID: id, SelWidth: 1, Arms: armsTo(0, 3)},
		{ID: id, SelWidth: 8, Arms: []api.Arm{{Value: 5}, {Value: 5}}}, {ID: id, SelWidth: 8, Arms: armsTo(65536, 1)}, {ID: id, SelWidth: 8, Arms: armsTo(-1, 1)},
		{ID: id, Other: 65536}, {ID: id, Other: -1},
	}
}

func TestMalformedAnywhereP15_1(t *testing.T) {
	for _, n := range []int{1, 2, 5, 32, 33, 60} {
		for at := range n {
			for _, x := range malformed(at + 1) {
				l := chain(n)
				l[at] = x
				wrong(t, l, api.ErrForm)
			}
			for _, id := range []int{0, -1, math.MinInt, 65535, 65536, math.MaxInt, 1 << 32} {
				l := chain(n)
				l[at].ID = id
				wrong(t, l, api.ErrForm)
			}
		}
	}
}

// fault is how a graph is made wrong, and what it then is at the earliest.
type fault struct {
	of     api.Errno
	change func(l []api.Node) []api.Node
}

// faults are ways to make a graph wrong, each in another place, so that they can come together.
func faults() [][]fault {
	none := fault{api.OK, func(l []api.Node) []api.Node { return l }}
	forms := []fault{none}
	for i, at := range []int{0, 6, -1} {
		forms = append(forms,
			fault{api.ErrForm, func(l []api.Node) []api.Node {
				x := &l[(len(l)+at)%len(l)]
				*x = malformed(x.ID)[5*i]
				return l
			}},
			fault{api.ErrForm, func(l []api.Node) []api.Node {
				x := l[(len(l)+at)%len(l)]
				return append(l, x)
			}})
	}
	return [][]fault{
		{none, {api.ErrFull, func(l []api.Node) []api.Node { return more(l, 33) }}, {api.ErrFull, func(l []api.Node) []api.Node { return more(l, 300) }}},
		{none,
			{api.ErrRef, func(l []api.Node) []api.Node { l[1].Other = 65534; return l }},
			{api.ErrRef, func(l []api.Node) []api.Node { l[4].Arms[0].Next = 50; return l }},
			{api.ErrRef, func(l []api.Node) []api.Node { l[9].Other = 50; return l }}},
		{none,
			{api.ErrCycle, func(l []api.Node) []api.Node { l[3].Arms[0].Next = l[2].ID; return l }},
			{api.ErrCycle, func(l []api.Node) []api.Node { l[8].Other = l[8].ID; return l }},
			{api.ErrCycle, func(l []api.Node) []api.Node { l[7].Arms[0].Next = l[2].ID; return l }}},
		forms,
	}
}

// more are the nodes of l, and others, which lead out of the graph, n in all.
func more(l []api.Node, n int) []api.Node {
	for id := 1000; len(l) < n; id++ {
		l = append(l, api.Node{ID: id})
	}
	return l
}

// Each fault alone, and with each of the others: the one that the chapter's row names first is answered.
func TestErrorsInOrderP15_1(t *testing.T) {
	kinds := faults()
	count := map[api.Errno]int{}
	for _, full := range kinds[0] {
		for _, ref := range kinds[1] {
			for _, cycle := range kinds[2] {
				for _, form := range kinds[3] {
					l := full.change(cycle.change(ref.change(chain(10))))
					want := api.OK
					for _, f := range []fault{cycle, ref, full, form} {
						if f.of != api.OK {
							want = f.of
						}
					}
					l = form.change(l)
					if want == api.OK {
						valid(t, l, 10)
					} else {
						wrong(t, l, want)
					}
					count[want]++
				}
			}
		}
	}
	if count[api.OK] != 1 || count[api.ErrCycle] != 3 || count[api.ErrRef] != 12 || count[api.ErrFull] != 32 || count[api.ErrForm] != 288 {
		t.Errorf("%v", count)
	}
}

// Two faults of one node.
func TestErrorsOfOneNodeP15_1(t *testing.T) {
	for want, l := range map[api.Errno][]api.Node{
		api.ErrForm:  {{ID: 1, Size: -1, Other: 1}, {ID: 1, Size: 257, Other: 9}, to(1, 9, 65536), to(1, 65536, 9), to(1, 1, -1), to(1, -1, 1), to(65535, 65535)},
		api.ErrRef:   {to(1, 9, 1), to(1, 1, 9), to(1, 1, 1, 9), to(1, 9, 9)},
		api.ErrCycle: {to(1, 1, 0), to(1, 0, 1), to(1, 65535, 1), to(1, 1, 1)},
	} {
		for _, x := range l {
			wrong(t, []api.Node{x}, want)
			wrong(t, more([]api.Node{x}, 2), want)
		}
	}
}

// Nodes that do not exist: below, between and above the others, by each arm and by Other.
func TestNoSuchNodeP15_1(t *testing.T) {
	base := []api.Node{to(3, 0, 0, 0), to(5, 0, 0, 0), to(100, 0, 0, 0), to(65533, 0, 0, 0)}
	valid(t, base, 0)
	for at := range base {
		for way := range 3 {
			for _, next := range []int{1, 2, 4, 6, 99, 101, 65532, 65534, 0, 65535, 3, 5, 100, 65533} {
				l := twin(base)
				if way < 2 {
					l[at].Arms[way].Next = next
				} else {
					l[at].Other = next
				}
				switch {
				case next == l[at].ID:
					wrong(t, l, api.ErrCycle)
				case next == 0 || next == 65535 || slices.ContainsFunc(l, func(x api.Node) bool { return x.ID == next }):
					valid(t, l, 0)
				default:
					wrong(t, l, api.ErrRef)
				}
			}
		}
	}
}

// Rings of so many nodes, anywhere among others, by Other and by each of some arms, with and without a way from First.
func TestRingsP15_7(t *testing.T) {
	for _, n := range []int{1, 2, 3, 10, 32} {
		for size := 1; size <= n; size++ {
			for from := 0; from+size <= n; from += 1 + n/8 {
				for way := range 4 {
					l := make([]api.Node, n)
					for i := range l {
						l[i] = to(i+1, 0, 0, 65535, 0)
					}
					for i := range size {
						next := from + (i+1)%size + 1
						if x := &l[from+i]; (way+i)%4 < 3 {
							x.Arms[(way+i)%4].Next = next
						} else {
							x.Other = next
						}
					}
					wrong(t, l, api.ErrCycle)
					if from > 0 { // and a way to it
						l[0].Arms[1].Next = from + size
						wrong(t, l, api.ErrCycle)
					}
				}
			}
		}
	}
}

// Rings that no packet could go around, since its bits cannot have both Values.
func TestRingsByAnyValuesP15_7(t *testing.T) {
	ring := func(a, b uint32) []api.Node {
		return []api.Node{
			{ID: 1, SelWidth: 8, Arms: []api.Arm{{Value: a, Next: 2}}},
			{ID: 2, SelWidth: 8, Arms: []api.Arm{{Value: b, Next: 1}}},
		}
	}
	wrong(t, ring(6, 6), api.ErrCycle)
	wrong(t, ring(6, 7), api.ErrCycle)
	wrong(t, []api.Node{{ID: 1, Size: 256, Other: 2}, {ID: 2, LenWidth: 16, LenUnit: 256, Other: 1}}, api.ErrCycle)
	whole := api.Node{ID: 1, SelWidth: 1, Arms: armsTo(0, 2), Other: 1} // each number of 1 bit has an arm
	wrong(t, []api.Node{whole}, api.ErrCycle)
}

// A ring that is not reached from First, or by nothing at all, beside nodes that are fine.
func TestRingsApartP15_7(t *testing.T) {
	for _, n := range []int{2, 3, 30} {
		l := append(chain(n), to(100, 101), to(101, 102, 0), to(102, 100, 0))
		if n == 30 {
			l = slices.Delete(l, 10, 20)
			l[9].Other = 0
		}
		wrong(t, l, api.ErrCycle)
		l[len(l)-1].Arms = nil
		valid(t, l, min(n, 10))
	}
	wrong(t, []api.Node{to(7, 8), to(8, 7)}, api.ErrCycle)
	wrong(t, []api.Node{to(1, 0), to(7, 7)}, api.ErrCycle)
	wrong(t, []api.Node{to(1, 2), to(2, 65535), to(3, 2, 1, 3)}, api.ErrCycle)
}

// In a valid graph, a way from a node back to one from which it is reached.
func TestRingsAddedP15_7(t *testing.T) {
	rings := 0
	for _, l := range graphs(12) {
		reach := leads(l)
		for i := range l {
			for j := range l {
				if !reach[i][j] && i != j {
					continue
				}
				for _, c := range backwards(l, j, l[i].ID) {
					wrong(t, c, api.ErrCycle)
					rings++
				}
			}
		}
		valid(t, l, rounds(l)[1])
	}
	if rings < 5000 {
		t.Errorf("only %d rings", rings)
	}
}

// backwards are copies of l in which the node at a place leads to the node id: by Other, or by one of its arms.
func backwards(l []api.Node, at, id int) [][]api.Node {
	c := twin(l)
	c[at].Other = id
	all := [][]api.Node{c}
	for i := range l[at].Arms {
		c = twin(l)
		c[at].Arms[i].Next = id
		all = append(all, c)
	}
	return all
}

// A ladder: each node leads to both of the next pair, so that 2 to the power of 15 paths lead from First to the end.
func TestLadderP15_3(t *testing.T) {
	var ladder []api.Node
	for id := 1; id < 31; id += 2 {
		ladder = append(ladder, to(id, id+2, id+3), to(id+1, id+3, id+2))
	}
	ladder = append(ladder, to(31, 0, 0), to(32, 0, 0))
	valid(t, ladder, 16)
	for _, back := range []int{1, 2, 15, 16, 29, 30, 32} {
		ladder[31].Other = back
		wrong(t, ladder, api.ErrCycle)
	}
	ladder[31].Other = 31
	valid(t, ladder, 17)
	ladder[30].Other = 32
	wrong(t, ladder, api.ErrCycle)
	ladder[31].Other = 65535
	valid(t, ladder, 17)
	ladder[0].Arms[0].Next = 2 // and from the first node to the other one of its pair
	valid(t, ladder, 18)
}

// Each node leads to all that are behind it in a row: that of the IDs, the same backwards, or another one. These are
// 2 to the power of 30 paths.
func TestAllWaysP15_3(t *testing.T) {
	r := newSamples()
	for _, n := range []int{2, 3, 20, 31, 32} {
		ids := r.ids(n)
		ids[0] = 1
		backwards := slices.Clone(ids)
		slices.Reverse(backwards)
		for _, row := range [][]int{ids, backwards, r.mixed(ids), r.mixed(ids)} {
			l := make([]api.Node, n)
			for i, id := range row {
				l[slices.Index(ids, id)] = to(id, append(slices.Clone(row[i+1:]), 0)...)
			}
			first := slices.Index(row, 1)
			valid(t, l, n-first)
			last := &l[slices.Index(ids, row[n-1])]
			for _, id := range row {
				last.Other = id
				wrong(t, l, api.ErrCycle)
			}
			last.Other = 0
			for i := first; i < n-1; i++ { // without the way to the next one alone
				c := twin(l)
				x := &c[slices.Index(ids, row[i])]
				x.Arms = x.Arms[1:]
				valid(t, c, n-first-1)
			}
		}
	}
}

// Where the longest path goes on: by the first arm, one between, the last one, or Other; and where others are shorter.
func TestLongestByAnyWayP15_2(t *testing.T) {
	for way := range 5 {
		l := append([]api.Node{to(1, 2, 2, 2, 2, 2)}, chain(8)[1:]...)
		l[1].Other = 0
		l[1].Arms = nil
		if way < 4 {
			l[0].Arms[way].Next = 4
		} else {
			l[0].Other = 4
		}
		valid(t, l, 6)
		l[1].Other = 8
		valid(t, l, 6)
		l[1].Other = 3
		valid(t, l, 8)
	}
}

// Paths that meet: what follows where they meet counts for each of them, whichever of them is gone first.
func TestLongestBySharedNodeP15_2(t *testing.T) {
	for _, ways := range [][]int{{5, 2}, {2, 5}} { // to 5 at once, and by way of 2, 3 and 4
		l := []api.Node{to(1, ways...), to(2, 3), to(3, 4), to(4, 5), to(5, 6), to(6, 0), to(7, 8), to(8, 0)}
		valid(t, l, 6)
		for behind, length := range map[int]int{8: 7, 7: 8, 65535: 6} {
			l[5].Other = behind
			valid(t, l, length)
		}
		l[7].Other = 5
		l[5].Other = 7
		wrong(t, l, api.ErrCycle)
	}
	valid(t, []api.Node{to(1, 2, 3, 4), to(2, 5), to(3, 4), to(4, 5), to(5, 65535)}, 4)
	valid(t, []api.Node{to(1, 4, 3, 2), to(2, 4, 5), to(3, 5, 0), to(4, 3), to(5, 0)}, 5)
}

func TestLongestFromFirstP15_2(t *testing.T) {
	l := chain(8)
	valid(t, l[1:], 0) // there is no First, only what it led to
	valid(t, l[7:], 0)
	for _, next := range []int{0, 65535} { // First leads nowhere
		l[0] = to(1, next, next)
		valid(t, l, 1)
		valid(t, []api.Node{l[0]}, 1)
	}
	l = []api.Node{to(1, 3), to(2, 1), to(3, 0), to(4, 2)} // First is the successor of another one
	valid(t, l, 2)
	l[2].Other = 5
	wrong(t, l, api.ErrRef)
	l[2].Other = 4
	wrong(t, l, api.ErrCycle)
	l[2].Other = -4
	wrong(t, l, api.ErrForm)
}

// nexts are lists, valid ones and others, in which successors are looked for.
func nexts() [][]api.Node {
	return append(graphs(6),
		example(),
		nil,
		[]api.Node{{ID: 1, SelWidth: 32, Arms: []api.Arm{{Value: 0, Next: 2}, {Value: math.MaxInt32 + 1, Next: 3}, {Value: math.MaxUint32, Next: 4}}, Other: 5}},
		[]api.Node{to(3, 1, 2), to(3, 4, 5), to(3, 6)}, // three with one ID
		[]api.Node{to(9, 1, 2), to(5, 4, 7), to(7, 0, 6)},
		[]api.Node{{ID: 4, SelWidth: 8, Arms: []api.Arm{{Value: 6, Next: 1}, {Value: 6, Next: 2}, {Value: 5, Next: 3}, {Value: 7, Next: 4}, {Value: 5, Next: 5}}, Other: 6}},
		[]api.Node{{ID: 4, SelWidth: 1, Arms: []api.Arm{{Value: 300, Next: 7}}, Other: 8}, {ID: 5, Arms: armsTo(7, 3), Other: 9}},
		[]api.Node{{ID: 0, SelWidth: 2, Arms: armsTo(-7, 2), Other: math.MaxInt}, {ID: -5, Other: math.MinInt}, {ID: 65535, Other: 3}, {ID: math.MaxInt, Other: 4}},
		append(chain(40), to(2, 77)),
	)
}

func TestNextP15_2(t *testing.T) {
	for _, l := range nexts() {
		of := first(l)
		ids := []int{0, 1, 2, 3, 4, 5, 7, 9, -1, -5, 65534, 65535, math.MaxInt, math.MinInt}
		for _, x := range l {
			ids = append(ids, x.ID, x.ID-1, x.ID+1, x.ID+1<<16, x.ID+1<<32)
		}
		for _, id := range ids {
			x := of[id]
			values := []uint32{0, 1, 5, 6, 7, 255, 256, 300, 65535, math.MaxInt32, math.MaxInt32 + 1, math.MaxUint32 - 1, math.MaxUint32}
			for _, arm := range x.Arms {
				values = append(values, arm.Value, arm.Value-1, arm.Value+1, arm.Value^math.MaxUint32, arm.Value+1<<16)
			}
			for _, v := range values {
				want := x.Other
				for i := len(x.Arms) - 1; i >= 0; i-- { // from the last one, so that the first one remains
					if x.Arms[i].Value == v {
						want = x.Arms[i].Next
					}
				}
				leadsTo(t, l, id, v, want)
			}
		}
	}
}

func TestNextByHandP15_2(t *testing.T) {
	l := []api.Node{
		{ID: 1, SelWidth: 32, Arms: []api.Arm{{Value: 0, Next: 2}, {Value: 10, Next: 0}, {Value: math.MaxUint32, Next: 65535}}, Other: 3},
		{ID: 2, Other: 65535},
		{ID: 3},
	}
	for v, want := range map[uint32]int{0: 2, 10: 0, math.MaxUint32: 65535, 1: 3, 9: 3, 11: 3, math.MaxUint32 - 1: 3, math.MaxInt32: 3} {
		leadsTo(t, l, 1, v, want)
		leadsTo(t, l, 2, v, 65535)
		leadsTo(t, l, 3, v, 0)
		leadsTo(t, l, 4, v, 0)
		leadsTo(t, l, 0, v, 0)
		leadsTo(t, nil, 1, v, 0)
	}
	l[0].Arms[1].Value = 0 // it comes behind the one with the same Value
	leadsTo(t, l, 1, 0, 2)
	leadsTo(t, l, 1, 10, 3)
	l[1].ID = 1 // and so does this node
	leadsTo(t, l, 1, math.MaxUint32, 65535)
	leadsTo(t, l, 1, 5, 3)
	leadsTo(t, l, 2, 5, 0)
}

func TestFindP15_1(t *testing.T) {
	for _, l := range nexts() {
		of := first(l)
		for _, x := range l {
			finds(t, l, x.ID, of[x.ID], true)
		}
		for _, id := range []int{0, 1, 2, 6, 8, -1, 65534, 65535, 65536, math.MaxInt, math.MinInt, 1 << 32, 1<<32 + 1} {
			x, is := of[id]
			finds(t, l, id, x, is)
		}
	}
	l := []api.Node{full(), greatest(), full(), {}, least()}
	l[2].Size = 21
	finds(t, l, 5, full(), true) // the first one with that ID
	finds(t, l[1:], 5, l[2], true)
	finds(t, l, 65534, greatest(), true)
	finds(t, l, 0, api.Node{}, true)
	finds(t, l, 1, least(), true)
	finds(t, l, 2, api.Node{}, false)
	finds(t, l[:3], 0, api.Node{}, false)
	finds(t, nil, 0, api.Node{}, false)
}

// All paths are gone, one by one.
func TestLongestOfAllPathsP15_3(t *testing.T) {
	gone := 0
	for _, l := range graphs(16) {
		longest := Longest(l)
		most := 0
		paths(l, 1, func(path []int) {
			gone++
			if most = max(most, len(path)); most > longest {
				t.Fatalf("a path of %v, but a longest of %d nodes: %+v", path, longest, l)
			}
		})
		if most != longest {
			t.Fatalf("no path of %d nodes, only of %d: %+v", longest, most, l)
		}
		valid(t, l, most)
	}
	if gone < 2000 {
		t.Errorf("only %d paths", gone)
	}
}

func TestLongestOfLargeGraphsP15_3(t *testing.T) {
	for _, l := range graphs(32) {
		valid(t, l, rounds(l)[1])
	}
}

// From each node, by numbers of arms and by others, to the end.
func TestTerminationP15_4(t *testing.T) {
	r := newSamples()
	for _, l := range graphs(32) {
		longest := Longest(l)
		of := first(l)
		for _, x := range l {
			for range 8 {
				seen := map[int]int{}
				id := x.ID
				for ; id != 0 && id != 65535; id = Next(l, id, r.value(of[id])) {
					if seen[id]++; seen[id] > 1 {
						t.Fatalf("from %d twice to %d: %+v", x.ID, id, l)
					}
					if _, is := Find(l, id); !is {
						t.Fatalf("from %d to %d, which does not exist: %+v", x.ID, id, l)
					}
				}
				if x.ID == 1 && len(seen) > longest {
					t.Fatalf("%d nodes, more than %d: %+v", len(seen), longest, l)
				}
			}
		}
	}
}

// value yields the Value of an arm of x, or another number.
func (x *samples) value(of api.Node) uint32 {
	if n := len(of.Arms); n > 0 && x.below(4) > 0 {
		return of.Arms[x.below(n)].Value
	}
	return uint32(x.next())
}

// No node is on a path twice.
func TestNoNodeTwiceP15_4(t *testing.T) {
	for _, l := range graphs(10) {
		for _, x := range l {
			paths(l, x.ID, func(path []int) {
				path = slices.Sorted(slices.Values(path))
				if len(slices.Compact(slices.Clone(path))) != len(path) {
					t.Fatalf("%v: %+v", path, l)
				}
			})
		}
	}
}

// gaps are IDs that a node more could have: at each place in the list of those that there are, First and the last one.
func gaps(ids []int) []int {
	l := []int{1, 65534}
	for _, id := range ids {
		l = append(l, max(id-1, 1), min(id+1, 65534))
	}
	slices.Sort(l)
	return slices.DeleteFunc(slices.Compact(l), func(id int) bool { return slices.Contains(ids, id) })
}

// idsOf are the IDs of l.
func idsOf(l []api.Node) []int {
	var ids []int
	for _, x := range l {
		ids = append(ids, x.ID)
	}
	return ids
}

// A node more: first in the list, last, and between others, First among them. It leads to none, to some, and to all.
func TestOneMoreP15_5(t *testing.T) {
	r := newSamples()
	count := 0
	for _, l := range append(graphs(32), nil, chain(31), chain(32), chain(20)[1:], chain(32)[1:], []api.Node{to(65534, 0)}) {
		ids, lengths := idsOf(l), rounds(l)
		for _, id := range gaps(ids) {
			at, _ := slices.BinarySearch(ids, id)
			for _, x := range []api.Node{{ID: id}, r.node(id, ids, 3), r.node(id, ids, 32), to(id, slices.Concat(ids, []int{65535})...)} {
				c := slices.Insert(twin(l), at, x)
				want := lengths[1]
				if id == 1 {
					want = 1
					for _, next := range ways(x) {
						want = max(want, 1+lengths[next])
					}
				}
				if len(l) < 32 {
					valid(t, c, want)
					count++
				} else {
					wrong(t, c, api.ErrFull)
				}
				valid(t, slices.Delete(c, at, at+1), lengths[1])
			}
		}
	}
	if count < 20000 {
		t.Errorf("only %d graphs with a node more", count)
	}
}

// A node less: first in the list, last, and between others, First among them.
func TestOneLessP15_6(t *testing.T) {
	count := map[api.Errno]int{}
	for _, l := range append(graphs(32), chain(1), chain(2), chain(32), chain(20)[1:]) {
		lengths := rounds(l)
		for at, x := range l {
			c := slices.Delete(twin(l), at, at+1)
			want := api.OK
			if slices.ContainsFunc(c, func(y api.Node) bool { return slices.Contains(ways(y), x.ID) }) {
				want = api.ErrRef
			}
			switch {
			case want != api.OK:
				wrong(t, c, want)
			case x.ID == 1:
				valid(t, c, 0)
			default:
				valid(t, c, lengths[1])
			}
			count[want]++
		}
	}
	if count[api.OK] < 500 || count[api.ErrRef] < 500 {
		t.Errorf("%v", count)
	}
}

func TestOneLessByHandP15_6(t *testing.T) {
	l := []api.Node{to(1, 4, 0), to(2, 1), to(3, 0, 1), to(4, 0), to(5, 4, 65535)}
	valid(t, l, 2)
	without := func(at int) []api.Node { return slices.Delete(twin(l), at, at+1) }
	wrong(t, without(0), api.ErrRef) // it is a successor by an arm, and by Other
	wrong(t, without(3), api.ErrRef)
	for _, at := range []int{1, 2, 4} {
		valid(t, without(at), 2)
	}
	l[1].Other, l[2].Other = 0, 65535
	valid(t, without(0), 0)
	wrong(t, without(3), api.ErrRef)
	l[0].Arms = nil
	l[4].Arms = nil
	valid(t, without(3), 1)
}

// All graphs of three nodes, by who leads where by arms and by Other, and all of four that lead there by arms alone.
func TestAllSmallGraphsP15_1(t *testing.T) {
	count := map[api.Errno]int{}
	for _, ids := range [][]int{{1, 2, 3}, {2, 3, 4}, {1, 700, 65534}} {
		others := append([]int{0, 65535}, ids...)
		for code := range 40 * 40 * 40 {
			l := make([]api.Node, 3)
			for i, id := range ids {
				l[i] = to(id, append(subset(ids, code%8), others[code/8%5])...)
				code /= 40
			}
			count[modelled(t, l)]++
		}
	}
	ids := []int{1, 2, 3, 4}
	for code := range 1 << 16 {
		l := make([]api.Node, 4)
		for i, id := range ids {
			l[i] = to(id, append(subset(ids, code>>(4*i)), 65535)...)
		}
		count[modelled(t, l)]++
	}
	// 25 graphs of three nodes have no rings, as 752 lists of nodes; 543 of four have none
	if want := 3*752 + 543; count[api.OK] != want || count[api.ErrCycle] != 3*40*40*40+1<<16-want {
		t.Errorf("%v", count)
	}
}

// subset are those of the items whose bits are set in code.
func subset(l []int, code int) []int {
	var some []int
	for i, id := range l {
		if code>>i&1 != 0 {
			some = append(some, id)
		}
	}
	return some
}

// Valid graphs that are then changed, in one thing or in some, and lists of any numbers, against the chapter's words.
func TestChangedGraphsP15_1(t *testing.T) {
	r := newSamples()
	count := map[api.Errno]int{}
	for range 15 {
		for _, l := range graphs(34) {
			for range 1 + r.below(2)*r.below(4) {
				l = r.changed(l)
			}
			count[modelled(t, l)]++
		}
	}
	for _, e := range []api.Errno{api.OK, api.ErrForm, api.ErrFull, api.ErrRef, api.ErrCycle} {
		if count[e] < 200 {
			t.Errorf("%v", count)
		}
	}
	for range 2000 {
		var l []api.Node
		for range r.below(5) {
			l = append(l, r.anything())
		}
		modelled(t, l)
		for _, x := range l {
			Form(x)
			finds(t, l, x.ID, first(l)[x.ID], true)
			Next(l, x.ID, uint32(r.next()))
		}
	}
}

// changed yields a copy of l in which one thing is another one.
func (x *samples) changed(l []api.Node) []api.Node {
	l = twin(l)
	if len(l) == 0 {
		return append(l, x.anything())
	}
	at, by := x.below(len(l)), x.below(len(l))
	y := &l[at]
	way := &y.Other
	if len(y.Arms) > 0 && x.below(4) > 0 {
		way = &y.Arms[x.below(len(y.Arms))].Next
	}
	switch x.below(12) {
	case 0:
		return slices.Delete(l, at, at+1)
	case 1:
		return slices.Insert(l, at, l[by])
	case 2:
		l[at], l[by] = l[by], l[at]
	case 3:
		return append(l, l[at])
	case 4:
		y.ID = []int{y.ID + 1, y.ID - 1, 0, 65535, l[by].ID}[x.below(5)]
	case 5:
		*y = malformed(y.ID)[x.below(19)]
	case 6:
		*way = []int{y.ID + 1, 65534, -1, 65536}[x.below(4)]
	case 7:
		*way = 65535 * x.below(2)
	default:
		*way = l[by].ID
	}
	return l
}

// anything yields a node of any numbers, most of them far from what may be.
func (x *samples) anything() api.Node {
	n := func() int { return int(x.next()) >> (8 * x.below(8)) }
	y := api.Node{ID: n(), Size: n(), LenOff: n(), LenWidth: n(), LenUnit: n(), SelOff: n(), SelWidth: n(), Other: n()}
	for range x.below(4) {
		y.Arms = append(y.Arms, api.Arm{Value: uint32(n()), Next: n()})
	}
	return y
}

// What is answered is new memory.
func TestOwnMemoryP15_1(t *testing.T) {
	l := example()
	was := twin(l)
	x, _ := Find(l, 1)
	y, _ := Find(l, 1)
	x.Arms[0] = api.Arm{Value: 9, Next: 9}
	_ = append(x.Arms[:1], api.Arm{Value: 8, Next: 8})
	if !equalLists(l, was) || !equal(y, was[0]) {
		t.Errorf("%+v, and another answer is %+v", l, y)
	}
	l[0].Arms[1].Next = 77
	if !equal(y, was[0]) {
		t.Errorf("%+v", y)
	}
	finds(t, l, 1, l[0], true)
}

// What is handed in is left as it was, and so is what lies behind it in the same memory.
func TestLeftAsItWasP15_1(t *testing.T) {
	behind := api.Arm{Value: 5, Next: 5}
	for _, l := range append(graphs(12), nexts()...) {
		memory := twin(append(slices.Clone(l), to(99, 98, 97)))
		for i := range l {
			memory[i].Arms = append(memory[i].Arms, behind)[:len(l[i].Arms)]
		}
		given := memory[:len(l)]
		May(given)
		Longest(given)
		for _, x := range given {
			Form(x)
			Next(given, x.ID, 5)
			if y, _ := Find(given, x.ID); len(y.Arms) > 0 {
				clear(y.Arms[:cap(y.Arms)])
			}
		}
		for i := range l {
			if n := len(l[i].Arms); memory[i].Arms[:n+1][n] != behind {
				t.Fatalf("behind the arms of %+v came %v", l[i], memory[i].Arms[:n+1][n])
			}
		}
		if !equalLists(memory[:len(l)], l) || !equal(memory[len(l)], to(99, 98, 97)) {
			t.Fatalf("%+v became %+v", l, memory)
		}
	}
}
