package graph

import (
	"maps"
	"slices"
	"testing"

	"turnout/api"
)

// samples yields numbers without a pattern, always the same ones.
type samples uint64

func newSamples() *samples {
	x := samples(88172645463325252)
	return &x
}

func (x *samples) next() uint64 {
	*x ^= *x << 13
	*x ^= *x >> 7
	*x ^= *x << 17
	return uint64(*x)
}

// below yields a number from 0 to n - 1.
func (x *samples) below(n int) int {
	return int(x.next() >> 33 % uint64(n))
}

// values yields n ascending numbers of so many bits, or fewer of them.
func (x *samples) values(n, width int) []uint32 {
	var l []uint32
	for range n {
		l = append(l, uint32(x.next()>>8)>>(32-width))
	}
	slices.Sort(l)
	return slices.Compact(l)
}

// ids yields n ascending IDs, some of which are next to each other.
func (x *samples) ids(n int) []int {
	of := map[int]int{}
	for len(of) < n {
		id := 1 + x.below(65534)
		for ; len(of) < n && id < 65535 && x.below(3) > 0; id++ {
			of[id] = id
		}
	}
	return slices.Sorted(maps.Keys(of))
}

// mixed yields the same numbers in some order.
func (x *samples) mixed(l []int) []int {
	l = slices.Clone(l)
	for i := range l {
		j := i + x.below(len(l)-i)
		l[i], l[j] = l[j], l[i]
	}
	return l
}

// node yields a well-formed node that leads to some of those, or out of the graph, by so many arms at most.
func (x *samples) node(id int, to []int, arms int) api.Node {
	y := api.Node{ID: id, Size: x.below(257)}
	if x.below(2) == 0 {
		y.LenWidth, y.LenUnit, y.LenOff = 1+x.below(16), 1+x.below(256), x.below(2049)
	}
	way := func() int {
		if len(to) > 0 && x.below(3) > 0 {
			return to[x.below(len(to))]
		}
		return 65535 * x.below(2)
	}
	if arms > 0 {
		y.SelWidth, y.SelOff = 1+x.below(32), x.below(2049)
		for _, value := range x.values(x.below(arms+1), y.SelWidth) {
			y.Arms = append(y.Arms, api.Arm{Value: value, Next: way()})
		}
	}
	y.Other = way()
	return y
}

// graph yields a valid graph of nodes with these IDs, each of which leads to some of those that are behind it in a row
// that is not the row of the IDs. First, where it is one of them, comes first in it more often than not.
func (x *samples) graph(ids []int, arms int) []api.Node {
	row := x.mixed(ids)
	if at := slices.Index(row, 1); at > 0 && x.below(4) > 0 {
		row[0], row[at] = row[at], row[0]
	}
	l := make([]api.Node, len(ids))
	for i, id := range row {
		l[slices.Index(ids, id)] = x.node(id, row[i+1:], arms)
	}
	return l
}

// graphs are valid graphs of all sizes, with few arms and with many, with the node First and without it.
func graphs(most int) [][]api.Node {
	x := newSamples()
	var all [][]api.Node
	for n := range most + 1 {
		for _, arms := range []int{0, 1, 2, 5, 32} {
			for i := range 6 {
				ids := x.ids(n)
				if n > 0 && i%2 == 0 {
					ids[0] = 1
				}
				all = append(all, x.graph(ids, arms))
			}
		}
	}
	return all
}

// to is a node that leads to these nodes: to all but the last by arms, and to the last by Other.
func to(id int, ids ...int) api.Node {
	x := api.Node{ID: id, Size: 2, SelWidth: 32}
	for i, next := range ids {
		if i == len(ids)-1 {
			x.Other = next
		} else {
			x.Arms = append(x.Arms, api.Arm{Value: uint32(10 * i), Next: next})
		}
	}
	return x
}

// chain is n nodes with the IDs from 1 on, each of which leads to the next one, and the last one out of the graph.
func chain(n int) []api.Node {
	var l []api.Node
	for id := 1; id <= n; id++ {
		l = append(l, to(id, 65535, (id+1)%(n+1)))
	}
	return l
}

// twin is a list of the same nodes that shares no memory with l.
func twin(l []api.Node) []api.Node {
	c := slices.Clone(l)
	for i := range c {
		c[i].Arms = slices.Clone(c[i].Arms)
	}
	return c
}

// equal tells whether two nodes are alike in all that they have.
func equal(a, b api.Node) bool {
	return a.ID == b.ID && a.Size == b.Size && a.LenOff == b.LenOff && a.LenWidth == b.LenWidth && a.LenUnit == b.LenUnit &&
		a.SelOff == b.SelOff && a.SelWidth == b.SelWidth && slices.Equal(a.Arms, b.Arms) && a.Other == b.Other
}

func equalLists(a, b []api.Node) bool { return slices.EqualFunc(a, b, equal) }

// ways are all that x has as a successor, whether such a node exists or not, each once.
func ways(x api.Node) []int {
	l := []int{x.Other}
	for _, arm := range x.Arms {
		l = append(l, arm.Next)
	}
	slices.Sort(l)
	return slices.Compact(l)
}

// first are the nodes of a list by ID, of those with the same ID the first.
func first(l []api.Node) map[int]api.Node {
	of := map[int]api.Node{}
	for i := len(l) - 1; i >= 0; i-- {
		of[l[i].ID] = l[i]
	}
	return of
}

// leads tells which node reaches which in at least one step, by their places: one way after another is joined to those before.
func leads(l []api.Node) [][]bool {
	at := map[int]int{}
	for i, x := range l {
		at[x.ID] = i
	}
	reach := make([][]bool, len(l))
	for i, x := range l {
		reach[i] = make([]bool, len(l))
		for _, next := range ways(x) {
			if j, is := at[next]; is {
				reach[i][j] = true
			}
		}
	}
	for k := range l {
		for i := range l {
			for j := range l {
				reach[i][j] = reach[i][j] || reach[i][k] && reach[k][j]
			}
		}
	}
	return reach
}

// state is what is wrong with a list as a graph.
func state(l []api.Node) api.Errno {
	if slices.ContainsFunc(l, func(x api.Node) bool { return !wellFormed(x) }) {
		return api.ErrForm
	}
	for i := range l {
		for j := range i {
			if l[j].ID >= l[i].ID {
				return api.ErrForm
			}
		}
	}
	if len(l) > 32 {
		return api.ErrFull
	}
	of := first(l)
	for _, x := range l {
		for _, next := range ways(x) {
			if _, is := of[next]; !is && next > 0 && next < 65535 {
				return api.ErrRef
			}
		}
	}
	for i, reached := range leads(l) {
		if reached[i] {
			return api.ErrCycle
		}
	}
	return api.OK
}

// rounds are, by ID, the numbers of nodes of the longest paths of a graph without rings. Each number is 0 at first, and then,
// as often as there are nodes, becomes 1 more than the greatest one of the successors.
func rounds(l []api.Node) map[int]int {
	lengths := map[int]int{}
	for range l {
		for _, x := range l {
			for _, next := range ways(x) {
				lengths[x.ID] = max(lengths[x.ID], 1+lengths[next])
			}
		}
	}
	return lengths
}

// paths passes each path of l from the node id that can go on to no node, as the IDs of its nodes.
func paths(l []api.Node, id int, each func(path []int)) {
	of := first(l)
	var from func(path []int)
	from = func(path []int) {
		ended := true
		for _, next := range ways(of[path[len(path)-1]]) {
			if _, is := of[next]; is {
				ended = false
				from(append(slices.Clip(path), next))
			}
		}
		if ended {
			each(path)
		}
	}
	if _, is := of[id]; is {
		from([]int{id})
	}
}

// mays ends the test where l is not valid, or not wrong, in this way, or has another number of nodes on a longest path.
func mays(t *testing.T, l []api.Node, want api.Errno, length int) {
	t.Helper()
	was := twin(l)
	if e := May(l); e != want {
		t.Fatalf("error %d, not %d: %+v", e, want, l)
	}
	if n := Longest(l); n != length {
		t.Fatalf("a longest path of %d nodes, not %d: %+v", n, length, l)
	}
	if !equalLists(l, was) {
		t.Fatalf("%+v became %+v", was, l)
	}
}

// valid ends the test where l is not valid, or has another number of nodes on a longest path.
func valid(t *testing.T, l []api.Node, length int) {
	t.Helper()
	mays(t, l, api.OK, length)
}

// wrong ends the test where l is not wrong in this way.
func wrong(t *testing.T, l []api.Node, want api.Errno) {
	t.Helper()
	mays(t, l, want, 0)
}

// modelled ends the test where l is not as the model says.
func modelled(t *testing.T, l []api.Node) api.Errno {
	t.Helper()
	e := state(l)
	if e != api.OK {
		wrong(t, l, e)
	} else {
		valid(t, l, rounds(l)[1])
	}
	return e
}

// leadsTo ends the test where the successor of the node id is not this one.
func leadsTo(t *testing.T, l []api.Node, id int, v uint32, want int) {
	t.Helper()
	was := twin(l)
	if next := Next(l, id, v); next != want {
		t.Fatalf("from %d by %d to %d, not to %d: %+v", id, v, next, want, l)
	}
	if !equalLists(l, was) {
		t.Fatalf("%+v became %+v", was, l)
	}
}

// finds ends the test where the node with that ID is not this one, or is not there.
func finds(t *testing.T, l []api.Node, id int, want api.Node, is bool) {
	t.Helper()
	was := twin(l)
	if x, found := Find(l, id); !equal(x, want) || found != is {
		t.Fatalf("%d: %+v, %v, not %+v, %v", id, x, found, want, is)
	}
	if !equalLists(l, was) {
		t.Fatalf("%+v became %+v", was, l)
	}
}
