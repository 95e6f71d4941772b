package graph

import (
	"math"
	"testing"

	"turnout/api"
)

// within tells whether n is one of the numbers from low to high.
func within(n, low, high int) bool { return !(n < low || n > high) }

// wellFormed tells whether all that the chapter says of a node holds.
func wellFormed(x api.Node) bool {
	noLen := x.LenWidth == 0 && x.LenOff == 0 && x.LenUnit == 0
	someLen := within(x.LenWidth, 1, 16) && within(x.LenUnit, 1, 256) && within(x.LenOff, 0, 2048)
	noSel := x.SelWidth == 0 && x.SelOff == 0 && len(x.Arms) == 0
	someSel := within(x.SelWidth, 1, 32) && within(x.SelOff, 0, 2048) && len(x.Arms) <= 32
	if !within(x.ID, 1, 65534) || !within(x.Size, 0, 256) || !noLen && !someLen || !noSel && !someSel || !within(x.Other, 0, 65535) {
		return false
	}
	least := -1.0
	for _, arm := range x.Arms {
		if !within(arm.Next, 0, 65535) || float64(arm.Value) <= least || float64(arm.Value) >= math.Pow(2, float64(x.SelWidth)) {
			return false
		}
		least = float64(arm.Value)
	}
	return true
}

// forms ends the test where x is not well-formed, or where it is, and also where a graph of it alone differs from that.
func forms(t *testing.T, x api.Node, want bool) {
	t.Helper()
	was := twin([]api.Node{x})
	if Form(x) != want {
		t.Fatalf("well-formed: %v: %+v", !want, x)
	}
	if e := May([]api.Node{x}); e == api.ErrForm == want {
		t.Fatalf("well-formed: %v, but error %d: %+v", want, e, x)
	}
	if !equalLists(was, []api.Node{x}) {
		t.Fatalf("%+v became %+v", was[0], x)
	}
}

// armsTo are so many arms to the node id, with the Values from 0 on.
func armsTo(id, n int) []api.Arm {
	var l []api.Arm
	for i := range n {
		l = append(l, api.Arm{Value: uint32(i), Next: id})
	}
	return l
}

// full is a node that has all parts.
func full() api.Node {
	return api.Node{ID: 5, Size: 20, LenOff: 4, LenWidth: 4, LenUnit: 4, SelOff: 72, SelWidth: 8, Arms: []api.Arm{{Value: 6, Next: 7}, {Value: 17, Next: 8}}, Other: 9}
}

// least and greatest are nodes whose parts are all as small, or as great, as they may be while there are all of them.
func least() api.Node { return api.Node{ID: 1, LenWidth: 1, LenUnit: 1, SelWidth: 1} }

func greatest() api.Node {
	x := api.Node{ID: 65534, Size: 256, LenOff: 2048, LenWidth: 16, LenUnit: 256, SelOff: 2048, SelWidth: 32, Arms: armsTo(65535, 32), Other: 65535}
	x.Arms[31].Value = math.MaxUint32
	return x
}

// around are the numbers at both ends of a range, next to them, far from them, and such as are in it if bits are cut off.
func around(low, high int) []int {
	return []int{
		low - 1, low, low + 1, (low + high) / 2, high - 1, high, high + 1, 2*high + 1, -1, -high,
		math.MinInt, math.MaxInt, math.MinInt32, math.MaxInt32, low + 1<<16, high + 1<<16, low + 1<<32, high + 1<<32, low - 1<<32, high - 1<<32,
	}
}

func TestRangesP15_1(t *testing.T) {
	for name, part := range map[string]struct {
		of        func(x *api.Node) *int
		low, high int
	}{
		"ID":       {func(x *api.Node) *int { return &x.ID }, 1, 65534},
		"Size":     {func(x *api.Node) *int { return &x.Size }, 0, 256},
		"LenOff":   {func(x *api.Node) *int { return &x.LenOff }, 0, 2048},
		"LenWidth": {func(x *api.Node) *int { return &x.LenWidth }, 1, 16},
		"LenUnit":  {func(x *api.Node) *int { return &x.LenUnit }, 1, 256},
		"SelOff":   {func(x *api.Node) *int { return &x.SelOff }, 0, 2048},
		"SelWidth": {func(x *api.Node) *int { return &x.SelWidth }, 1, 32},
		"Other":    {func(x *api.Node) *int { return &x.Other }, 0, 65535},
	} {
		t.Run(name, func(t *testing.T) {
			for _, x := range []api.Node{full(), least(), greatest()} {
				if name == "SelWidth" { // without arms, whose Values have their own test, and with SelOff, so that 0 is wrong
					x.Arms, x.SelOff = nil, max(x.SelOff, 1)
				}
				forms(t, x, true)
				for _, n := range around(part.low, part.high) {
					bad := x
					*part.of(&bad) = n
					forms(t, bad, n >= part.low && n <= part.high)
				}
			}
		})
	}
}

// The parts that a node without a length, or without a selection, has to do without.
func TestAbsentPartsP15_1(t *testing.T) {
	bare := api.Node{ID: 5}
	forms(t, bare, true)
	for _, n := range []int{-1, 1, 2, 4, 256, 2048, math.MaxInt, math.MinInt, 1 << 32} {
		for _, x := range []api.Node{{ID: 5, LenOff: n}, {ID: 5, LenUnit: n}, {ID: 5, LenOff: n, LenUnit: n}, {ID: 5, LenOff: n, LenUnit: 1}, {ID: 5, SelOff: n}} {
			forms(t, x, false)
		}
	}
	for _, l := range [][]api.Arm{armsTo(0, 1), armsTo(7, 2), armsTo(65535, 32), {{}}, {{Value: 1}}} {
		forms(t, api.Node{ID: 5, Arms: l}, false)
		forms(t, api.Node{ID: 5, SelWidth: 32, Arms: l}, true)
	}
	forms(t, api.Node{ID: 5, Arms: []api.Arm{}}, true)
	forms(t, api.Node{ID: 5, SelWidth: 32, Arms: []api.Arm{}}, true)
	for _, change := range []func(x *api.Node){
		func(x *api.Node) { x.LenOff, x.LenWidth, x.LenUnit = 0, 0, 0 },
		func(x *api.Node) { x.SelOff, x.SelWidth, x.Arms = 0, 0, nil },
		func(x *api.Node) { x.Arms = nil },
		func(x *api.Node) { x.Other = 0 },
		func(x *api.Node) { x.Size = 0 },
	} {
		for _, x := range []api.Node{full(), least(), greatest()} {
			change(&x)
			forms(t, x, true)
		}
	}
	forms(t, api.Node{}, false)
}

func TestArmsP15_1(t *testing.T) {
	x := full()
	for n := range 70 {
		x.Arms = armsTo(7, n)
		forms(t, x, n <= 32)
	}
	x.SelWidth = 32
	for _, n := range []int{31, 32, 33, 34, 64, 256, 1000, 70000} {
		x.Arms = armsTo(7, n)
		forms(t, x, n <= 32)
	}
	for _, at := range []int{0, 1, 15, 30, 31} { // one of MaxArms arms
		for _, next := range around(0, 65535) {
			x.Arms = armsTo(7, 32)
			x.Arms[at].Next = next
			forms(t, x, next >= 0 && next <= 65535)
		}
		for _, next := range []int{5, 7, 65534} { // the node itself, another one, and the last one that may be
			x.Arms[at].Next = next
			forms(t, x, true)
		}
	}
}

func TestValuesAscendP15_1(t *testing.T) {
	x := full()
	x.SelWidth = 32
	for _, l := range [][]uint32{{}, {0}, {5}, {0, 1}, {5, 6, 7}, {0, math.MaxUint32}, {math.MaxInt32, math.MaxInt32 + 1, math.MaxUint32}} {
		x.Arms = armsOf(l)
		forms(t, x, true)
	}
	for _, l := range [][]uint32{{0, 0}, {5, 5}, {6, 5}, {1, 0}, {5, 6, 6}, {5, 5, 6}, {5, 7, 6}, {6, 5, 7}, {5, 7, 5}, {math.MaxUint32, 0}, {math.MaxUint32, math.MaxUint32}, {math.MaxInt32 + 1, 1}, {0, math.MaxUint32, 1}} {
		x.Arms = armsOf(l)
		forms(t, x, false)
	}
	for at := range 31 { // the arms at and behind it are equal, or change places
		x.Arms = armsTo(7, 32)
		x.Arms[at].Value = x.Arms[at+1].Value
		forms(t, x, false)
		x.Arms = armsTo(7, 32)
		x.Arms[at], x.Arms[at+1] = x.Arms[at+1], x.Arms[at]
		forms(t, x, false)
	}
}

// armsOf are arms with these Values.
func armsOf(l []uint32) []api.Arm {
	var arms []api.Arm
	for _, value := range l {
		arms = append(arms, api.Arm{Value: value})
	}
	return arms
}

// Each Value with a single bit, and the greatest one, for each SelWidth.
func TestValuesHaveBitsP15_1(t *testing.T) {
	for width := 1; width <= 32; width++ {
		x := full()
		x.SelWidth = width
		for n := range 32 {
			for _, l := range [][]uint32{{1 << n}, {0, 1 << n}} {
				x.Arms = armsOf(l)
				forms(t, x, n < width)
			}
			x.Arms = armsOf([]uint32{1<<n - 1})
			forms(t, x, n <= width)
		}
		x.Arms = armsOf([]uint32{math.MaxUint32})
		forms(t, x, width == 32)
		x.Arms = armsOf([]uint32{uint32(uint64(1)<<width - 1)}) // the greatest that there are bits for
		forms(t, x, true)
		if width < 32 {
			x.Arms = armsOf([]uint32{1 << width}) // and one more
			forms(t, x, false)
			x.Arms = armsOf([]uint32{0, 1<<width - 1, 1 << width})
			forms(t, x, false)
		}
	}
}

// All nodes of some numbers for each part, against the chapter's words.
func TestAllPartsP15_1(t *testing.T) {
	arms := [][]api.Arm{nil, armsTo(7, 1), armsTo(65535, 2), armsTo(0, 32), armsTo(7, 33), armsTo(-1, 2), armsTo(65536, 1), {{Value: 1}, {Value: 1}}, {{Value: 1}, {}}, {{Value: math.MaxUint32}}}
	count := 0
	for _, id := range []int{0, 1, 65534, 65535} {
		for _, size := range []int{-1, 0, 256, 257} {
			for _, lens := range rows([]int{-1, 0, 2048, 2049}, []int{-1, 0, 1, 16, 17}, []int{-1, 0, 1, 256, 257}) {
				for _, sels := range rows([]int{-1, 0, 2048, 2049}, []int{-1, 0, 1, 32, 33}, []int{0}) {
					for _, l := range arms {
						for _, other := range []int{-1, 0, 65535, 65536} {
							x := api.Node{ID: id, Size: size, LenOff: lens[0], LenWidth: lens[1], LenUnit: lens[2], SelOff: sels[0], SelWidth: sels[1], Arms: l, Other: other}
							if want := wellFormed(x); Form(x) != want {
								t.Fatalf("well-formed: %v: %+v", !want, x)
							} else if want {
								count++
							}
						}
					}
				}
			}
		}
	}
	if want := 2 * 2 * 2 * (1 + 2*2*2) * (1 + 2*(3+5)); count != want { // 3 of the lists of arms have Values of 1 bit, and 5 of 32
		t.Errorf("%d well-formed nodes, not %d", count, want)
	}
}

// rows are all rows of one number of each list.
func rows(a, b, c []int) [][3]int {
	var l [][3]int
	for _, x := range a {
		for _, y := range b {
			for _, z := range c {
				l = append(l, [3]int{x, y, z})
			}
		}
	}
	return l
}

// Nodes that are well-formed, and then have one part changed, or one of an arm.
func TestChangedPartsP15_1(t *testing.T) {
	r := newSamples()
	edges := []int{math.MinInt, -1, 0, 1, 2, 16, 17, 32, 33, 256, 257, 2048, 2049, 65534, 65535, 65536, math.MaxUint32, math.MaxInt}
	count := 0
	for range 40000 {
		x := r.node(1+r.below(65534), []int{1, 7, 65534}, 1+r.below(32))
		forms(t, x, true)
		n := edges[r.below(len(edges))]
		parts := []*int{&x.ID, &x.Size, &x.LenOff, &x.LenWidth, &x.LenUnit, &x.SelOff, &x.SelWidth, &x.Other}
		for i := range x.Arms {
			parts = append(parts, &x.Arms[i].Next)
		}
		if at := r.below(len(parts) + len(x.Arms)); at < len(parts) {
			*parts[at] = n
		} else {
			x.Arms[at-len(parts)].Value = uint32(n)
		}
		if forms(t, x, wellFormed(x)); wellFormed(x) {
			count++
		}
	}
	if count < 5000 || count > 35000 {
		t.Errorf("%d of them are well-formed", count)
	}
}
