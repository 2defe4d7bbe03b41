package tests

import (
	"math"
	"slices"
	"strconv"
	"strings"
	"testing"

	"loop.example/g00116/impl"
)

type graph = impl.Graph

type and = impl.And

func turned(w int) int {
	if w%2 == 0 {
		return w + 1
	}
	return w - 1
}

// wiresOf is how many wires a graph has; the greatest is one less.
func wiresOf(g graph) int { return 2 * (g.Ins + 1 + len(g.Ands)) }

func lastWire(g graph) int { return wiresOf(g) - 2 }

func hasWire(g graph, w int) bool { return w >= 0 && w < wiresOf(g) }

func graphModel(g graph) bool {
	if g.Ins < 0 || g.Ins > 12 || len(g.Ands) > 3000 {
		return false
	}
	for i, x := range g.Ands {
		own := 2 * (g.Ins + 1 + i)
		if x.A < 2 || x.B <= x.A || x.B/2 == x.A/2 || x.B >= own || slices.Contains(g.Ands[:i], x) {
			return false
		}
	}
	return true
}

// putAnd is GraphAnd for a right graph and its wires, told line by line; putOr and putIf likewise.
func putAnd(g graph, a, b int) (graph, int) {
	switch {
	case a == 0 || b == 0 || a == turned(b):
		return g, 0
	case a == 1:
		return g, b
	case b == 1 || a == b:
		return g, a
	}
	x := and{A: min(a, b), B: max(a, b)}
	if i := slices.Index(g.Ands, x); i >= 0 {
		return g, 2 * (g.Ins + 1 + i)
	}
	if len(g.Ands) >= 3000 {
		return g, -1
	}
	return graph{Ins: g.Ins, Ands: append(g.Ands, x)}, wiresOf(g)
}

func putOr(g graph, a, b int) (graph, int) {
	h, w := putAnd(g, turned(a), turned(b))
	if w < 0 {
		return g, -1
	}
	return h, turned(w)
}

func putIf(g graph, x, a, b int) (graph, int) {
	h, first := putAnd(g, x, a)
	if first < 0 {
		return g, -1
	}
	h, second := putAnd(h, turned(x), b)
	if second < 0 {
		return g, -1
	}
	h, w := putOr(h, first, second)
	if w < 0 {
		return g, -1
	}
	return h, w
}

// copyOf has no spare room, so that what is put behind it goes elsewhere.
func copyOf(g graph) graph {
	return graph{Ins: g.Ins, Ands: slices.Clip(slices.Clone(g.Ands))}
}

// putTable is the wire of a table at a bit, by the signs alone.
func putTable(g graph, ones string, bit int) (graph, int) {
	switch {
	case !strings.Contains(ones, "1"):
		return g, 0
	case !strings.Contains(ones, "0"):
		return g, 1
	}
	low, high := ones[:len(ones)/2], ones[len(ones)/2:]
	if low == high {
		return putTable(g, low, bit+1)
	}
	g, zero := putTable(g, low, bit+1)
	g, one := putTable(g, high, bit+1)
	return putIf(g, 2*(bit+1), one, zero)
}

// nodesAt are what all nodes are worth at some bits.
func nodesAt(g graph, ins []int) []int {
	nodes := append([]int{0}, ins...)
	for _, x := range g.Ands {
		nodes = append(nodes, wireAt(nodes, x.A)*wireAt(nodes, x.B))
	}
	return nodes
}

func wireAt(nodes []int, w int) int {
	if w%2 == 1 {
		return 1 - nodes[w/2]
	}
	return nodes[w/2]
}

func reachAnds(g graph, node int, met map[int]int) {
	if node <= g.Ins || met[node] > 0 {
		return
	}
	met[node] = 1
	x := g.Ands[node-g.Ins-1]
	reachAnds(g, x.A/2, met)
	reachAnds(g, x.B/2, met)
}

func sizeModel(g graph, w int) int {
	met := map[int]int{}
	reachAnds(g, w/2, met)
	return len(met)
}

func shortGraph(g graph) string {
	text := "Ins " + strconv.Itoa(g.Ins) + ", " + strconv.Itoa(len(g.Ands)) + " ands"
	for _, x := range g.Ands[:min(len(g.Ands), 30)] {
		text += " {" + strconv.Itoa(x.A) + " " + strconv.Itoa(x.B) + "}"
	}
	return text
}

// net is a graph of these ands, two wires each.
func net(ins int, wires ...int) graph {
	g := graph{Ins: ins}
	for i := 0; i < len(wires); i += 2 {
		g.Ands = append(g.Ands, and{A: wires[i], B: wires[i+1]})
	}
	return g
}

// fullNet has count ands of at least two inputs: all pairs, by their greater wire.
func fullNet(ins, count int) graph {
	g := graph{Ins: ins}
	for b := 4; ; b++ {
		for a := 2; a < b-b%2; a++ {
			if len(g.Ands) == count {
				return g
			}
			g.Ands = append(g.Ands, and{A: a, B: b})
		}
	}
}

func drawWire(d *dice, g graph) int { return d.below(wiresOf(g)) }

func drawNet(d *dice, ins, tries int) graph {
	g := graph{Ins: ins}
	for range tries {
		g, _ = putAnd(g, drawWire(d, g), drawWire(d, g))
	}
	return copyOf(g)
}

// eachNet calls f for drawn graphs of each number of inputs, with no and, with few and with many.
func eachNet(seed dice, f func(d *dice, g graph)) {
	for ins := range impl.MaxBits + 1 {
		for _, tries := range []int{0, 1, 2, 3, 5, 8, 20, 60} {
			f(&seed, drawNet(&seed, ins, tries))
		}
	}
}

func isGraph(t *testing.T, name string, g graph, asked bool) {
	t.Helper()
	if impl.GraphOk(g) != asked || graphModel(g) != asked {
		t.Fatalf("%s: GraphOk of %s is not %v", name, shortGraph(g), asked)
	}
}

func sameGraph(g, h graph) bool { return g.Ins == h.Ins && slices.Equal(g.Ands, h.Ands) }

// makes holds a graph and a wire that were answered against those that were asked for.
func makes(t *testing.T, name string, g graph, w int, asked graph, wire int) {
	t.Helper()
	if !sameGraph(g, asked) || w != wire {
		t.Fatalf("%s: %s and wire %d, not %s and wire %d", name, shortGraph(g), w, shortGraph(asked), wire)
	}
}

// noAnswers are those of all functions for a graph that is none or for wires that are none of it.
func noAnswers(t *testing.T, name string, g graph, a, b, c int) {
	t.Helper()
	h, w := impl.GraphAnd(g, a, b)
	makes(t, name+": GraphAnd", h, w, g, -1)
	h, w = impl.GraphOr(g, a, b)
	makes(t, name+": GraphOr", h, w, g, -1)
	h, w = impl.GraphIf(g, c, a, b)
	makes(t, name+": GraphIf", h, w, g, -1)
}

func hasNoWire(t *testing.T, name string, g graph, ins []int, w int) {
	t.Helper()
	want(t, name+": GraphValue of "+shortGraph(g), impl.GraphValue(g, ins, w), -1, w)
	if x, ok := impl.GraphTable(g, w); ok || x != (table{}) {
		t.Fatalf("%s: GraphTable of %s, %d is %s, %v", name, shortGraph(g), w, short(x), ok)
	}
	want(t, name+": GraphSize of "+shortGraph(g), impl.GraphSize(g, w), -1, w)
}

// isNoGraph is promise 16 for a graph that is wrong: no wire makes it a right one.
func isNoGraph(t *testing.T, name string, g graph) {
	t.Helper()
	isGraph(t, name, g, false)
	wires := []int{-1, 0, 1, 2, 3, 4, math.MaxInt}
	for _, a := range wires {
		for _, b := range wires {
			noAnswers(t, name, g, a, b, 2)
			noAnswers(t, name, g, 2, a, b)
		}
		for _, ins := range [][]int{nil, {0}, {1, 0}, {1, 1, 1}, make([]int, impl.MaxBits), make([]int, impl.MaxBits+1)} {
			hasNoWire(t, name, g, ins, a)
		}
	}
}

// worthAsAsked is promise 7 for wires that are put together: at each choice of
// the inputs (at some of them, where there are many) the wire is worth what
// asked says, and what g had is worth what it was.
func worthAsAsked(t *testing.T, name string, g, h graph, w int, asked func(nodes []int) int) {
	t.Helper()
	isGraph(t, name, h, true)
	if h.Ins != g.Ins || !hasWire(h, w) {
		t.Fatalf("%s: %d is no wire of %s", name, w, shortGraph(h))
	}
	step := max(1, power(g.Ins)/64) | 1
	for place := 0; place < power(g.Ins); place += step {
		ins := bitsAt(g.Ins, place)
		before, now := nodesAt(g, ins), nodesAt(h, ins)
		if !slices.Equal(before, now[:len(before)]) {
			t.Fatalf("%s: %s is not ahead in %s", name, shortGraph(g), shortGraph(h))
		}
		want(t, name+": wire of "+shortGraph(h), wireAt(now, w), asked(before), ins...)
		want(t, name+": GraphValue of "+shortGraph(h), impl.GraphValue(h, ins, w), asked(before), ins...)
	}
}

// putTogether holds GraphAnd, GraphOr and GraphIf of three wires against what
// the document says of their lists, and against what they should be worth.
func putTogether(t *testing.T, name string, g graph, x, a, b int) {
	t.Helper()
	h, w := impl.GraphAnd(g, a, b)
	asked, wire := putAnd(copyOf(g), a, b)
	makes(t, name+": GraphAnd of "+shortGraph(g), h, w, asked, wire)
	if w >= 0 {
		worthAsAsked(t, name+": GraphAnd", g, h, w, func(nodes []int) int { return min(wireAt(nodes, a), wireAt(nodes, b)) })
	}
	h, w = impl.GraphOr(g, a, b)
	asked, wire = putOr(copyOf(g), a, b)
	makes(t, name+": GraphOr of "+shortGraph(g), h, w, asked, wire)
	if w >= 0 {
		worthAsAsked(t, name+": GraphOr", g, h, w, func(nodes []int) int { return max(wireAt(nodes, a), wireAt(nodes, b)) })
	}
	h, w = impl.GraphIf(g, x, a, b)
	asked, wire = putIf(copyOf(g), x, a, b)
	makes(t, name+": GraphIf of "+shortGraph(g), h, w, asked, wire)
	if w >= 0 {
		worthAsAsked(t, name+": GraphIf", g, h, w, func(nodes []int) int {
			if wireAt(nodes, x) == 1 {
				return wireAt(nodes, a)
			}
			return wireAt(nodes, b)
		})
	}
}

// hasItsTable is promise 7 for the circuit of a table.
func hasItsTable(t *testing.T, x table) {
	t.Helper()
	g, w := impl.GraphOf(x)
	asked, wire := putTable(graph{Ins: x.N}, x.Ones, 0)
	makes(t, "GraphOf of "+short(x), g, w, asked, wire)
	isGraph(t, "GraphOf of "+short(x), g, true)
	y, ok := impl.GraphTable(g, w)
	if !ok || y != x {
		t.Fatalf("GraphTable of GraphOf of %s is %s, %v", short(x), short(y), ok)
	}
	denied, ok := impl.GraphTable(g, turned(w))
	if !ok || denied != impl.TableNot(x) {
		t.Fatalf("GraphTable of the turned wire of %s is %s, %v", short(x), short(denied), ok)
	}
	step := max(1, len(x.Ones)/64) | 1
	for place := 0; place < len(x.Ones); place += step {
		ins := bitsAt(x.N, place)
		want(t, "GraphValue of GraphOf of "+short(x), impl.GraphValue(g, ins, w), impl.TableAt(x, ins), place)
	}
	want(t, "GraphSize of GraphOf of "+short(x), impl.GraphSize(g, w), sizeModel(g, w))
}

func TestMaxAnds(t *testing.T) {
	want(t, "MaxAnds", impl.MaxAnds, 3000)
}

func TestWhatGraphsAre(t *testing.T) {
	isGraph(t, "the zero value", graph{}, true)
	for ins := range impl.MaxBits + 1 {
		isGraph(t, "no and", graph{Ins: ins}, true)
		isGraph(t, "an empty list", graph{Ins: ins, Ands: []and{}}, true)
	}
	for _, g := range []graph{
		net(2, 2, 4), net(2, 2, 5), net(2, 3, 4), net(2, 3, 5), net(2, 2, 4, 2, 5, 3, 4, 3, 5), net(2, 3, 5, 2, 4),
		net(2, 2, 4, 2, 6), net(2, 2, 4, 2, 7), net(2, 2, 4, 5, 6), net(2, 2, 4, 2, 5, 6, 8), net(2, 2, 4, 2, 5, 7, 9), net(3, 4, 6, 2, 8, 3, 11),
		net(impl.MaxBits, 2, 25), net(impl.MaxBits, 3, 24), net(impl.MaxBits, 22, 24), net(impl.MaxBits, 23, 25, 25, 26),
	} {
		isGraph(t, "some ands", g, true)
	}
	for ins := 2; ins <= impl.MaxBits; ins++ {
		for _, count := range []int{1, 2, impl.MaxAnds - 1, impl.MaxAnds} {
			isGraph(t, "all pairs", fullNet(ins, count), true)
		}
	}
}

func TestGraphsThatAreNone(t *testing.T) {
	for _, ins := range []int{-1, -2, impl.MaxBits + 1, impl.MaxBits + 2, 63, 64, 256, 1 << 32, 1 << 62, 1 << 61, -1 << 62, math.MinInt, math.MinInt + 1, math.MaxInt, math.MaxInt - 1} {
		isNoGraph(t, "Ins", graph{Ins: ins})
		isNoGraph(t, "Ins", graph{Ins: ins, Ands: []and{}})
		isNoGraph(t, "Ins", net(ins, 2, 4))
	}
	for ins := range impl.MaxBits + 1 {
		end := 2 * (ins + 1)
		isNoGraph(t, "A of 0", net(ins, 0, 2))
		isNoGraph(t, "A of 1", net(ins, 1, 2))
		isNoGraph(t, "both 0", net(ins, 0, 0))
		isNoGraph(t, "0 and 1", net(ins, 0, 1))
		isNoGraph(t, "the zero value", graph{Ins: ins, Ands: make([]and, 1)})
		isNoGraph(t, "its own node", net(ins, 2, end))
		isNoGraph(t, "its own node, turned", net(ins, 2, end+1))
		isNoGraph(t, "a node behind it", net(ins, 2, end+2))
		isNoGraph(t, "both too great", net(ins, end, end+2))
		for _, far := range farNumbers() {
			isNoGraph(t, "A far away", net(ins, far, 2))
			isNoGraph(t, "B far away", net(ins, 2, far))
			isNoGraph(t, "both far away", net(ins, far, far))
			isNoGraph(t, "both far away", net(ins, min(far, far^2), max(far, far^2)))
		}
		for n := 1; n <= ins; n++ {
			isNoGraph(t, "one wire twice", net(ins, 2*n, 2*n))
			isNoGraph(t, "one node", net(ins, 2*n, 2*n+1))
			isNoGraph(t, "one wire twice, turned", net(ins, 2*n+1, 2*n+1))
			isNoGraph(t, "B below A", net(ins, 2*n+1, 2*n))
			if n > 1 {
				isNoGraph(t, "B below A", net(ins, 2*n, 2))
				isNoGraph(t, "the same twice", net(ins, 2, 2*n, 2, 2*n))
				isNoGraph(t, "the same twice, one between", net(ins, 2, 2*n, 3, 2*n, 2, 2*n))
				isNoGraph(t, "one node behind an and", net(ins, 2, 2*n, end, end+1))
				isNoGraph(t, "its own node behind an and", net(ins, 2, 2*n, 2, end+2))
				isNoGraph(t, "its own node behind an and, turned", net(ins, 2, 2*n, 2, end+3))
				isNoGraph(t, "a wrong one ahead of a right one", net(ins, 2, 2, 2, 2*n))
			}
		}
	}
}

func TestGraphsOfTooManyAnds(t *testing.T) {
	for _, ins := range []int{2, 3, impl.MaxBits} {
		isGraph(t, "MaxAnds", fullNet(ins, impl.MaxAnds), true)
		g := fullNet(ins, impl.MaxAnds+1)
		isGraph(t, "MaxAnds + 1", g, false)
		noAnswers(t, "MaxAnds + 1", g, 2, 4, 3)
		noAnswers(t, "MaxAnds + 1", g, 0, 0, 0)
		hasNoWire(t, "MaxAnds + 1", g, make([]int, ins), 2)
		isGraph(t, "twice MaxAnds", fullNet(ins, 2*impl.MaxAnds), false)
	}
	isGraph(t, "a million", graph{Ins: 3, Ands: make([]and, 1000000)}, false)
	// the last one of MaxAnds is looked at as well as the first one
	for _, i := range []int{0, 1, impl.MaxAnds / 2, impl.MaxAnds - 1} {
		for _, x := range []and{{A: 0, B: 4}, {A: 1, B: 4}, {A: 4, B: 2}, {A: 4, B: 5}, {A: 2, B: 2 * (4 + 1 + i)}} {
			g := fullNet(4, impl.MaxAnds)
			g.Ands[i] = x
			isGraph(t, "one of MaxAnds", g, false)
		}
	}
	g := fullNet(4, impl.MaxAnds)
	g.Ands[impl.MaxAnds-1] = g.Ands[0]
	isGraph(t, "the first one again at the end", g, false)
}

func TestAndsOfWires(t *testing.T) {
	for _, x := range []struct {
		g     graph
		a, b  int
		asked graph
		wire  int
	}{
		{net(2), 2, 4, net(2, 2, 4), 6}, {net(2), 3, 4, net(2, 3, 4), 6}, {net(2), 2, 5, net(2, 2, 5), 6}, {net(2), 3, 5, net(2, 3, 5), 6},
		{net(2, 2, 4), 2, 4, net(2, 2, 4), 6}, {net(2, 2, 4), 3, 4, net(2, 2, 4, 3, 4), 8}, {net(2, 2, 4), 2, 5, net(2, 2, 4, 2, 5), 8}, {net(2, 2, 4), 3, 5, net(2, 2, 4, 3, 5), 8},
		{net(2, 2, 4, 3, 5), 3, 5, net(2, 2, 4, 3, 5), 8}, {net(2, 2, 4, 3, 5), 2, 4, net(2, 2, 4, 3, 5), 6}, {net(2, 2, 4, 3, 5), 6, 8, net(2, 2, 4, 3, 5, 6, 8), 10},
		{net(2, 2, 4, 3, 5), 7, 9, net(2, 2, 4, 3, 5, 7, 9), 10}, {net(2, 2, 4, 3, 5), 6, 9, net(2, 2, 4, 3, 5, 6, 9), 10}, {net(2, 2, 4, 3, 5), 7, 8, net(2, 2, 4, 3, 5, 7, 8), 10},
		{net(2, 2, 4, 3, 5, 7, 9), 7, 9, net(2, 2, 4, 3, 5, 7, 9), 10}, {net(2, 2, 4, 3, 5, 7, 9), 7, 8, net(2, 2, 4, 3, 5, 7, 9, 7, 8), 12},
		// no and is seen through: that of an and and one of its own parts is a new one
		{net(2, 2, 4), 2, 6, net(2, 2, 4, 2, 6), 8}, {net(2, 2, 4), 3, 6, net(2, 2, 4, 3, 6), 8}, {net(2, 2, 4), 5, 7, net(2, 2, 4, 5, 7), 8},
		{net(impl.MaxBits), 2, 24, net(impl.MaxBits, 2, 24), 26}, {net(impl.MaxBits), 23, 25, net(impl.MaxBits, 23, 25), 26},
		{net(2), 0, 4, net(2), 0}, {net(2), 1, 4, net(2), 4}, {net(2), 1, 5, net(2), 5}, {net(2), 2, 3, net(2), 0}, {net(2), 3, 3, net(2), 3}, {net(2), 0, 1, net(2), 0},
		{net(0), 0, 0, net(0), 0}, {net(0), 0, 1, net(0), 0}, {net(0), 1, 1, net(0), 1}, {net(1), 2, 3, net(1), 0}, {net(1), 2, 2, net(1), 2}, {net(1), 3, 3, net(1), 3}, {net(1), 1, 3, net(1), 3},
		{net(2, 2, 4), 6, 7, net(2, 2, 4), 0}, {net(2, 2, 4), 7, 7, net(2, 2, 4), 7}, {net(2, 2, 4), 1, 7, net(2, 2, 4), 7}, {net(2, 2, 4), 0, 7, net(2, 2, 4), 0},
	} {
		h, w := impl.GraphAnd(x.g, x.a, x.b)
		makes(t, "GraphAnd", h, w, x.asked, x.wire)
		h, w = impl.GraphAnd(x.g, x.b, x.a)
		makes(t, "GraphAnd in the other order", h, w, x.asked, x.wire)
		// what was put there is found again
		h, w = impl.GraphAnd(x.asked, x.a, x.b)
		makes(t, "GraphAnd a second time", h, w, x.asked, x.wire)
	}
}

func TestAndsThatNeedNone(t *testing.T) {
	eachNet(81, func(d *dice, g graph) {
		for w := range wiresOf(g) {
			for _, x := range []struct{ a, b, asked int }{{0, w, 0}, {w, 0, 0}, {1, w, w}, {w, 1, w}, {w, w, w}, {w, turned(w), 0}} {
				h, got := impl.GraphAnd(g, x.a, x.b)
				makes(t, "GraphAnd that needs none", h, got, g, x.asked)
			}
			for _, x := range []struct{ a, b, asked int }{{0, w, w}, {w, 0, w}, {1, w, 1}, {w, 1, 1}, {w, w, w}, {w, turned(w), 1}} {
				h, got := impl.GraphOr(g, x.a, x.b)
				makes(t, "GraphOr that needs none", h, got, g, x.asked)
			}
			for _, x := range []struct{ x, a, b, asked int }{{0, 1, w, w}, {1, w, 0, w}, {w, 1, 0, w}, {w, 0, 1, turned(w)}, {w, 0, 0, 0}, {w, w, 0, w}, {w, 1, w, w}} {
				h, got := impl.GraphIf(g, x.x, x.a, x.b)
				makes(t, "GraphIf that needs none", h, got, g, x.asked)
			}
		}
	})
}

func TestOrsOfWires(t *testing.T) {
	for _, x := range []struct {
		g     graph
		a, b  int
		asked graph
		wire  int
	}{
		{net(2), 2, 4, net(2, 3, 5), 7}, {net(2), 3, 5, net(2, 2, 4), 7}, {net(2), 2, 5, net(2, 3, 4), 7}, {net(2), 3, 4, net(2, 2, 5), 7},
		{net(2, 2, 4), 2, 4, net(2, 2, 4, 3, 5), 9}, {net(2, 2, 4), 3, 5, net(2, 2, 4), 7}, {net(2, 2, 4), 2, 6, net(2, 2, 4, 3, 7), 9},
		{net(2, 2, 5, 3, 4), 6, 8, net(2, 2, 5, 3, 4, 7, 9), 11}, {net(2, 2, 5, 3, 4), 7, 8, net(2, 2, 5, 3, 4, 6, 9), 11}, {net(2, 2, 5, 3, 4), 7, 9, net(2, 2, 5, 3, 4, 6, 8), 11},
		{net(0), 0, 0, net(0), 0}, {net(0), 0, 1, net(0), 1}, {net(0), 1, 1, net(0), 1}, {net(1), 2, 3, net(1), 1}, {net(1), 0, 3, net(1), 3},
	} {
		h, w := impl.GraphOr(x.g, x.a, x.b)
		makes(t, "GraphOr", h, w, x.asked, x.wire)
		h, w = impl.GraphOr(x.g, x.b, x.a)
		makes(t, "GraphOr in the other order", h, w, x.asked, x.wire)
	}
}

// The ands of GraphIf go behind one by one: that of the first, that of the second, that of both turned.
func TestOrderOfTheAndsOfAnIf(t *testing.T) {
	for _, x := range []struct {
		g       graph
		x, a, b int
		asked   graph
		wire    int
	}{
		{net(3), 2, 4, 6, net(3, 2, 4, 3, 6, 9, 11), 13}, {net(3), 2, 6, 4, net(3, 2, 6, 3, 4, 9, 11), 13}, {net(3), 6, 2, 4, net(3, 2, 6, 4, 7, 9, 11), 13},
		{net(3), 3, 4, 6, net(3, 3, 4, 2, 6, 9, 11), 13}, {net(3), 2, 5, 7, net(3, 2, 5, 3, 7, 9, 11), 13}, {net(3), 7, 5, 3, net(3, 5, 7, 3, 6, 9, 11), 13},
		// the first, the second or both are there already
		{net(3, 2, 4), 2, 4, 6, net(3, 2, 4, 3, 6, 9, 11), 13}, {net(3, 3, 6), 2, 4, 6, net(3, 3, 6, 2, 4, 9, 11), 13}, {net(3, 3, 6, 2, 4), 2, 4, 6, net(3, 3, 6, 2, 4, 9, 11), 13},
		{net(3, 2, 4, 3, 6, 9, 11), 2, 4, 6, net(3, 2, 4, 3, 6, 9, 11), 13}, {net(3, 3, 6, 2, 4, 8, 10), 2, 4, 6, net(3, 3, 6, 2, 4, 8, 10, 9, 11), 15},
		// of two ands, and by an and
		{net(2, 2, 4, 3, 5), 2, 6, 8, net(2, 2, 4, 3, 5, 2, 6, 3, 8, 11, 13), 15}, {net(2, 2, 4, 3, 5), 6, 8, 2, net(2, 2, 4, 3, 5, 6, 8, 2, 7, 11, 13), 15},
		// the first needs no and, the second needs none, neither does
		{net(2), 2, 1, 4, net(2, 3, 4, 3, 7), 9}, {net(2), 2, 4, 1, net(2, 2, 4, 2, 7), 9}, {net(2), 2, 0, 4, net(2, 3, 4), 6}, {net(2), 2, 4, 0, net(2, 2, 4), 6},
		{net(2), 2, 2, 4, net(2, 3, 4, 3, 7), 9}, {net(2), 2, 4, 2, net(2, 2, 4), 6}, {net(2), 2, 3, 4, net(2, 3, 4), 6}, {net(2), 2, 4, 3, net(2, 2, 4, 2, 7), 9},
		// the same on both sides is not seen through
		{net(2), 2, 4, 4, net(2, 2, 4, 3, 4, 7, 9), 11}, {net(2), 2, 4, 5, net(2, 2, 4, 3, 5, 7, 9), 11}, {net(2), 2, 5, 4, net(2, 2, 5, 3, 4, 7, 9), 11},
		{net(2), 2, 1, 1, net(2), 1}, {net(2), 2, 0, 0, net(2), 0}, {net(2), 0, 2, 4, net(2), 4}, {net(2), 1, 2, 4, net(2), 2}, {net(0), 0, 0, 1, net(0), 1}, {net(0), 1, 0, 1, net(0), 0},
	} {
		h, w := impl.GraphIf(x.g, x.x, x.a, x.b)
		makes(t, "GraphIf of "+shortGraph(x.g)+" by "+strconv.Itoa(x.x), h, w, x.asked, x.wire)
		putTogether(t, "order", x.g, x.x, x.a, x.b)
	}
}

// All wires of small graphs, each with each.
func TestWiresPutTogether(t *testing.T) {
	for _, g := range []graph{
		net(0), net(1), net(2), net(3), net(2, 2, 4), net(2, 2, 5, 3, 4), net(2, 2, 5, 3, 4, 7, 9), net(2, 3, 5, 2, 6), net(3, 4, 6, 2, 9), net(3, 2, 4, 3, 6, 9, 11),
	} {
		for x := range wiresOf(g) {
			for a := range wiresOf(g) {
				for b := range wiresOf(g) {
					putTogether(t, "small", g, x, a, b)
				}
			}
		}
	}
}

func TestDrawnWiresPutTogether(t *testing.T) {
	eachNet(82, func(d *dice, g graph) {
		for range 20 {
			putTogether(t, "drawn", g, drawWire(d, g), drawWire(d, g), drawWire(d, g))
		}
		top := lastWire(g)
		putTogether(t, "the greatest wires", g, top, top+1, 0)
		putTogether(t, "the greatest wires", g, top+1, 1, top)
		putTogether(t, "the greatest wires", g, drawWire(d, g), top, drawWire(d, g))
	})
}

// A graph that grows by each answer stays right, and its wires worth what they were.
func TestGraphsThatGrow(t *testing.T) {
	d := dice(83)
	for ins := range impl.MaxBits + 1 {
		g := graph{Ins: ins}
		for range 60 {
			x, a, b := drawWire(&d, g), drawWire(&d, g), drawWire(&d, g)
			putTogether(t, "growing", g, x, a, b)
			switch d.below(3) {
			case 0:
				g, _ = impl.GraphAnd(g, a, b)
			case 1:
				g, _ = impl.GraphOr(g, a, b)
			default:
				g, _ = impl.GraphIf(g, x, a, b)
			}
		}
	}
}

func TestWiresOfMaxAnds(t *testing.T) {
	for _, ins := range []int{2, 5, impl.MaxBits} {
		g := fullNet(ins, impl.MaxAnds)
		top := lastWire(g)
		for _, x := range []struct{ a, b, wire int }{
			{0, top, 0}, {1, top, top}, {top, 1, top}, {top, top, top}, {top, top + 1, 0}, {1, 1, 1}, {0, 1, 0}, {top + 1, 1, top + 1},
			{2, 4, 2 * (ins + 1)}, {4, 2, 2 * (ins + 1)}, {3, 4, 2 * (ins + 2)}, {g.Ands[impl.MaxAnds-1].A, g.Ands[impl.MaxAnds-1].B, top},
		} {
			h, w := impl.GraphAnd(g, x.a, x.b)
			makes(t, "GraphAnd of MaxAnds", h, w, g, x.wire)
			h, w = impl.GraphOr(g, turned(x.a), turned(x.b))
			makes(t, "GraphOr of MaxAnds", h, w, g, turned(x.wire))
		}
		for _, x := range []and{{A: 2, B: top}, {A: 3, B: top}, {A: top - 2, B: top}, {A: top - 1, B: top + 1}} {
			noAnswers(t, "one too many", g, x.A, x.B, 1+x.A)
			noAnswers(t, "one too many", g, x.B, x.A, x.B)
			noAnswers(t, "one too many", g, turned(x.A), turned(x.B), x.A)
		}
		// with one and less there is room for each of these
		less := fullNet(ins, impl.MaxAnds-1)
		top = lastWire(less)
		for _, x := range []and{{A: 2, B: top}, {A: 3, B: top}, {A: top - 2, B: top}, {A: top - 1, B: top + 1}} {
			asked := graph{Ins: ins, Ands: append(slices.Clip(less.Ands), x)}
			h, w := impl.GraphAnd(less, x.B, x.A)
			makes(t, "GraphAnd that comes to MaxAnds", h, w, asked, top+2)
			h, w = impl.GraphOr(less, turned(x.A), turned(x.B))
			makes(t, "GraphOr that comes to MaxAnds", h, w, asked, top+3)
		}
	}
}

// Of GraphIf each step in turn is the one that would need one too many.
func TestStepsThatAreOneTooMany(t *testing.T) {
	for _, ins := range []int{3, impl.MaxBits} {
		for room := range 5 {
			g := fullNet(ins, impl.MaxAnds-room)
			top := lastWire(g)
			for _, x := range []struct{ x, a, b, news int }{
				{2, top, top - 2, 3}, {top, 2, 4, 3}, {3, top + 1, top - 1, 3}, {top, top - 2, top - 4, 3},
				// the first is there already, or needs none
				{2, 4, top, 2}, {2, 1, top, 2}, {2, 0, top, 1}, {top, top, 2, 2}, {1, top, top - 2, 0},
				// the second is, or does
				{3, top, 4, 2}, {2, top, 1, 2}, {2, top, 0, 1}, {top, 2, top, 1}, {0, top - 2, top, 0},
				// all three are, or do
				{2, 4, 4, 0}, {2, 4, 6, 0}, {2, 1, 0, 0},
			} {
				h, w := impl.GraphIf(g, x.x, x.a, x.b)
				asked, wire := putIf(copyOf(g), x.x, x.a, x.b)
				makes(t, "GraphIf with room for "+strconv.Itoa(room), h, w, asked, wire)
				if x.news > room {
					makes(t, "GraphIf without room", h, w, g, -1)
				} else if w < 0 || len(h.Ands) != len(g.Ands)+x.news {
					t.Fatalf("GraphIf of %d, %d, %d with room for %d puts %d ands, not %d", x.x, x.a, x.b, room, len(h.Ands)-len(g.Ands), x.news)
				}
			}
		}
	}
	// both ands are there, and their or alone would be one too many
	g := net(3, 2, 4, 3, 6)
	for _, x := range fullNet(3, 2*impl.MaxAnds).Ands {
		if len(g.Ands) < impl.MaxAnds && !slices.Contains(g.Ands, x) && x != (and{A: 9, B: 11}) {
			g.Ands = append(g.Ands, x)
		}
	}
	isGraph(t, "without that or", g, true)
	want(t, "how many ands", len(g.Ands), impl.MaxAnds)
	h, w := impl.GraphIf(g, 2, 4, 6)
	makes(t, "the third step", h, w, g, -1)
	h, w = impl.GraphOr(g, 8, 10)
	makes(t, "the third step", h, w, g, -1)
	g.Ands = g.Ands[:impl.MaxAnds-1]
	h, w = impl.GraphIf(g, 2, 4, 6)
	makes(t, "the third step", h, w, graph{Ins: 3, Ands: append(slices.Clip(g.Ands), and{A: 9, B: 11})}, wiresOf(g)+1)
}

func noWiresOf(g graph) []int {
	return append([]int{-1, -2, -3, wiresOf(g), wiresOf(g) + 1, wiresOf(g) + 2, 1 << 62, 1 << 32, -1 << 32}, math.MinInt, math.MinInt+1, math.MaxInt, math.MaxInt-1)
}

func TestWiresThatAreNone(t *testing.T) {
	eachNet(84, func(d *dice, g graph) {
		for _, far := range noWiresOf(g) {
			for _, w := range []int{0, 1, drawWire(d, g), drawWire(d, g), far, far ^ 1} {
				noAnswers(t, "no wire", g, far, w, 1)
				noAnswers(t, "no wire", g, w, far, 0)
				for _, v := range []int{0, 1, w} {
					for _, x := range [][3]int{{far, w, v}, {w, far, v}, {w, v, far}} {
						h, got := impl.GraphIf(g, x[0], x[1], x[2])
						makes(t, "GraphIf of no wire", h, got, g, -1)
					}
				}
			}
			hasNoWire(t, "no wire", g, make([]int, g.Ins), far)
		}
		for _, w := range []int{0, 1, wiresOf(g) - 2, wiresOf(g) - 1} {
			if impl.GraphValue(g, make([]int, g.Ins), w) < 0 || impl.GraphSize(g, w) < 0 {
				t.Fatalf("%d is a wire of %s", w, shortGraph(g))
			}
		}
	})
}

func TestValuesOfWires(t *testing.T) {
	xor := net(2, 2, 5, 3, 4, 7, 9)
	for _, x := range []struct {
		g     graph
		ins   []int
		w     int
		asked int
	}{
		{net(0), nil, 0, 0}, {net(0), nil, 1, 1}, {net(0), []int{}, 1, 1}, {net(1), []int{0}, 2, 0}, {net(1), []int{1}, 2, 1}, {net(1), []int{0}, 3, 1}, {net(1), []int{1}, 3, 0},
		{net(2), []int{1, 0}, 2, 1}, {net(2), []int{1, 0}, 4, 0}, {net(2), []int{0, 1}, 2, 0}, {net(2), []int{0, 1}, 4, 1}, {net(2), []int{0, 1}, 0, 0}, {net(2), []int{0, 1}, 1, 1},
		{xor, []int{0, 0}, 11, 0}, {xor, []int{0, 1}, 11, 1}, {xor, []int{1, 0}, 11, 1}, {xor, []int{1, 1}, 11, 0}, {xor, []int{0, 1}, 10, 0}, {xor, []int{1, 1}, 10, 1},
		{xor, []int{1, 0}, 6, 1}, {xor, []int{0, 1}, 6, 0}, {xor, []int{1, 0}, 8, 0}, {xor, []int{0, 1}, 8, 1}, {xor, []int{0, 1}, 7, 1},
	} {
		want(t, "GraphValue of "+shortGraph(x.g), impl.GraphValue(x.g, x.ins, x.w), x.asked, append(x.ins, x.w)...)
	}
	eachNet(85, func(d *dice, g graph) {
		for range 10 {
			ins := bitsAt(g.Ins, d.below(power(g.Ins)))
			nodes := nodesAt(g, ins)
			for range 20 {
				w := drawWire(d, g)
				want(t, "GraphValue of "+shortGraph(g), impl.GraphValue(g, ins, w), wireAt(nodes, w), append(ins, w)...)
			}
		}
	})
}

func TestValuesAtWrongBits(t *testing.T) {
	eachNet(86, func(d *dice, g graph) {
		w := drawWire(d, g)
		for _, wire := range []int{0, 1, w} {
			for count := range 2*impl.MaxBits + 2 {
				if count != g.Ins {
					want(t, "GraphValue of too many bits or too few", impl.GraphValue(g, make([]int, count), wire), -1, g.Ins, count)
				}
			}
			if g.Ins > 0 {
				want(t, "GraphValue of no bits", impl.GraphValue(g, nil, wire), -1)
			}
			want(t, "GraphValue of very many bits", impl.GraphValue(g, make([]int, 100000), wire), -1)
			for _, wrong := range append(farNumbers(), 2, 3, 48, 49) {
				for i := range g.Ins {
					ins := bitsAt(g.Ins, d.below(power(g.Ins)))
					ins[i] = wrong
					want(t, "GraphValue of a wrong bit", impl.GraphValue(g, ins, wire), -1, ins...)
				}
			}
		}
	})
}

// The tables of all wires, place by place.
func TestTablesOfWires(t *testing.T) {
	for _, x := range []struct {
		g    graph
		w    int
		ones string
	}{
		{net(0), 0, "0"}, {net(0), 1, "1"}, {net(1), 0, "00"}, {net(1), 1, "11"}, {net(1), 2, "01"}, {net(1), 3, "10"},
		{net(2), 2, "0011"}, {net(2), 3, "1100"}, {net(2), 4, "0101"}, {net(2), 5, "1010"}, {net(3), 2, "00001111"}, {net(3), 4, "00110011"}, {net(3), 6, "01010101"},
		{net(2, 2, 4), 6, "0001"}, {net(2, 2, 4), 7, "1110"}, {net(2, 2, 5), 6, "0010"}, {net(2, 3, 4), 6, "0100"}, {net(2, 3, 5), 6, "1000"}, {net(2, 3, 5), 7, "0111"},
		{net(2, 2, 5, 3, 4, 7, 9), 11, "0110"}, {net(2, 2, 5, 3, 4, 7, 9), 10, "1001"}, {net(2, 2, 5, 3, 4, 7, 9), 2, "0011"},
		{net(3, 2, 4, 3, 6, 9, 11), 13, "01010011"}, {net(3, 2, 4, 7, 8), 8, "00000011"}, {net(3, 2, 4, 7, 8), 10, "00000010"},
	} {
		y, ok := impl.GraphTable(x.g, x.w)
		if !ok || y != (table{N: x.g.Ins, Ones: x.ones}) {
			t.Errorf("GraphTable of %s, %d is %s, %v, not %s", shortGraph(x.g), x.w, short(y), ok, x.ones)
		}
	}
	eachNet(87, func(d *dice, g graph) {
		nodes := [][]int{}
		for place := range power(g.Ins) {
			nodes = append(nodes, nodesAt(g, bitsAt(g.Ins, place)))
		}
		for range 6 {
			w := drawWire(d, g)
			x, ok := impl.GraphTable(g, w)
			if !ok || x.N != g.Ins || !impl.TableOk(x) {
				t.Fatalf("GraphTable of %s, %d is %s, %v", shortGraph(g), w, short(x), ok)
			}
			for place := range nodes {
				want(t, "GraphTable of "+shortGraph(g), int(x.Ones[place]-'0'), wireAt(nodes[place], w), w, place)
			}
		}
	})
}

// Tables of what is put together are the tables put together.
func TestTablesOfWiresPutTogether(t *testing.T) {
	eachNet(88, func(d *dice, g graph) {
		a, b := drawWire(d, g), drawWire(d, g)
		x, _ := impl.GraphTable(g, a)
		y, _ := impl.GraphTable(g, b)
		h, w := impl.GraphAnd(g, a, b)
		both, _ := impl.GraphTable(h, w)
		if asked, ok := impl.TableAnd(x, y); !ok || both != asked {
			t.Fatalf("GraphTable of both is %s, not %s", short(both), short(asked))
		}
		h, w = impl.GraphIf(g, a, turned(b), b)
		apart, _ := impl.GraphTable(h, w)
		if asked, ok := impl.TableXor(x, y); !ok || apart != asked {
			t.Fatalf("GraphTable of one by the other is %s, not %s", short(apart), short(asked))
		}
	})
}

// The ands of a table go behind one by one: those of the half with 0, those of
// the half with 1, and then those of GraphIf.
func TestOrderOfTheAndsOfATable(t *testing.T) {
	for _, x := range []struct {
		x     table
		asked graph
		wire  int
	}{
		{tableOf(0, "0"), net(0), 0}, {tableOf(0, "1"), net(0), 1}, {tableOf(1, "00"), net(1), 0}, {tableOf(1, "11"), net(1), 1}, {tableOf(1, "01"), net(1), 2}, {tableOf(1, "10"), net(1), 3},
		{tableOf(2, "0000"), net(2), 0}, {tableOf(2, "1111"), net(2), 1}, {tableOf(2, "0011"), net(2), 2}, {tableOf(2, "1100"), net(2), 3}, {tableOf(2, "0101"), net(2), 4}, {tableOf(2, "1010"), net(2), 5},
		{tableOf(2, "0001"), net(2, 2, 4), 6}, {tableOf(2, "0010"), net(2, 2, 5), 6}, {tableOf(2, "0100"), net(2, 3, 4), 6}, {tableOf(2, "1000"), net(2, 3, 5), 6},
		{tableOf(2, "1110"), net(2, 2, 5, 2, 7), 9}, {tableOf(2, "0111"), net(2, 3, 4, 3, 7), 9}, {tableOf(2, "0110"), net(2, 2, 5, 3, 4, 7, 9), 11}, {tableOf(2, "1001"), net(2, 2, 4, 3, 5, 7, 9), 11},
		{tableOf(3, "00010111"), net(3, 4, 6, 5, 6, 5, 11, 2, 13, 3, 8, 15, 17), 19},
		{tableOf(3, "01101001"), net(3, 4, 7, 5, 6, 9, 11, 4, 6, 5, 7, 15, 17, 2, 19, 3, 13, 21, 23), 25},
		// the first bit, one between or the last one is not needed
		{tableOf(3, "01100110"), net(3, 4, 7, 5, 6, 9, 11), 13}, {tableOf(3, "01011010"), net(3, 2, 7, 3, 6, 9, 11), 13}, {tableOf(3, "00111100"), net(3, 2, 5, 3, 4, 9, 11), 13},
		// a half that is there already, one bit further on
		{tableOf(3, "00010000"), net(3, 4, 6, 3, 8), 10}, {tableOf(3, "00000001"), net(3, 4, 6, 2, 8), 10}, {tableOf(3, "00011110"), net(3, 4, 6, 4, 7, 4, 11, 2, 13, 3, 8, 15, 17), 19},
	} {
		g, w := impl.GraphOf(x.x)
		makes(t, "GraphOf of "+short(x.x), g, w, x.asked, x.wire)
		hasItsTable(t, x.x)
	}
}

func TestCircuitsOfTables(t *testing.T) {
	eachTable(89, func(x table) { hasItsTable(t, x) })
}

func TestCircuitsOfKnownTables(t *testing.T) {
	for n := range impl.MaxBits + 1 {
		for v := range 2 {
			g, w := impl.GraphOf(constantTable(n, v))
			makes(t, "GraphOf of what is known", g, w, graph{Ins: n}, v)
		}
		for bit := range n {
			g, w := impl.GraphOf(tableBy(n, func(bits []int) bool { return bits[bit] == 1 }))
			makes(t, "GraphOf of one bit", g, w, graph{Ins: n}, 2*bit+2)
			g, w = impl.GraphOf(tableBy(n, func(bits []int) bool { return bits[bit] == 0 }))
			makes(t, "GraphOf of one bit, turned", g, w, graph{Ins: n}, 2*bit+3)
		}
	}
}

// A table whose quarters and eighths and so on all differ, down to those of
// four bits, and that has every table of three bits in it, needs very many ands.
func TestCircuitOfVeryManyAnds(t *testing.T) {
	ones := ""
	for i := range 512 {
		number := i
		if i >= 256 {
			number = 511 - i
		}
		for _, b := range bitsAt(8, number) {
			ones += strconv.Itoa(b)
		}
	}
	x := table{N: impl.MaxBits, Ones: ones}
	hasItsTable(t, x)
	g, w := impl.GraphOf(x)
	if len(g.Ands) < 1700 || impl.GraphSize(g, w) != len(g.Ands) {
		t.Errorf("%d ands, of which %d are reached", len(g.Ands), impl.GraphSize(g, w))
	}
}

func TestCircuitsOfSentences(t *testing.T) {
	d := dice(90)
	for count := 0; count < 150; {
		q, rest, _ := impl.Front(drawSentence(&d))
		x, ok := impl.TableOf(q, rest)
		if !ok || x.N > 9 {
			continue
		}
		count++
		hasItsTable(t, x)
	}
}

func TestCircuitsOfWhatIsNoTable(t *testing.T) {
	wrong := []table{
		{}, tableOf(0, ""), tableOf(0, "2"), tableOf(0, "01"), tableOf(1, "0"), tableOf(1, "012"), tableOf(1, "0a"), tableOf(2, "011"), tableOf(2, "01101"), tableOf(2, "01 0"), tableOf(2, "0\x000\x01"),
		tableOf(2, "\u00e900"), tableOf(3, "0110"), tableOf(2, "01100110"), tableOf(-1, ""), tableOf(-1, "0"), tableOf(math.MinInt, "1"), tableOf(math.MaxInt, "1"), tableOf(64, "1"), tableOf(63, ""),
		constantTable(impl.MaxBits+1, 0), constantTable(impl.MaxBits+1, 1), tableOf(impl.MaxBits, constantTable(11, 1).Ones), tableOf(impl.MaxBits, constantTable(12, 1).Ones+"1"), tableOf(impl.MaxBits, constantTable(12, 1).Ones[1:]+"/"),
	}
	for _, x := range wrong {
		g, w := impl.GraphOf(x)
		makes(t, "GraphOf of "+short(x), g, w, graph{}, -1)
	}
}

func TestHowManyAndsAreReached(t *testing.T) {
	xor := net(2, 2, 5, 3, 4, 7, 9)
	// the first and is reached on two ways; nothing reaches the last one
	twice := net(3, 2, 4, 6, 8, 7, 9, 10, 13, 3, 5)
	for _, x := range []struct {
		g     graph
		w     int
		asked int
	}{
		{net(0), 0, 0}, {net(0), 1, 0}, {net(3), 7, 0}, {net(2, 2, 4), 0, 0}, {net(2, 2, 4), 1, 0}, {net(2, 2, 4), 5, 0}, {net(2, 2, 4), 6, 1}, {net(2, 2, 4), 7, 1},
		{xor, 0, 0}, {xor, 2, 0}, {xor, 5, 0}, {xor, 6, 1}, {xor, 7, 1}, {xor, 8, 1}, {xor, 9, 1}, {xor, 10, 3}, {xor, 11, 3},
		{twice, 8, 1}, {twice, 9, 1}, {twice, 10, 2}, {twice, 11, 2}, {twice, 12, 2}, {twice, 13, 2}, {twice, 14, 4}, {twice, 15, 4}, {twice, 16, 1}, {twice, 17, 1}, {twice, 6, 0},
	} {
		want(t, "GraphSize of "+shortGraph(x.g), impl.GraphSize(x.g, x.w), x.asked, x.w)
	}
	eachNet(91, func(d *dice, g graph) {
		for w := range wiresOf(g) {
			want(t, "GraphSize of "+shortGraph(g), impl.GraphSize(g, w), sizeModel(g, w), w)
		}
	})
	g := fullNet(2, impl.MaxAnds)
	for _, w := range []int{2, 6, 7, 100, lastWire(g), lastWire(g) + 1} {
		want(t, "GraphSize of MaxAnds", impl.GraphSize(g, w), sizeModel(g, w), w)
	}
}

// manyWays has two ways from each and to the next but one ahead, so that there
// are more ways through it than could be gone, and reaches all its ands.
func manyWays() graph {
	g := net(2, 2, 4)
	for len(g.Ands) < impl.MaxAnds {
		top := lastWire(g)
		g.Ands = append(g.Ands, and{A: top - 2, B: top + 1})
	}
	return g
}

func TestGraphsOfManyWays(t *testing.T) {
	g := manyWays()
	isGraph(t, "many ways", g, true)
	top := lastWire(g)
	want(t, "GraphSize of many ways", impl.GraphSize(g, top), impl.MaxAnds)
	want(t, "GraphSize of many ways", impl.GraphSize(g, top+1), impl.MaxAnds)
	want(t, "GraphSize of one less", impl.GraphSize(g, top-2), impl.MaxAnds-1)
	for w := top - 5; w <= top+1; w++ {
		x, ok := impl.GraphTable(g, w)
		for place := range 4 {
			ins := bitsAt(2, place)
			asked := wireAt(nodesAt(g, ins), w)
			want(t, "GraphValue of many ways", impl.GraphValue(g, ins, w), asked, w, place)
			want(t, "GraphTable of many ways", impl.TableAt(x, ins), asked, w, place, one(ok))
		}
	}
}

// Of MaxBits inputs and MaxAnds ands, too, each place is as it should be.
func TestTheGreatestGraph(t *testing.T) {
	d := dice(92)
	g := drawNet(&d, impl.MaxBits, 4000)
	g.Ands = g.Ands[:impl.MaxAnds]
	isGraph(t, "the greatest", g, true)
	wires := []int{2, 24, 25, 26, drawWire(&d, g), drawWire(&d, g), lastWire(g), lastWire(g) + 1}
	tables := []table{}
	for _, w := range wires {
		x, ok := impl.GraphTable(g, w)
		if !ok || x.N != impl.MaxBits {
			t.Fatalf("GraphTable of the greatest is %s, %v", short(x), ok)
		}
		tables = append(tables, x)
	}
	for place := range power(impl.MaxBits) {
		nodes := nodesAt(g, bitsAt(impl.MaxBits, place))
		for i, w := range wires {
			want(t, "GraphTable of the greatest", int(tables[i].Ones[place]-'0'), wireAt(nodes, w), w, place)
		}
	}
}

// wornNet is a graph with one number changed, or with one and put in twice, moved, turned or taken away.
func wornNet(d *dice, g graph) graph {
	g = copyOf(g)
	if len(g.Ands) == 0 || d.below(8) == 0 {
		g.Ins += d.below(5) - 2
		return g
	}
	i, j := d.below(len(g.Ands)), d.below(len(g.Ands))
	numbers := append(farNumbers(), 0, 1, 2, 3, 4, 5, wiresOf(g)-1, wiresOf(g), 2*(g.Ins+1+i), 2*(g.Ins+1+i)-1, g.Ands[i].A, g.Ands[i].B)
	switch d.below(6) {
	case 0:
		g.Ands[i].A = numbers[d.below(len(numbers))]
	case 1:
		g.Ands[i].B = numbers[d.below(len(numbers))]
	case 2:
		g.Ands[i] = g.Ands[j]
	case 3:
		g.Ands[i], g.Ands[j] = g.Ands[j], g.Ands[i]
	case 4:
		g.Ands[i].A, g.Ands[i].B = g.Ands[i].B, g.Ands[i].A
	default:
		g.Ands = slices.Delete(g.Ands, i, i+1)
	}
	return g
}

func TestWornGraphsAgainstModel(t *testing.T) {
	d := dice(93)
	var counts [2]int
	for range 6000 {
		g := wornNet(&d, drawNet(&d, d.below(impl.MaxBits+1), d.below(20)))
		asked := graphModel(g)
		counts[one(asked)]++
		isGraph(t, "worn", g, asked)
		if !asked {
			noAnswers(t, "worn", g, 2, 4, 3)
			noAnswers(t, "worn", g, 0, 1, 1)
			hasNoWire(t, "worn", g, make([]int, max(0, g.Ins)), d.below(8))
			continue
		}
		putTogether(t, "worn", g, drawWire(&d, g), drawWire(&d, g), drawWire(&d, g))
	}
	if slices.Min(counts[:]) < 1000 {
		t.Errorf("%v are too few", counts)
	}
}

// keptApart calls f, which answers a graph, with one that has spare room, and
// asks that nothing of it is written into, nor by what is done to the answer.
func keptApart(t *testing.T, name string, g graph, f func(g graph) (graph, int)) {
	t.Helper()
	room := append(slices.Clone(g.Ands), slices.Repeat([]and{{A: -7, B: -7}}, 9)...)
	before := slices.Clone(room)
	given := graph{Ins: g.Ins, Ands: room[:len(g.Ands)]}
	h, w := f(given)
	if !slices.Equal(room, before) {
		t.Fatalf("%s: the list of %s or its spare room has changed", name, shortGraph(g))
	}
	asked := copyOf(h)
	list := h.Ands[:cap(h.Ands)]
	for i := range list {
		list[i] = and{A: -9, B: -9}
	}
	if !slices.Equal(room, before) {
		t.Fatalf("%s: the answer shares the list of %s", name, shortGraph(g))
	}
	again, wire := f(given)
	makes(t, name+" a second time", again, wire, asked, w)
}

func TestGraphsWriteIntoNothing(t *testing.T) {
	keepsAll := func(d *dice, g graph) {
		x, a, b := drawWire(d, g), drawWire(d, g), drawWire(d, g)
		for _, w := range []int{a, 0, 1, b, -1, wiresOf(g)} {
			keptApart(t, "GraphAnd", g, func(g graph) (graph, int) { return impl.GraphAnd(g, w, b) })
			keptApart(t, "GraphOr", g, func(g graph) (graph, int) { return impl.GraphOr(g, w, b) })
			keptApart(t, "GraphIf", g, func(g graph) (graph, int) { return impl.GraphIf(g, x, w, b) })
			keptApart(t, "GraphIf", g, func(g graph) (graph, int) { return impl.GraphIf(g, w, a, b) })
		}
		ins := append(bitsAt(g.Ins, d.below(power(g.Ins))), -7, -7, -7)
		before := slices.Clone(ins)
		keptApart(t, "the others", g, func(g graph) (graph, int) {
			impl.GraphOk(g)
			impl.GraphTable(g, a)
			return graph{}, impl.GraphValue(g, ins[:g.Ins], a) + 2*impl.GraphSize(g, a)
		})
		isList(t, "the bits", ins, before...)
	}
	eachNet(94, keepsAll)
	d := dice(95)
	keepsAll(&d, fullNet(5, impl.MaxAnds))
	keepsAll(&d, fullNet(5, impl.MaxAnds-1))
	for _, g := range []graph{net(-1), net(13, 2, 4), net(2, 4, 2), net(1, 2, 3), net(2, 2, 4, 2, 4), fullNet(5, impl.MaxAnds+1)} {
		keptApart(t, "GraphAnd of what is none", g, func(g graph) (graph, int) { return impl.GraphAnd(g, 2, 4) })
		keptApart(t, "GraphOr of what is none", g, func(g graph) (graph, int) { return impl.GraphOr(g, 2, 4) })
		keptApart(t, "GraphIf of what is none", g, func(g graph) (graph, int) { return impl.GraphIf(g, 2, 4, 3) })
	}
	eachTable(96, func(x table) {
		g, w := impl.GraphOf(x)
		asked := copyOf(g)
		clear(g.Ands[:cap(g.Ands)])
		again, wire := impl.GraphOf(x)
		makes(t, "GraphOf a second time", again, wire, asked, w)
	})
}
