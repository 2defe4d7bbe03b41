package tests

import (
	"math"
	"slices"
	"testing"

	"loop.example/g00116/impl"
)

type node = impl.Node

// shapes tells for each Op which fields a node uses beside Op and W: small letters are parts.
func shapes() []string {
	return []string{
		"K", "K", "a", "ab", "ab", "ab", "ab", "ab", "ab", "ab", "ab", "ab", "ab",
		"ab", "ab", "ab", "ab", "Ka", "abc", "KaB", "KaB",
	}
}

func shapeOf(op int) string {
	if op < 0 || op >= len(shapes()) {
		return ""
	}
	return shapes()[op]
}

func field(n *node, name byte) *int {
	switch name {
	case 'K':
		return &n.K
	case 'A', 'a':
		return &n.A
	case 'B', 'b':
		return &n.B
	case 'C', 'c':
		return &n.C
	case 'W':
		return &n.W
	}
	return &n.Op
}

func partsModel(n node) []int {
	list := []int{}
	for _, c := range []byte(shapeOf(n.Op)) {
		if c >= 'a' {
			list = append(list, *field(&n, c))
		}
	}
	return list
}

func isQuantifier(n node) bool { return n.Op == impl.OpAll || n.Op == impl.OpSome }

func uses(n node, name byte) bool {
	for _, c := range []byte(shapeOf(n.Op)) {
		if c == name || c == name+'a'-'A' {
			return true
		}
	}
	return false
}

func rightModel(t []node, i int) bool {
	n := t[i]
	if n.Op < 0 || n.Op > 20 || n.W < 1 || n.W > 8 {
		return false
	}
	for _, c := range []byte("KABC") {
		if !uses(n, c) && *field(&n, c) != 0 {
			return false
		}
	}
	w := []int{}
	for _, p := range partsModel(n) {
		if p < 0 || p >= i {
			return false
		}
		w = append(w, t[p].W)
	}
	switch n.Op {
	case impl.OpConst:
		return n.K >= 0 && n.K < power(n.W)
	case impl.OpVar:
		return n.K >= 0 && n.K <= 7
	case impl.OpEq, impl.OpLess, impl.OpLessSigned:
		return n.W == 1 && w[0] == w[1]
	case impl.OpJoin:
		return n.W == w[0]+w[1]
	case impl.OpSlice:
		return n.K >= 0 && n.K < 8 && n.K+n.W <= w[0]
	case impl.OpIf:
		return w[0] == 1 && w[1] == n.W && w[2] == n.W
	case impl.OpAll, impl.OpSome:
		return n.W == 1 && w[0] == 1 && n.K >= 0 && n.K <= 7 && n.B >= 1 && n.B <= 8
	}
	for _, x := range w {
		if x != n.W {
			return false
		}
	}
	return true
}

func termModel(t []node) bool {
	for i := range t {
		if !rightModel(t, i) {
			return false
		}
	}
	return len(t) >= 1 && len(t) <= 80
}

// eachWay calls f for each way from the root with the places on it, its end last.
func eachWay(t []node, f func(way []int)) { goOn(t, []int{len(t) - 1}, f) }

func goOn(t []node, way []int, f func(way []int)) {
	f(way)
	for _, p := range partsModel(t[way[len(way)-1]]) {
		goOn(t, append(slices.Clone(way), p), f)
	}
}

// fewWays keeps the models, which go every way, to terms that they can go through.
func fewWays(t []node) bool {
	ways := make([]int, len(t))
	for i, n := range t {
		ways[i] = 1
		for _, p := range partsModel(n) {
			ways[i] = min(ways[i]+ways[p], 3000)
		}
	}
	return ways[len(t)-1] < 3000
}

func inOrder(set map[int]int) []int {
	list := []int{}
	for x := range set {
		list = append(list, x)
	}
	slices.Sort(list)
	return list
}

func reachedModel(t []node) []int {
	set := map[int]int{}
	eachWay(t, func(way []int) { set[way[len(way)-1]] = 1 })
	return inOrder(set)
}

func freeModel(t []node) []int {
	set := map[int]int{}
	eachWay(t, func(way []int) {
		end := t[way[len(way)-1]]
		if end.Op != impl.OpVar {
			return
		}
		for _, i := range way {
			if isQuantifier(t[i]) && t[i].K == end.K {
				return
			}
		}
		set[end.K] = 1
	})
	return inOrder(set)
}

// sentenceModel asks that t is a term.
func sentenceModel(t []node) bool {
	ok := t[len(t)-1].W == 1 && len(freeModel(t)) == 0
	var met [8]int
	var width [8]int
	eachWay(t, func(way []int) {
		end := t[way[len(way)-1]]
		if !isQuantifier(end) {
			return
		}
		met[end.K]++
		width[end.K] = end.B
		for _, i := range way {
			op := t[i].Op
			ok = ok && (op == impl.OpNot || op == impl.OpAnd || op == impl.OpOr || isQuantifier(t[i]))
		}
	})
	eachWay(t, func(way []int) {
		end := t[way[len(way)-1]]
		ok = ok && (end.Op != impl.OpVar || end.W == width[end.K])
	})
	return ok && slices.Max(met[:]) <= 1
}

func bitsModel(t []node) int {
	sum := 0
	for _, i := range reachedModel(t) {
		if isQuantifier(t[i]) {
			sum += t[i].B
		}
	}
	return sum
}

// dice is a row of numbers that is the same in every run.
type dice uint64

func (d *dice) below(n int) int {
	*d = *d*6364136223846793005 + 1442695040888963407
	return int(uint64(*d) >> 33 % uint64(n))
}

// wideNode picks a node of width w from those ahead, or a variable of that width.
func wideNode(d *dice, t []node, w int) ([]node, int) {
	for range 6 {
		if i := len(t) - 1 - d.below(len(t)); t[i].W == w {
			return t, i
		}
	}
	return append(t, node{Op: impl.OpVar, W: w, K: d.below(8)}), len(t)
}

// drawNode puts a right node behind t, and what it needs ahead of it.
func drawNode(d *dice, t []node, op int) []node {
	n := node{Op: op, W: 1 + d.below(3)}
	switch op {
	case impl.OpConst:
		n.K = d.below(power(n.W))
	case impl.OpVar:
		n.K = d.below(8)
	case impl.OpEq, impl.OpLess, impl.OpLessSigned:
		t, n.A = wideNode(d, t, n.W)
		t, n.B = wideNode(d, t, n.W)
		n.W = 1
	case impl.OpJoin:
		v := 1 + d.below(3)
		t, n.A = wideNode(d, t, n.W)
		t, n.B = wideNode(d, t, v)
		n.W += v
	case impl.OpSlice:
		w := n.W + d.below(3)
		n.K = d.below(w - n.W + 1)
		t, n.A = wideNode(d, t, w)
	case impl.OpIf:
		t, n.A = wideNode(d, t, 1)
		t, n.B = wideNode(d, t, n.W)
		t, n.C = wideNode(d, t, n.W)
	case impl.OpAll, impl.OpSome:
		n.W, n.K, n.B = 1, d.below(8), 1+d.below(3)
		t, n.A = wideNode(d, t, 1)
	default:
		if op <= impl.OpOr && d.below(3) > 0 {
			n.W = 1
		}
		t, n.A = wideNode(d, t, n.W)
		if op != impl.OpNot {
			t, n.B = wideNode(d, t, n.W)
		}
	}
	return append(t, n)
}

// closed is t with a quantifier behind it for each free variable, of the width of its first node.
func closed(d *dice, t []node) []node {
	if t[len(t)-1].W != 1 {
		t = append(t, node{Op: impl.OpEq, W: 1, A: len(t) - 1, B: len(t) - 1})
	}
	for _, v := range freeModel(t) {
		i := slices.IndexFunc(t, func(n node) bool { return n.Op == impl.OpVar && n.K == v })
		t = append(t, node{Op: impl.OpAll + d.below(2), W: 1, K: v, A: len(t) - 1, B: t[i].W})
	}
	return t
}

// drawTerm is a term of some nodes, closed or not.
func drawTerm(d *dice) []node {
	for {
		t := []node{{Op: impl.OpVar, W: 1 + d.below(2), K: d.below(8)}}
		for range 1 + d.below(9) {
			op := d.below(21)
			if d.below(2) == 0 {
				op = []int{impl.OpNot, impl.OpAnd, impl.OpOr, impl.OpAll, impl.OpSome}[d.below(5)]
			}
			t = drawNode(d, t, op)
		}
		if fewWays(t) && d.below(3) > 0 {
			t = closed(d, t)
		}
		if fewWays(t) {
			return t
		}
	}
}

// twoTwos is: for every v0 of two bits there is a v1 of two bits with v0 + v1 = 0.
func twoTwos() []node {
	return []node{
		{Op: impl.OpVar, W: 2}, {Op: impl.OpVar, W: 2, K: 1}, {Op: impl.OpAdd, W: 2, A: 0, B: 1}, {Op: impl.OpConst, W: 2},
		{Op: impl.OpEq, W: 1, A: 2, B: 3}, {Op: impl.OpSome, W: 1, K: 1, A: 4, B: 2}, {Op: impl.OpAll, W: 1, A: 5, B: 2},
	}
}

func variable(k, w int) node { return node{Op: impl.OpVar, W: w, K: k} }

func constant(k, w int) node { return node{Op: impl.OpConst, W: w, K: k} }

func all(k, w, a int) node { return node{Op: impl.OpAll, W: 1, K: k, A: a, B: w} }

func some(k, w, a int) node { return node{Op: impl.OpSome, W: 1, K: k, A: a, B: w} }

func not(a int) node { return node{Op: impl.OpNot, W: 1, A: a} }

func two(op, a, b int) node { return node{Op: op, W: 1, A: a, B: b} }

func isTerm(t *testing.T, name string, x []node, asked bool) {
	t.Helper()
	if impl.TermOk(x) != asked {
		t.Errorf("%s: TermOk is not %v: %v", name, asked, x)
	}
}

func isSentence(t *testing.T, name string, x []node, asked bool) {
	t.Helper()
	if !impl.TermOk(x) {
		t.Errorf("%s is no term", name)
	}
	if impl.Sentence(x) != asked {
		t.Errorf("%s: Sentence is not %v: %v", name, asked, x)
	}
	if impl.Sentence(impl.Prune(x)) != asked {
		t.Errorf("%s: Sentence is not %v once it is pruned: %v", name, asked, x)
	}
}

func isList(t *testing.T, name string, got []int, asked ...int) {
	t.Helper()
	if !slices.Equal(got, asked) {
		t.Errorf("%s is %v, not %v", name, got, asked)
	}
}

func TestNumbersOfOperators(t *testing.T) {
	isList(t, "the operators", []int{
		impl.OpConst, impl.OpVar, impl.OpNot, impl.OpAnd, impl.OpOr, impl.OpXor, impl.OpAdd, impl.OpSub, impl.OpMul,
		impl.OpDiv, impl.OpRem, impl.OpShl, impl.OpShr, impl.OpEq, impl.OpLess, impl.OpLessSigned, impl.OpJoin,
		impl.OpSlice, impl.OpIf, impl.OpAll, impl.OpSome,
	}, 0, 1, 2, 3, 4, 5, 6, 7, 8, 9, 10, 11, 12, 13, 14, 15, 16, 17, 18, 19, 20)
	want(t, "MaxNodes", impl.MaxNodes, 80)
	want(t, "MaxVars", impl.MaxVars, 8)
}

func TestSentenceOfTwoQuantifiers(t *testing.T) {
	x := twoTwos()
	isSentence(t, "two twos", x, true)
	want(t, "Bits", impl.Bits(x), 4)
	isList(t, "Reached", impl.Reached(x), 0, 1, 2, 3, 4, 5, 6)
	isList(t, "Free of all", impl.Free(x))
	isList(t, "Free below one", impl.Free(x[:6]), 0)
	isList(t, "Free below both", impl.Free(x[:5]), 0, 1)
	isList(t, "Reached of a constant", impl.Reached(x[:4]), 3)
	isSentence(t, "what one of them is over", x[:6], false)
	want(t, "Bits of no sentence", impl.Bits(x[:6]), 0)
}

func TestHowManyNodes(t *testing.T) {
	isTerm(t, "nil", nil, false)
	isTerm(t, "no nodes", []node{}, false)
	x := []node{constant(1, 1)}
	isSentence(t, "one node", x, true)
	for len(x) < impl.MaxNodes {
		x = append(x, not(len(x)-1))
	}
	isSentence(t, "MaxNodes", x, true)
	want(t, "how many are reached", len(impl.Reached(x)), impl.MaxNodes)
	want(t, "how many are left", len(impl.Prune(x)), impl.MaxNodes)
	x = append(x, not(len(x)-1))
	isTerm(t, "one more", x, false)
	// of one more, the last alone would be reached
	x[len(x)-1] = constant(1, 1)
	isTerm(t, "one more that is not needed", x, false)
	if impl.Sentence(x) || len(impl.Prune(x)) != 0 || len(impl.Reached(x)) != 0 || len(impl.Free(x)) != 0 {
		t.Error("one more is answered")
	}
}

func TestManyWaysEnd(t *testing.T) {
	x := []node{variable(0, 1)}
	for len(x) < impl.MaxNodes-1 {
		x = append(x, node{Op: impl.OpIf, W: 1, A: len(x) - 1, B: len(x) - 1, C: len(x) - 1})
	}
	isList(t, "Free through 3^78 ways", impl.Free(x), 0)
	x = append(x, all(0, 1, len(x)-1))
	isSentence(t, "3^78 ways", x, true)
	want(t, "Bits", impl.Bits(x), 1)
	want(t, "how many are reached", len(impl.Reached(x)), impl.MaxNodes)
	if !slices.Equal(impl.Prune(x), x) {
		t.Error("Prune of what is reached as a whole")
	}
}

func TestNumbersOfVariables(t *testing.T) {
	for _, k := range []int{0, 1, 6, 7} {
		x := []node{variable(k, 1)}
		isList(t, "Free", impl.Free(x), k)
		isSentence(t, "a variable", x, false)
		isSentence(t, "all", append(x, all(k, 1, 0)), true)
		isSentence(t, "some", append(x, some(k, 1, 0)), true)
		for u := range 8 {
			isSentence(t, "a quantifier of another", append(x, all(u, 1, 0)), u == k)
		}
	}
	for _, k := range append(farNumbers(), 8, 9, 15, 16, 63, 64) {
		isTerm(t, "a variable", []node{variable(k, 1)}, false)
		isTerm(t, "all", []node{constant(1, 1), all(k, 1, 0)}, false)
		isTerm(t, "some", []node{constant(1, 1), some(k, 1, 0)}, false)
	}
}

func TestWidthsOfNodes(t *testing.T) {
	for _, w := range append(noWidths(), 1, 2, 7, 8) {
		ok := w >= 1 && w <= 8
		isTerm(t, "a constant", []node{constant(0, w)}, ok)
		isTerm(t, "a variable", []node{variable(0, w)}, ok)
		isTerm(t, "a denial", []node{variable(0, w), {Op: impl.OpNot, W: w}}, ok)
		isTerm(t, "all", []node{constant(0, 1), all(0, w, 0)}, ok)
		isTerm(t, "some", []node{constant(0, 1), some(0, w, 0)}, ok)
		isTerm(t, "all of another width", []node{constant(0, 1), {Op: impl.OpAll, W: w, B: 1}}, w == 1)
		for op := impl.OpNot; op <= impl.OpSome; op++ {
			if op == impl.OpSlice || op == impl.OpIf {
				continue
			}
			x := []node{variable(0, 1), {Op: op, W: w}}
			if isQuantifier(x[1]) {
				x[1].B = 1
			}
			isTerm(t, "of parts of width 1", x, op == impl.OpJoin && w == 2 || op != impl.OpJoin && w == 1)
		}
	}
	for w := 1; w <= 8; w++ {
		isTerm(t, "the greatest word", []node{constant(power(w)-1, w)}, true)
		isTerm(t, "one above it", []node{constant(power(w), w)}, false)
		isTerm(t, "one below 0", []node{constant(-1, w)}, false)
	}
}

func TestWidthsOfParts(t *testing.T) {
	d := dice(7)
	for a := 1; a <= 8; a++ {
		for b := 1; b <= 8; b++ {
			for op := impl.OpNot; op <= impl.OpSome; op++ {
				x := []node{variable(0, a), variable(1, b), variable(2, 1+d.below(8)), {Op: op}}
				for w := 0; w <= 17; w++ {
					n := node{Op: op, W: w}
					for i, c := range []byte("abc") {
						if uses(n, c-'a'+'A') {
							*field(&n, c) = i
						}
					}
					x[3] = n
					isTerm(t, "widths", x, termModel(x))
				}
			}
			x := []node{variable(0, a), variable(1, b), {Op: impl.OpJoin, W: a + b, B: 1}}
			isTerm(t, "a join", x, a+b <= 8)
		}
	}
}

func TestSlices(t *testing.T) {
	for w := 1; w <= 8; w++ {
		for _, n := range append(farNumbers(), 0, 1, 2, 3, 4, 5, 6, 7, 8, 9) {
			for _, k := range append(farNumbers(), 0, 1, 2, 3, 4, 5, 6, 7, 8, 9) {
				x := []node{variable(0, w), {Op: impl.OpSlice, W: n, K: k}}
				isTerm(t, "a slice", x, k >= 0 && k < 8 && n >= 1 && n <= 8 && k+n <= w)
			}
		}
	}
}

func TestIfs(t *testing.T) {
	x := []node{variable(0, 1), variable(1, 3), variable(2, 3), {Op: impl.OpIf, W: 3, A: 0, B: 1, C: 2}}
	isTerm(t, "an if", x, true)
	isList(t, "its parts", impl.Parts(x[3]), 0, 1, 2)
	for _, n := range []node{{W: 3, A: 1, B: 1, C: 2}, {W: 3, A: 0, B: 0, C: 2}, {W: 3, A: 0, B: 1, C: 0}, {W: 1, A: 0, B: 1, C: 2}, {W: 3, K: 1, A: 0, B: 1, C: 2}} {
		n.Op = impl.OpIf
		x[3] = n
		isTerm(t, "a wrong if", x, false)
	}
}

func TestOperatorsThatThereAreNot(t *testing.T) {
	for _, op := range append(farNumbers(), 21, 22, 100) {
		isTerm(t, "no such operator", []node{{Op: op, W: 1}}, false)
		isTerm(t, "no such operator behind", []node{variable(0, 1), {Op: op, W: 1}}, false)
		isTerm(t, "no such operator, not reached", []node{{Op: op, W: 1}, constant(1, 1)}, false)
		isList(t, "its parts", impl.Parts(node{Op: op, W: 1, K: 2, A: 3, B: 4, C: 5}))
	}
}

func TestPartsOfAnyNode(t *testing.T) {
	for op := -3; op < 30; op++ {
		for _, x := range append(farNumbers(), 0, 1, 5) {
			n := node{Op: op, W: x, K: x + 1, A: x, B: x + 2, C: x + 3}
			isList(t, "Parts", impl.Parts(n), partsModel(n)...)
		}
	}
}

// A part must stand ahead, whichever of a node's parts it is.
func TestPlacesOfParts(t *testing.T) {
	ahead := []node{variable(0, 1), variable(1, 1), constant(1, 1)}
	for op := impl.OpNot; op <= impl.OpSome; op++ {
		n := node{Op: op, W: 1}
		if op == impl.OpJoin {
			n.W = 2
		}
		if isQuantifier(n) {
			n.B = 1
		}
		for _, c := range []byte("abc") {
			if !slices.Contains([]byte(shapes()[op]), c) {
				continue
			}
			for _, p := range append(farNumbers(), -1, 0, 1, 2, 3, 4, 5, 79, 80) {
				m := n
				*field(&m, c) = p
				x := append(slices.Clone(ahead), m, constant(0, 1), constant(1, 1))
				isTerm(t, "a part's place", x, p >= 0 && p <= 2)
			}
		}
	}
}

func TestWhatANodeHasNoUseFor(t *testing.T) {
	for op := 0; op <= 20; op++ {
		n := node{Op: op, W: 1}
		if op == impl.OpJoin {
			n.W = 2
		}
		if isQuantifier(n) {
			n.B = 1
		}
		ahead := []node{variable(0, 1), constant(1, 1)}
		isTerm(t, "a right node", append(ahead, n), true)
		for _, c := range []byte("KABC") {
			if uses(n, c) {
				continue
			}
			for _, v := range append(farNumbers(), 1) {
				m := n
				*field(&m, c) = v
				isTerm(t, "of no use, but not 0", append(slices.Clone(ahead), m), false)
				isTerm(t, "of no use, but not 0, not reached", append(slices.Clone(ahead), m, constant(1, 1)), false)
			}
		}
	}
}

// Every field of every node, at the least and greatest numbers and small ones.
func TestAnyNumberInAnyField(t *testing.T) {
	d := dice(3)
	wrong, right := 0, 0
	for range 300 {
		x := drawTerm(&d)
		i := d.below(len(x))
		for _, c := range []byte("OWKABC") {
			for _, v := range append(farNumbers(), 0, 1, 2, 3, 4, 7, 8, 9, 20, 21, math.MinInt, math.MaxInt) {
				y := slices.Clone(x)
				*field(&y[i], c) = v
				ok := termModel(y)
				isTerm(t, "a changed field", y, ok)
				if ok {
					right++
					continue
				}
				wrong++
				if len(impl.Reached(y)) != 0 || len(impl.Free(y)) != 0 || impl.Sentence(y) || impl.Bits(y) != 0 || len(impl.Prune(y)) != 0 {
					t.Fatalf("what is no term is answered: %v", y)
				}
			}
		}
	}
	if wrong < 1000 || right < 1000 {
		t.Errorf("%d wrong and %d right terms are too few", wrong, right)
	}
}

func TestFreeOnOneWay(t *testing.T) {
	x := []node{variable(3, 1), all(3, 1, 0), two(impl.OpAnd, 1, 0)}
	isList(t, "bound on one way, free on another", impl.Free(x), 3)
	isSentence(t, "bound on one way, free on another", x, false)
	x[2] = two(impl.OpOr, 0, 1)
	isList(t, "free on one way, bound on another", impl.Free(x), 3)
	isSentence(t, "free on one way, bound on another", x, false)
	isSentence(t, "bound again", append(x, some(3, 1, 2)), false)
	x[2] = not(1)
	isList(t, "bound on every way", impl.Free(x))
	isSentence(t, "bound on every way", x, true)
}

// A quantifier takes its own variable from those that are free, and no other.
func TestQuantifierTakesItsVariable(t *testing.T) {
	for v := range 8 {
		x := []node{variable(0, 1)}
		for k := 1; k < 8; k++ {
			x = append(x, variable(k, 1), two(impl.OpXor, len(x)-1, len(x)))
		}
		isList(t, "all are free", impl.Free(x), 0, 1, 2, 3, 4, 5, 6, 7)
		for _, q := range []node{all(v, 1, len(x)-1), some(v, 5, len(x)-1)} {
			rest := slices.DeleteFunc(inOrder(map[int]int{0: 1, 1: 1, 2: 1, 3: 1, 4: 1, 5: 1, 6: 1, 7: 1}), func(k int) bool { return k == v })
			isList(t, "all but one", impl.Free(append(x, q)), rest...)
		}
	}
	d := dice(11)
	for range 500 {
		x := drawTerm(&d)
		if x[len(x)-1].W != 1 {
			continue
		}
		for v := range 8 {
			asked := slices.DeleteFunc(freeModel(x), func(k int) bool { return k == v })
			isList(t, "Free below a quantifier", impl.Free(append(slices.Clone(x), all(v, 1+d.below(8), len(x)-1))), asked...)
		}
	}
}

func TestWhatIsNotReached(t *testing.T) {
	x := []node{
		variable(5, 3), constant(9, 4), variable(0, 1), all(0, 7, 2), some(0, 2, 2),
		{Op: impl.OpEq, W: 1, A: 3, B: 4}, variable(1, 2), {Op: impl.OpEq, W: 1, A: 6, B: 6}, two(impl.OpXor, 3, 3), all(1, 2, 7),
	}
	isSentence(t, "free variables and quantifiers that are not reached", x, true)
	want(t, "Bits", impl.Bits(x), 2)
	isList(t, "Free", impl.Free(x))
	isList(t, "Reached", impl.Reached(x), 6, 7, 9)
	asked := []node{variable(1, 2), {Op: impl.OpEq, W: 1, A: 0, B: 0}, all(1, 2, 1)}
	if got := impl.Prune(x); !slices.Equal(got, asked) {
		t.Errorf("Prune is %v", got)
	}
	// B of a quantifier is a width: it stays when places move
	y := []node{constant(0, 1), constant(0, 1), constant(0, 1), variable(0, 2), constant(1, 2), {Op: impl.OpEq, W: 1, A: 3, B: 4}, all(0, 2, 5)}
	asked = []node{variable(0, 2), constant(1, 2), {Op: impl.OpEq, W: 1, A: 0, B: 1}, all(0, 2, 2)}
	if got := impl.Prune(y); !slices.Equal(got, asked) {
		t.Errorf("Prune is %v", got)
	}
	z := append(y, variable(7, 1))
	isSentence(t, "a sentence that is not reached", z, false)
	isList(t, "Free of the root alone", impl.Free(z), 7)
}

func TestPruneOfEachPart(t *testing.T) {
	x := []node{constant(1, 1), variable(0, 1), constant(0, 2), variable(1, 2), constant(0, 1), variable(2, 2), {Op: impl.OpIf, W: 2, A: 1, B: 5, C: 3}}
	asked := []node{variable(0, 1), variable(1, 2), variable(2, 2), {Op: impl.OpIf, W: 2, A: 0, B: 2, C: 1}}
	if got := impl.Prune(x); !slices.Equal(got, asked) {
		t.Errorf("Prune is %v", got)
	}
	// what a node has no use for stays 0, whatever place 0 has become
	y := []node{constant(1, 1), variable(0, 3), {Op: impl.OpSlice, W: 1, K: 2, A: 1}, not(2)}
	asked = []node{variable(0, 3), {Op: impl.OpSlice, W: 1, K: 2, A: 0}, not(1)}
	if got := impl.Prune(y); !slices.Equal(got, asked) {
		t.Errorf("Prune is %v", got)
	}
}

func TestTwoQuantifiersOfOneVariable(t *testing.T) {
	x := []node{variable(0, 1), all(0, 1, 0), all(0, 1, 1)}
	isSentence(t, "one below the other", x, false)
	x[2] = some(0, 1, 1)
	isSentence(t, "some above all", x, false)
	x[2] = some(1, 1, 1)
	isSentence(t, "another variable's", x, true)
	y := []node{variable(0, 1), all(0, 1, 0), some(0, 1, 0), two(impl.OpAnd, 1, 2)}
	isSentence(t, "one beside the other", y, false)
	y[2] = constant(1, 1)
	isSentence(t, "one alone", y, true)
	z := []node{constant(1, 1), all(0, 1, 0), all(0, 1, 1)}
	isSentence(t, "two of a variable that is nowhere", z, false)
	z[2] = all(1, 1, 1)
	isSentence(t, "two of two variables that are nowhere", z, true)
	want(t, "Bits", impl.Bits(z), 2)
}

func TestQuantifierOfAnotherWidth(t *testing.T) {
	for w := 1; w <= 8; w++ {
		for v := 1; v <= 8; v++ {
			x := []node{variable(2, w), {Op: impl.OpEq, W: 1}, some(2, v, 1)}
			isSentence(t, "widths", x, v == w)
			asked := 0
			if v == w {
				asked = w
			}
			want(t, "Bits", impl.Bits(x), asked, w, v)
			y := []node{variable(2, w), variable(2, v), {Op: impl.OpEq, W: 1}, {Op: impl.OpEq, W: 1, A: 1, B: 1}, two(impl.OpAnd, 2, 3), some(2, w, 4)}
			isSentence(t, "a variable of two widths", y, v == w)
			y = append(y, x...)
			y[7].A, y[7].B, y[8].A = 6, 6, 7
			isSentence(t, "behind another that is not reached", y, v == w)
		}
	}
}

func TestQuantifierBelowEachOperator(t *testing.T) {
	holds := []int{impl.OpNot, impl.OpAnd, impl.OpOr, impl.OpAll, impl.OpSome}
	for op := impl.OpNot; op <= impl.OpSome; op++ {
		for _, c := range []byte("abc") {
			if !slices.Contains([]byte(shapes()[op]), c) {
				continue
			}
			n := node{Op: op, W: 1, A: 2, B: 2, C: 2}
			for _, u := range []byte("KABC") {
				if !uses(n, u) {
					*field(&n, u) = 0
				}
			}
			if op == impl.OpJoin {
				n.W = 2
			}
			if isQuantifier(n) {
				n.K, n.B = 1, 1
			}
			*field(&n, c) = 1
			x := []node{variable(0, 1), all(0, 1, 0), constant(1, 1), n}
			if op == impl.OpJoin {
				x = append(x, node{Op: impl.OpEq, W: 1, A: 3, B: 3})
			}
			isSentence(t, "a quantifier below", x, slices.Contains(holds, op))
			root := len(x) - 1
			isSentence(t, "one node above", append(slices.Clone(x), not(root)), slices.Contains(holds, op))
			isSentence(t, "below, with a connective between", append(slices.Clone(x[:3]), not(1), shifted(n, c, 3), node{Op: impl.OpEq, W: 1, A: 4, B: 4}), false)
			isSentence(t, "not reached below", append(slices.Clone(x), constant(1, 1)), true)
		}
	}
}

// shifted is n with another place for the part of that name.
func shifted(n node, name byte, p int) node {
	*field(&n, name) = p
	return n
}

func TestQuantifierThatIsTwoParts(t *testing.T) {
	q := []node{variable(0, 1), all(0, 1, 0)}
	with := func(more ...node) []node { return append(slices.Clone(q), more...) }
	isSentence(t, "both parts of one", with(two(impl.OpAnd, 1, 1)), false)
	isSentence(t, "a part of two", with(not(1), two(impl.OpOr, 1, 2)), false)
	isSentence(t, "a part of one that is reached and one that is not", with(not(1), two(impl.OpXor, 1, 1), not(2)), true)
	isSentence(t, "a part of two that are above each other", with(some(1, 1, 1), two(impl.OpAnd, 2, 1)), false)
	// above the quantifier a part that is used twice would bring it to the front twice
	isSentence(t, "below what is two parts", with(not(1), two(impl.OpAnd, 2, 2)), false)
	isSentence(t, "below what is a part of two", with(not(1), not(2), two(impl.OpOr, 2, 3)), false)
	isSentence(t, "below what is a part of a comparison too", with(not(1), two(impl.OpEq, 2, 2), two(impl.OpOr, 2, 3)), false)
	isSentence(t, "below what is a part of one that is not reached too", with(not(1), not(2), not(2)), true)
	// below the quantifier all may be shared
	isSentence(t, "shared below", []node{variable(0, 1), two(impl.OpAnd, 0, 0), two(impl.OpXor, 1, 1), two(impl.OpMul, 2, 1), all(0, 1, 3)}, true)
	isSentence(t, "shared beside", []node{variable(0, 1), constant(1, 1), two(impl.OpOr, 0, 1), all(0, 1, 2), two(impl.OpAnd, 1, 3), two(impl.OpOr, 4, 1)}, true)
}

func TestRootsOfSentences(t *testing.T) {
	for w := 1; w <= 8; w++ {
		isSentence(t, "a constant", []node{constant(1, w)}, w == 1)
	}
	want(t, "Bits of no quantifier", impl.Bits([]node{constant(1, 1)}), 0)
	// a variable below no quantifier, of the width of one that is not above it
	isSentence(t, "beside its quantifier", []node{variable(0, 1), constant(1, 1), all(0, 1, 1), two(impl.OpAnd, 0, 2)}, false)
}

func TestBitsOfAllQuantifiers(t *testing.T) {
	x := []node{constant(1, 1)}
	sum := 0
	for k := range 8 {
		x = append(x, all(k, 8-k, len(x)-1))
		sum += 8 - k
		want(t, "Bits", impl.Bits(x), sum, k)
	}
	for k := range 8 {
		x[k+1].B = 8
	}
	want(t, "Bits at most", impl.Bits(x), 64)
}

func TestTermsAgainstModels(t *testing.T) {
	d := dice(1)
	yes, no := 0, 0
	for range 6000 {
		x := drawTerm(&d)
		isTerm(t, "a drawn term", x, true)
		isList(t, "Reached", impl.Reached(x), reachedModel(x)...)
		isList(t, "Free", impl.Free(x), freeModel(x)...)
		asked := sentenceModel(x)
		isSentence(t, "a drawn term", x, asked)
		bits := 0
		if asked {
			yes++
			bits = bitsModel(x)
		} else {
			no++
		}
		want(t, "Bits", impl.Bits(x), bits)
		if t.Failed() {
			t.Fatal(x)
		}
	}
	if yes < 500 || no < 500 {
		t.Errorf("%d sentences and %d others are too few", yes, no)
	}
}

// A pruned term has the same ways, node for node, and all of it is reached.
func TestPruneKeepsTheTerm(t *testing.T) {
	d := dice(2)
	shorter := 0
	for range 3000 {
		x := drawTerm(&d)
		y := impl.Prune(x)
		places := reachedModel(x)
		if len(y) < len(x) {
			shorter++
		}
		if len(y) != len(places) || !impl.TermOk(y) || len(impl.Reached(y)) != len(y) {
			t.Fatalf("Prune of %v is %v", x, y)
		}
		for i, n := range y {
			for _, c := range []byte(shapes()[n.Op]) {
				if c >= 'a' {
					*field(&n, c) = places[*field(&n, c)]
				}
			}
			if n != x[places[i]] {
				t.Fatalf("Prune of %v is %v", x, y)
			}
		}
		isList(t, "Free", impl.Free(y), impl.Free(x)...)
		want(t, "Bits", impl.Bits(y), impl.Bits(x))
		if !slices.Equal(impl.Prune(y), y) {
			t.Fatalf("Prune of %v again", y)
		}
	}
	if shorter < 500 {
		t.Errorf("%d terms that lose something are too few", shorter)
	}
}

// Nothing is written into a term nor behind it, and answers are memory of their own.
func TestTermsAreNotWrittenInto(t *testing.T) {
	d := dice(5)
	for round := range 1000 {
		x := drawTerm(&d)
		if round%4 == 0 {
			x[d.below(len(x))].W = 9
		}
		room := make([]node, len(x)+8)
		copy(room, x)
		for i := len(x); i < len(room); i++ {
			room[i] = node{Op: -7, W: -7, K: -7, A: -7, B: -7, C: -7}
		}
		before := slices.Clone(room)
		y := room[:len(x)]
		ok, sentence, bits := impl.TermOk(y), impl.Sentence(y), impl.Bits(y)
		pruned, reached, free := impl.Prune(y), impl.Reached(y), impl.Free(y)
		clear(pruned[:cap(pruned)])
		clear(reached[:cap(reached)])
		clear(free[:cap(free)])
		for _, n := range y {
			parts := impl.Parts(n)
			clear(parts[:cap(parts)])
		}
		if !slices.Equal(room, before) {
			t.Fatalf("%v has become %v", before, room)
		}
		if ok != impl.TermOk(y) || sentence != impl.Sentence(y) || bits != impl.Bits(y) {
			t.Fatalf("%v is answered otherwise a second time", y)
		}
		if !ok {
			continue
		}
		isList(t, "Reached again", impl.Reached(y), reachedModel(y)...)
		isList(t, "Free again", impl.Free(y), freeModel(y)...)
	}
}
