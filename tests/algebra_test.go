package tests

import (
	"fmt"
	"math"
	"slices"
	"testing"

	"loop.example/g00116/impl"
)

// prunedModel asks that x is a term.
func prunedModel(x []node) []node {
	places := reachedModel(x)
	out := []node{}
	for _, i := range places {
		n := x[i]
		for _, c := range []byte(shapeOf(n.Op)) {
			if c >= 'a' {
				*field(&n, c) = slices.Index(places, *field(&n, c))
			}
		}
		out = append(out, n)
	}
	return out
}

func hasVariable(n node) bool { return n.Op == impl.OpVar || isQuantifier(n) }

// numbersModel are the variables of all nodes, whether the root reaches them or not.
func numbersModel(x []node) []int {
	set := map[int]int{}
	for _, n := range x {
		if hasVariable(n) {
			set[n.K] = 1
		}
	}
	return inOrder(set)
}

func varsModel(x []node) []int { return numbersModel(prunedModel(x)) }

func levelModel(x []node) int {
	most := 0
	eachWay(x, func(way []int) { most = max(most, len(way)) })
	return most
}

func countModel(x []node, op int) int {
	count := 0
	for _, i := range reachedModel(x) {
		count += one(x[i].Op == op)
	}
	return count
}

func foldModel(x []node) []node {
	out := slices.Clone(x)
	for i, n := range out {
		parts, values := partsModel(n), [3]int{}
		foldable := len(parts) > 0 && !isQuantifier(n)
		for j, p := range parts {
			foldable = foldable && out[p].Op == impl.OpConst
			values[j] = out[p].K
		}
		if foldable {
			out[i] = constant(applyModel(n, out[n.A].W, values[0], values[1], values[2]), n.W)
		}
	}
	return prunedModel(out)
}

func renameModel(x []node, v, u int) ([]node, bool) {
	if u < 0 || u > 7 || u != v && slices.Contains(numbersModel(x), u) {
		return nil, false
	}
	out := slices.Clone(x)
	for i, n := range out {
		if hasVariable(n) && n.K == v {
			out[i].K = u
		}
	}
	return out, true
}

// outModel is what comes out, where it is a term.
func outModel(x []node) ([]node, bool) {
	if !termModel(x) {
		return nil, false
	}
	return x, true
}

// freePlaces are the nodes of variable v to which a way leads on which it is not quantified.
func freePlaces(x []node, v int) []int {
	set := map[int]int{}
	eachWay(x, func(way []int) {
		end := way[len(way)-1]
		if x[end].Op != impl.OpVar || x[end].K != v {
			return
		}
		for _, i := range way {
			if isQuantifier(x[i]) && x[i].K == v {
				return
			}
		}
		set[end] = 1
	})
	return inOrder(set)
}

func closeModel(x []node) ([]node, bool) {
	if x[len(x)-1].W != 1 {
		return nil, false
	}
	out := slices.Clone(x)
	for v := 7; v >= 0; v-- {
		if list := freePlaces(x, v); len(list) > 0 {
			out = append(out, all(v, x[list[0]].W, len(out)-1))
		}
	}
	return outModel(out)
}

func bothModel(a, b []node) ([]node, bool) {
	if !sentenceModel(a) || !sentenceModel(b) {
		return nil, false
	}
	taken := append(numbersModel(a), numbersModel(b)...)
	numbers := map[int]int{}
	for _, v := range numbersModel(b) {
		numbers[v] = v
		if !slices.Contains(numbersModel(a), v) {
			continue
		}
		u := 0
		for slices.Contains(taken, u) {
			u++
		}
		if u > 7 {
			return nil, false
		}
		numbers[v] = u
		taken = append(taken, u)
	}
	told := slices.Clone(b)
	for i, n := range told {
		if hasVariable(n) {
			told[i].K = numbers[n.K]
		}
	}
	out := putBehind(a, told...)
	return outModel(append(out, two(impl.OpAnd, len(a)-1, len(out)-1)))
}

// comesOut asks for a term and true, or for nothing and false.
func comesOut(t *testing.T, name string, got []node, ok bool, asked []node, right bool) {
	t.Helper()
	if ok != right || !slices.Equal(got, asked) {
		t.Fatalf("%s is %v, %v, not %v, %v", name, got, ok, asked, right)
	}
	if ok && !impl.TermOk(got) {
		t.Fatalf("%s is %v, which is no term", name, got)
	}
}

func comesTo(t *testing.T, name string, got []node, ok bool, asked []node) {
	t.Helper()
	comesOut(t, name, got, ok, asked, true)
}

func comesNot(t *testing.T, name string, got []node, ok bool) {
	t.Helper()
	comesOut(t, name, got, ok, nil, false)
}

// says asks for a value of 0 or 1 and true, or for 0 and false where asked is -1.
func says(t *testing.T, name string, v int, ok bool, asked int) {
	t.Helper()
	if v != max(asked, 0) || ok != (asked >= 0) {
		t.Fatalf("%s is %d, %v, not %d", name, v, ok, asked)
	}
}

func isValid(t *testing.T, name string, x []node, asked int) {
	t.Helper()
	v, ok := impl.Valid(x)
	says(t, name+": Valid", v, ok, asked)
}

func areEqual(t *testing.T, name string, a, b []node, asked int) {
	t.Helper()
	v, ok := impl.Equal(a, b)
	says(t, name+": Equal", v, ok, asked)
	v, ok = impl.Equal(b, a)
	says(t, name+": Equal the other way round", v, ok, asked)
}

func foldsTo(t *testing.T, text string, asked string) {
	t.Helper()
	x, ok := impl.Fold(term(t, text))
	if s, _ := impl.ShowTerm(x); !ok || s != asked {
		t.Fatalf("Fold of %s is %s, %v, not %s", text, s, ok, asked)
	}
}

// withConstants has constants for some of its variables, so that there is something to put together.
func withConstants(d *dice, x []node) []node {
	out := slices.Clone(x)
	for i, n := range out {
		if n.Op == impl.OpVar && d.below(3) > 0 {
			out[i] = constant(d.below(power(n.W)), n.W)
		}
	}
	return out
}

// fewVariables has v0 and v1 alone for its variables.
func fewVariables(x []node) []node {
	out := slices.Clone(x)
	for i, n := range out {
		if hasVariable(n) {
			out[i].K = n.K % 2
		}
	}
	return out
}

// drawAny is a term of one sort or another: closed, open, with constants, with few variables, a sentence.
func drawAny(d *dice) []node {
	switch d.below(5) {
	case 0:
		return withConstants(d, drawTerm(d))
	case 1:
		return fewVariables(drawTerm(d))
	case 2:
		return drawSentence(d)
	}
	return drawTerm(d)
}

// noTerms are lists that are not TermOk, some of them for what the root does not reach.
func noTerms() [][]node {
	x := twoTwos()
	list := [][]node{nil, {}, {{}}, {{Op: 21, W: 1}}, {{Op: -1, W: 1}}, {not(0)}, {all(0, 1, 0)}, {constant(2, 1)}, {variable(8, 1)}, {variable(-1, 1)}, {variable(0, 9)}, {variable(0, 0)}}
	for i := range x {
		for _, change := range []func(n *node){
			func(n *node) { n.W = 9 }, func(n *node) { n.W = 0 }, func(n *node) { n.Op = 21 }, func(n *node) { n.Op = -1 }, func(n *node) { n.C = 1 },
			func(n *node) { n.K = 8 }, func(n *node) { n.K = -1 }, func(n *node) { n.A = len(x) }, func(n *node) { n.A = -1 }, func(n *node) { n.A = math.MaxInt }, func(n *node) { n.A = math.MinInt },
		} {
			y := slices.Clone(x)
			change(&y[i])
			list = append(list, y, append(slices.Clone(y), constant(1, 1)))
		}
	}
	many := slices.Repeat([]node{constant(1, 1)}, impl.MaxNodes)
	return append(list, append(many, constant(1, 1)), append(many, not(79)), slices.Repeat(many, 1000))
}

// chain is a term of n nodes: a variable of one bit and denials.
func chain(v, n int) []node { return withDenials([]node{variable(v, 1)}, n-1) }

// closedChain is a sentence of n nodes.
func closedChain(v, n int) []node { return append(chain(v, n-1), some(v, 1, n-2)) }

func TestCountsOfTerms(t *testing.T) {
	x := twoTwos()
	isList(t, "Vars", impl.Vars(x), 0, 1)
	want(t, "Level", impl.Level(x), 5)
	for op, asked := range map[int]int{impl.OpVar: 2, impl.OpConst: 1, impl.OpAdd: 1, impl.OpEq: 1, impl.OpSome: 1, impl.OpAll: 1, impl.OpNot: 0, impl.OpSlice: 0} {
		want(t, "CountOp", impl.CountOp(x, op), asked, op)
	}
	// a quantifier of a variable that stands nowhere tells its number too
	isList(t, "Vars of idle quantifiers", impl.Vars([]node{constant(1, 1), all(7, 1, 0), some(2, 8, 1)}), 2, 7)
	isList(t, "Vars of all numbers", impl.Vars(nest(impl.OpAll, 1, 1, 1, 1, 1, 1, 1, 1)), 0, 1, 2, 3, 4, 5, 6, 7)
	isList(t, "Vars of one number in four nodes", impl.Vars([]node{variable(3, 2), variable(3, 1), {Op: impl.OpJoin, W: 3, A: 0, B: 1}, two(impl.OpEq, 2, 2), all(3, 2, 3)}), 3)
}

func TestTermsOfOneNode(t *testing.T) {
	for _, n := range []node{constant(0, 1), constant(255, 8), variable(0, 1), variable(7, 8), variable(3, 2)} {
		x := []node{n}
		want(t, "Level of one node", impl.Level(x), 1)
		for op := -1; op <= 21; op++ {
			want(t, "CountOp of one node", impl.CountOp(x, op), one(op == n.Op), op)
		}
		isList(t, "Vars of one node", impl.Vars(x), numbersModel(x)...)
		got, ok := impl.Fold(x)
		comesTo(t, "Fold of one node", got, ok, x)
		got, ok = impl.Deny(x)
		comesTo(t, "Deny of one node", got, ok, append(slices.Clone(x), node{Op: impl.OpNot, W: n.W}))
		got, ok = impl.Quantify(x, true, 3, 2)
		comesOut(t, "Quantify of one node", got, ok, append(slices.Clone(x), all(3, 2, 0))[:2*one(n.W == 1)], n.W == 1)
		if n.Op == impl.OpConst {
			areEqual(t, "one constant", x, x, 1)
		}
	}
	// equal for every word of eight bits
	areEqual(t, "one variable", []node{variable(7, 8)}, []node{variable(7, 8)}, 1)
	areEqual(t, "two variables", []node{variable(7, 6)}, []node{variable(5, 6)}, 0)
	isValid(t, "true", []node{constant(1, 1)}, 1)
	isValid(t, "false", []node{constant(0, 1)}, 0)
	isValid(t, "a variable", []node{variable(0, 1)}, 0)
	isValid(t, "a word", []node{constant(1, 2)}, -1)
}

func TestSharedParts(t *testing.T) {
	// four ways to one variable, on levels 2, 3 and 4
	x := []node{variable(2, 1), not(0), two(impl.OpXor, 0, 1), {Op: impl.OpIf, W: 1, A: 0, B: 2, C: 2}}
	want(t, "Level", impl.Level(x), 4)
	want(t, "one variable", impl.CountOp(x, impl.OpVar), 1)
	want(t, "one xor", impl.CountOp(x, impl.OpXor), 1)
	// nodes that are alike are two all the same
	y := []node{variable(2, 1), variable(2, 1), two(impl.OpAnd, 0, 1)}
	want(t, "two variables", impl.CountOp(y, impl.OpVar), 2)
	want(t, "Level", impl.Level(y), 2)
	// the longest way may lead through each of the parts
	for _, c := range []byte("abc") {
		z := []node{variable(0, 1), constant(1, 1), not(1), not(2), {Op: impl.OpIf, W: 1}}
		*field(&z[4], c) = 3
		want(t, "Level", impl.Level(z), 4)
	}
	// B of a quantifier is no part: here it would be node 3, of three levels
	want(t, "Level of a quantifier", impl.Level([]node{variable(0, 1), not(0), not(1), not(2), all(1, 3, 0)}), 2)
}

func TestManyWaysOfTerms(t *testing.T) {
	x := []node{variable(5, 1)}
	for len(x) < impl.MaxNodes {
		x = append(x, node{Op: impl.OpIf, W: 1, A: len(x) - 1, B: len(x) - 1, C: len(x) - 1})
	}
	want(t, "Level", impl.Level(x), 80)
	want(t, "CountOp", impl.CountOp(x, impl.OpIf), 79)
	isList(t, "Vars", impl.Vars(x), 5)
	got, ok := impl.Fold(x)
	comesTo(t, "Fold", got, ok, x)
	got, ok = impl.CloseAll(x[:79])
	comesTo(t, "CloseAll", got, ok, append(slices.Clone(x[:79]), all(5, 1, 78)))
	isValid(t, "3^78 ways", x[:79], 0)
	areEqual(t, "3^39 ways", x[:40], x[:38], 1)
	x[0] = constant(1, 1)
	got, ok = impl.Fold(x)
	comesTo(t, "Fold", got, ok, []node{constant(1, 1)})
}

// Nodes that the root does not reach, of all numbers but 6 and 7.
func idleNodes() []node {
	return []node{variable(2, 3), variable(3, 1), constant(1, 1), not(2), all(4, 8, 1), some(5, 2, 3), variable(0, 5), variable(1, 1)}
}

func TestWhatTheRootOfATermDoesNotReach(t *testing.T) {
	x := putBehind(idleNodes(), twoTwos()...)
	isList(t, "Vars", impl.Vars(x), 0, 1)
	want(t, "Level", impl.Level(x), 5)
	want(t, "CountOp", impl.CountOp(x, impl.OpVar), 2)
	want(t, "CountOp", impl.CountOp(x, impl.OpAll), 1)
	want(t, "CountOp", impl.CountOp(x, impl.OpNot), 0)
	got, ok := impl.Fold(x)
	comesTo(t, "Fold", got, ok, twoTwos())
	// a number that an unreached node alone has is taken, and is renamed
	for _, u := range []int{0, 2, 3, 4, 5} {
		got, ok = impl.Rename(x, 1, u)
		comesNot(t, fmt.Sprint("Rename to ", u), got, ok)
	}
	for _, u := range []int{6, 7} {
		got, ok = impl.Rename(x, 1, u)
		asked := slices.Clone(x)
		asked[7].K, asked[9].K, asked[13].K = u, u, u
		comesTo(t, fmt.Sprint("Rename to ", u), got, ok, asked)
	}
	got, ok = impl.Rename(x, 4, 7)
	asked := slices.Clone(x)
	asked[4].K = 7
	comesTo(t, "Rename of an idle one", got, ok, asked)
	got, ok = impl.Deny(x)
	comesTo(t, "Deny", got, ok, append(slices.Clone(x), not(14)))
	got, ok = impl.CloseAll(x)
	comesTo(t, "CloseAll", got, ok, x)
	isValid(t, "a sentence", x, 1)
	areEqual(t, "a sum", x[:11], twoTwos()[:3], 1)

	// in Both: idle nodes of one take numbers of the other, and there are none for all of them
	a, b := closedChain(6, 3), closedChain(7, 3)
	got, ok = impl.Both(putBehind(idleNodes(), a...), putBehind(idleNodes()[:1], b...))
	comesNot(t, "Both with every number taken", got, ok)
	got, ok = impl.Both(putBehind(idleNodes(), a...), b)
	comesTo(t, "Both", got, ok, append(putBehind(putBehind(idleNodes(), a...), b...), two(impl.OpAnd, 10, 13)))
	got, ok = impl.Both(b, putBehind(idleNodes(), a...))
	comesTo(t, "Both", got, ok, append(putBehind(b, putBehind(idleNodes(), a...)...), two(impl.OpAnd, 2, 13)))
	// the idle v0 of b is a's, and so has the first number that is left
	got, ok = impl.Both(closedChain(0, 3), putBehind([]node{variable(0, 8)}, closedChain(1, 3)...))
	comesTo(t, "Both", got, ok, []node{
		variable(0, 1), not(0), some(0, 1, 1), variable(2, 8), variable(1, 1), not(4), some(1, 1, 5), two(impl.OpAnd, 2, 6),
	})
	// the idle v1 of a makes b's v1 another, and an idle v2 of b makes it v3
	got, ok = impl.Both(putBehind([]node{variable(1, 8)}, closedChain(0, 3)...), putBehind([]node{variable(2, 8)}, closedChain(1, 3)...))
	comesTo(t, "Both", got, ok, []node{
		variable(1, 8), variable(0, 1), not(1), some(0, 1, 2), variable(2, 8), variable(3, 1), not(5), some(3, 1, 6), two(impl.OpAnd, 3, 7),
	})
}

func TestConstantsPutTogether(t *testing.T) {
	foldsTo(t, "(and (= (add #2:3 #2:1) #2:0) v0:1)", "(and #1:1 v0:1)")
	// each operator
	for text, asked := range map[string]string{
		"(not #3:5)": "#3:2", "(and #3:5 #3:6)": "#3:4", "(or #3:5 #3:6)": "#3:7", "(xor #3:5 #3:6)": "#3:3", "(add #3:5 #3:6)": "#3:3", "(sub #3:5 #3:6)": "#3:7", "(mul #3:5 #3:6)": "#3:6",
		"(div #3:7 #3:2)": "#3:3", "(div #3:5 #3:0)": "#3:7", "(rem #3:7 #3:2)": "#3:1", "(rem #3:5 #3:0)": "#3:5", "(shl #3:3 #3:1)": "#3:6", "(shl #3:3 #3:3)": "#3:0", "(shr #3:6 #3:1)": "#3:3",
		"(= #3:5 #3:5)": "#1:1", "(= #3:5 #3:4)": "#1:0", "(< #3:3 #3:4)": "#1:1", "(< #3:4 #3:3)": "#1:0", "(s< #3:3 #3:4)": "#1:0", "(s< #3:4 #3:3)": "#1:1",
		"(join #2:2 #3:5)": "#5:21", "(join #3:5 #2:2)": "#5:22", "(join #1:1 #7:0)": "#8:128", "(join #7:127 #1:0)": "#8:254", "(slice 1 2 #4:13)": "#2:2", "(slice 7 1 #8:128)": "#1:1",
		"(if #1:1 #3:5 #3:6)": "#3:5", "(if #1:0 #3:5 #3:6)": "#3:6",
	} {
		foldsTo(t, text, asked)
	}
	// constants at one part or two of several stay, also where they would settle it
	for _, text := range []string{
		"(and #1:0 v0:1)", "(and v0:1 #1:0)", "(or #1:1 v0:1)", "(mul #2:0 v0:2)", "(if #1:1 #1:1 v0:1)", "(if #1:0 v0:1 #1:1)", "(if v0:1 #1:1 #1:1)", "(= v0:1 v0:1)", "(sub v0:1 v0:1)", "(not (not v0:1))", "(slice 0 1 v0:2)", "v0:8", "#8:255",
	} {
		foldsTo(t, text, text)
	}
	foldsTo(t, "(add (add #2:1 #2:1) (add v0:2 (mul #2:3 #2:3)))", "(add #2:2 (add v0:2 #2:1))")
	foldsTo(t, "(if (< #2:1 #2:2) (not v0:1) (= #1:1 (slice 1 1 #2:2)))", "(if #1:1 (not v0:1) #1:1)")
	// a root that becomes a constant, from ever so far down
	foldsTo(t, "(not (not (not (not (= (join #1:1 (not #1:1)) (shl #2:1 #2:1))))))", "#1:1")
	// what is not a term's text
	if got, ok := impl.Fold(nil); ok || len(got) != 0 {
		t.Errorf("Fold of nothing is %v, %v", got, ok)
	}
}

// A quantifier stays one, and so does all that stands above it.
func TestConstantsBelowAQuantifier(t *testing.T) {
	foldsTo(t, "(all v0:2 #1:1)", "(all v0:2 #1:1)")
	foldsTo(t, "(some v0:2 (= (add #2:1 #2:1) #2:2))", "(some v0:2 #1:1)")
	foldsTo(t, "(not (all v0:2 (not #1:1)))", "(not (all v0:2 #1:0))")
	foldsTo(t, "(and (not #1:0) (not (some v1:1 (xor #1:1 #1:1))))", "(and #1:1 (not (some v1:1 #1:0)))")
	foldsTo(t, "(all v0:2 (some v1:2 (< #2:1 #2:3)))", "(all v0:2 (some v1:2 #1:1))")
	// B of a quantifier is no part: here it would be a node that is no constant
	x := []node{constant(1, 1), not(0), variable(0, 1), all(0, 2, 1)}
	got, ok := impl.Fold(x)
	comesTo(t, "Fold", got, ok, []node{constant(0, 1), all(0, 2, 0)})
	holds(t, "below a quantifier", x, 0)
	holds(t, "below a quantifier, folded", got, 0)
}

func TestFoldedLists(t *testing.T) {
	// the nodes that are left keep their order, and nodes that are alike stay two
	x := []node{constant(1, 2), variable(0, 2), constant(2, 2), {Op: impl.OpAdd, W: 2, A: 0, B: 2}, {Op: impl.OpAdd, W: 2, A: 2, B: 0}, {Op: impl.OpMul, W: 2, A: 3, B: 1}, {Op: impl.OpSub, W: 2, A: 5, B: 4}}
	got, ok := impl.Fold(x)
	comesTo(t, "Fold", got, ok, []node{variable(0, 2), constant(3, 2), constant(3, 2), {Op: impl.OpMul, W: 2, A: 1, B: 0}, {Op: impl.OpSub, W: 2, A: 3, B: 2}})
	// a constant that is a part of what is folded and of what is not stays
	y := []node{constant(3, 2), {Op: impl.OpNot, W: 2}, variable(1, 2), {Op: impl.OpShl, W: 2, A: 2, B: 0}, {Op: impl.OpXor, W: 2, A: 3, B: 1}}
	got, ok = impl.Fold(y)
	comesTo(t, "Fold", got, ok, []node{constant(3, 2), constant(0, 2), variable(1, 2), {Op: impl.OpShl, W: 2, A: 2, B: 0}, {Op: impl.OpXor, W: 2, A: 3, B: 1}})
}

func TestRename(t *testing.T) {
	x := twoTwos()
	got, ok := impl.Rename(x, 1, 5)
	asked := slices.Clone(x)
	asked[1].K, asked[5].K = 5, 5
	comesTo(t, "Rename", got, ok, asked)
	holds(t, "renamed", got, 1)
	got, ok = impl.Rename(x, 1, 0)
	comesNot(t, "Rename to a number that is taken", got, ok)
	for _, v := range []int{0, 1} {
		got, ok = impl.Rename(x, v, v)
		comesTo(t, "Rename to the same number", got, ok, x)
		got, ok = impl.Rename(x, v, impl.MaxVars-1)
		asked, _ := renameModel(x, v, 7)
		comesTo(t, "Rename to MaxVars - 1", got, ok, asked)
		isList(t, "Vars", impl.Vars(got), 1-v, 7)
		for _, u := range append(farNumbers(), impl.MaxVars, impl.MaxVars+1) {
			got, ok = impl.Rename(x, v, u)
			comesNot(t, fmt.Sprint("Rename to ", u), got, ok)
		}
	}
	// a variable that is not there: t as it is, unless the new number is taken or none
	for _, v := range append(farNumbers(), 2, 7, 8, 9) {
		got, ok = impl.Rename(x, v, 3)
		comesTo(t, fmt.Sprint("Rename of ", v), got, ok, x)
		got, ok = impl.Rename(x, v, 1)
		comesNot(t, fmt.Sprint("Rename of ", v), got, ok)
		got, ok = impl.Rename(x, v, 8)
		comesNot(t, fmt.Sprint("Rename of ", v), got, ok)
		got, ok = impl.Rename(x, v, v)
		comesOut(t, fmt.Sprint("Rename to itself of ", v), got, ok, x[:len(x)*one(v == 2 || v == 7)], v == 2 || v == 7)
	}
	// K of a constant and of a slice is no variable's
	y := []node{constant(3, 2), variable(3, 4), {Op: impl.OpSlice, W: 1, K: 3, A: 1}, all(3, 4, 2), some(2, 3, 3)}
	got, ok = impl.Rename(y, 3, 6)
	comesTo(t, "Rename of a variable alone", got, ok, []node{constant(3, 2), variable(6, 4), y[2], all(6, 4, 2), y[4]})
	got, ok = impl.Rename([]node{constant(3, 2), variable(1, 2), {Op: impl.OpAdd, W: 2, A: 0, B: 1}}, 1, 3)
	comesTo(t, "Rename to a constant's number", got, ok, []node{constant(3, 2), variable(3, 2), {Op: impl.OpAdd, W: 2, A: 0, B: 1}})
	// all widths of a variable
	z := []node{variable(0, 1), variable(0, 2), {Op: impl.OpJoin, W: 3, A: 0, B: 1}}
	got, ok = impl.Rename(z, 0, 1)
	comesTo(t, "Rename of two widths", got, ok, []node{variable(1, 1), variable(1, 2), z[2]})
}

func TestDenyAndQuantify(t *testing.T) {
	x := twoTwos()
	got, ok := impl.Deny(x)
	comesTo(t, "Deny", got, ok, append(slices.Clone(x), not(6)))
	holds(t, "denied", got, 0)
	got, ok = impl.Deny(x[:3])
	comesTo(t, "Deny of a word", got, ok, append(slices.Clone(x[:3]), node{Op: impl.OpNot, W: 2, A: 2}))
	env := noughts()
	env[0], env[1] = 1, 1
	isWorth(t, "a word denied", got, env, 1)
	for _, isAll := range []bool{true, false} {
		got, ok = impl.Quantify(x[:5], isAll, 1, 2)
		comesTo(t, "Quantify", got, ok, append(slices.Clone(x[:5]), node{Op: impl.OpSome - one(isAll), W: 1, K: 1, A: 4, B: 2}))
		isList(t, "Free", impl.Free(got), 0)
		for v := range impl.MaxVars {
			for w := 1; w <= impl.MaxWidth; w++ {
				got, ok = impl.Quantify(x, isAll, v, w)
				comesTo(t, "Quantify", got, ok, append(slices.Clone(x), node{Op: impl.OpSome - one(isAll), W: 1, K: v, A: 6, B: w}))
			}
		}
		for _, v := range append(farNumbers(), impl.MaxVars) {
			got, ok = impl.Quantify(x, isAll, v, 1)
			comesNot(t, fmt.Sprint("Quantify of ", v), got, ok)
		}
		for _, w := range noWidths() {
			got, ok = impl.Quantify(x, isAll, 0, w)
			comesNot(t, fmt.Sprint("Quantify of ", w, " bits"), got, ok)
		}
		got, ok = impl.Quantify(x[:3], isAll, 0, 2)
		comesNot(t, "Quantify of a word", got, ok)
	}
}

func TestCloseAll(t *testing.T) {
	x := twoTwos()
	got, ok := impl.CloseAll(x[:5])
	comesTo(t, "CloseAll", got, ok, append(slices.Clone(x[:5]), all(1, 2, 4), all(0, 2, 5)))
	got, ok = impl.CloseAll(x[:6])
	comesTo(t, "CloseAll of one", got, ok, append(slices.Clone(x[:6]), all(0, 2, 5)))
	got, ok = impl.CloseAll(x)
	comesTo(t, "CloseAll with none free", got, ok, x)
	for _, n := range []int{1, 2, 3, 4} {
		got, ok = impl.CloseAll(x[:n])
		comesNot(t, "CloseAll of a word", got, ok)
		isValid(t, "a word", x[:n], -1)
	}
	got, ok = impl.CloseAll([]node{constant(1, 1)})
	comesTo(t, "CloseAll of a constant", got, ok, []node{constant(1, 1)})
	got, ok = impl.CloseAll([]node{constant(1, 2)})
	comesNot(t, "CloseAll of a constant of two bits", got, ok)
	// all eight, the greatest number innermost
	y := []node{variable(3, 1)}
	for _, v := range []int{7, 0, 5, 2, 6, 1, 4} {
		y = append(y, variable(v, 1), two(impl.OpOr, len(y)-1, len(y)))
	}
	asked := slices.Clone(y)
	for v := 7; v >= 0; v-- {
		asked = append(asked, all(v, 1, len(asked)-1))
	}
	got, ok = impl.CloseAll(y)
	comesTo(t, "CloseAll of eight", got, ok, asked)
	holds(t, "eight closed", got, 0)
}

func TestVariablesFreeInOnePlace(t *testing.T) {
	// v0 of two bits below its quantifier, v0 of one bit beside it
	x := []node{variable(0, 2), two(impl.OpEq, 0, 0), all(0, 2, 1), variable(0, 1), two(impl.OpAnd, 2, 3)}
	got, ok := impl.CloseAll(x)
	comesTo(t, "free in one place", got, ok, append(slices.Clone(x), all(0, 1, 4)))
	isSentence(t, "two quantifiers of one variable", got, false)
	isValid(t, "two quantifiers of one variable", x, -1)
	// one node that is both: a way to it without a quantifier is enough
	y := []node{variable(3, 2), two(impl.OpEq, 0, 0), some(3, 2, 1), variable(3, 1), two(impl.OpEq, 0, 0), two(impl.OpAnd, 2, 4), two(impl.OpXor, 5, 3)}
	got, ok = impl.CloseAll(y)
	comesTo(t, "one node in both places", got, ok, append(slices.Clone(y), all(3, 2, 6)))
	isValid(t, "one node in both places", y, -1)
	// another variable's quantifier binds nothing of this one
	z := []node{variable(1, 1), variable(2, 3), two(impl.OpEq, 1, 1), two(impl.OpAnd, 0, 2), some(1, 1, 3)}
	got, ok = impl.CloseAll(z)
	comesTo(t, "below another's quantifier", got, ok, append(slices.Clone(z), all(2, 3, 4)))
	isValid(t, "below another's quantifier", z, 1)
	// what the root does not reach is not asked for its width
	u := []node{variable(0, 8), not(2), variable(0, 3), two(impl.OpEq, 2, 2)}
	u[1] = two(impl.OpEq, 0, 0)
	got, ok = impl.CloseAll(u)
	comesTo(t, "an idle node ahead", got, ok, append(slices.Clone(u), all(0, 3, 3)))
	isValid(t, "an idle node ahead", u, 1)
	// an idle quantifier of it binds nothing
	w := []node{variable(0, 1), all(0, 1, 0), not(0)}
	got, ok = impl.CloseAll(w)
	comesTo(t, "an idle quantifier", got, ok, append(slices.Clone(w), all(0, 1, 2)))
	isValid(t, "an idle quantifier", w, 0)
}

func TestFreeVariablesOfTwoWidths(t *testing.T) {
	x := []node{variable(0, 3), variable(0, 1), {Op: impl.OpSlice, W: 1, A: 0}, two(impl.OpEq, 1, 2)}
	got, ok := impl.CloseAll(x)
	comesTo(t, "two widths", got, ok, append(slices.Clone(x), all(0, 3, 3)))
	holdsNot(t, "two widths", got)
	isValid(t, "two widths", x, -1)
	y := []node{variable(0, 1), variable(0, 3), {Op: impl.OpSlice, W: 1, A: 1}, two(impl.OpEq, 2, 0)}
	got, ok = impl.CloseAll(y)
	comesTo(t, "two widths", got, ok, append(slices.Clone(y), all(0, 1, 3)))
	isValid(t, "two widths", y, -1)
	// terms of two widths of one variable are held against each other in vain
	areEqual(t, "two widths", term(t, "v0:1"), term(t, "(slice 0 1 v0:2)"), -1)
	areEqual(t, "one width", term(t, "v0:2"), term(t, "(join (slice 1 1 v0:2) (slice 0 1 v0:2))"), 1)
	areEqual(t, "two widths in one", x, x, -1)
	areEqual(t, "two widths, one of them not reached", x[:3], x[:3], 1)
	areEqual(t, "a width of each quantifier", x[1:2], []node{variable(0, 2), two(impl.OpEq, 0, 0)}, -1)
}

func TestValidTexts(t *testing.T) {
	for text, asked := range map[string]int{
		"(= v0:2 v0:2)": 1, "(= v0:2 v1:2)": 0, "(or v0:1 (not v0:1))": 1, "(or (not (and v0:1 v1:1)) v0:1)": 1, "(< v0:3 #3:7)": 0, "(not (< #3:7 v0:3))": 1,
		"(some v1:2 (= (add v0:2 v1:2) #2:0))": 1, "(some v1:2 (= (mul v0:2 v1:2) #2:1))": 0, "(not (all v1:1 (= v0:1 v1:1)))": 1, "#1:1": 1, "#1:0": 0,
		// MaxBits bits, and one more
		"(= (add v0:6 v1:6) (add v1:6 v0:6))": 1, "(= (join v0:5 v2:1) (add v1:6 #6:0))": 0, "(not (and (= v0:7 v0:7) (< v1:6 v1:6)))": -1,
		"(all v0:6 (= v1:6 v1:6))": 1, "(all v0:6 (= v1:7 v1:7))": -1,
		// what cannot come to the front, or not as one
		"(= v0:1 (all v1:1 v1:1))": -1, "(and v0:1 (all v0:1 v0:1))": -1, "(xor (some v1:1 v1:1) #1:0)": -1, "(and (all v1:1 v1:1) (some v1:1 v1:1))": -1, "(all v0:1 (= v0:2 v0:2))": -1,
		// words
		"v0:2": -1, "#2:1": -1, "(add v0:2 v1:2)": -1,
	} {
		isValid(t, text, term(t, text), asked)
	}
}

func TestEqualTexts(t *testing.T) {
	for _, pair := range [][2]string{
		{"(add v0:3 v1:3)", "(add v1:3 v0:3)"}, {"(sub (add v0:4 v1:4) v1:4)", "v0:4"}, {"(mul v0:3 #3:2)", "(shl v0:3 #3:1)"}, {"(not (and v0:3 v1:3))", "(or (not v0:3) (not v1:3))"},
		{"(add (mul (div v0:4 v1:4) v1:4) (rem v0:4 v1:4))", "v0:4"}, {"(sub #3:0 v0:3)", "(add (not v0:3) #3:1)"}, {"(xor v0:8 v0:8)", "#8:0"}, {"(join (slice 4 4 v0:8) (slice 0 4 v0:8))", "v0:8"},
		{"(if v0:1 v1:2 v2:2)", "(if (not v0:1) v2:2 v1:2)"}, {"(s< v0:3 v1:3)", "(< (xor v0:3 #3:4) (xor v1:3 #3:4))"}, {"(= v0:3 v1:3)", "(= (sub v0:3 v1:3) #3:0)"}, {"#3:5", "(add #3:2 #3:3)"},
		{"(shr v5:4 #4:1)", "(div v5:4 #4:2)"}, {"(shl v5:4 #4:4)", "(sub v7:4 v7:4)"},
	} {
		areEqual(t, pair[0]+" and "+pair[1], term(t, pair[0]), term(t, pair[1]), 1)
		areEqual(t, pair[0], term(t, pair[0]), term(t, pair[0]), 1)
	}
	for _, pair := range [][2]string{
		{"(add v0:3 v1:3)", "(sub v0:3 v1:3)"}, {"(sub v0:3 v1:3)", "(sub v1:3 v0:3)"}, {"v0:1", "v1:1"}, {"#3:5", "#3:4"}, {"v0:8", "(and v0:8 #8:254)"}, {"(div (mul v0:4 v1:4) v1:4)", "v0:4"}, {"(s< v0:3 v1:3)", "(< v0:3 v1:3)"}, {"(join v0:1 v1:1)", "(join v1:1 v0:1)"}, {"(shr v0:3 v1:3)", "(div v0:3 (shl #3:1 v1:3))"},
	} {
		areEqual(t, pair[0]+" and "+pair[1], term(t, pair[0]), term(t, pair[1]), 0)
	}
	for _, pair := range [][2]string{
		// roots of two widths
		{"v0:1", "v1:2"}, {"#8:0", "#7:0"}, {"(join v0:1 v1:1)", "v0:1"},
		// below an OpEq no quantifier comes to the front
		{"(all v0:1 v0:1)", "#1:0"}, {"#1:0", "(not (some v0:1 v0:1))"}, {"(some v1:1 (= v0:1 v1:1))", "(some v1:1 (= v0:1 v1:1))"},
		// 13 bits
		{"(add v0:7 v0:7)", "(join (slice 0 6 v0:7) (sub v1:1 (slice 5 1 v2:6)))"}, {"(join v0:5 v1:2)", "(add v2:7 #7:0)"},
	} {
		areEqual(t, pair[0]+" and "+pair[1], term(t, pair[0]), term(t, pair[1]), -1)
	}
	areEqual(t, "12 bits", term(t, "(join v0:4 v1:2)"), term(t, "(add v2:6 #6:0)"), 0)
}

func TestBoth(t *testing.T) {
	x := twoTwos()
	got, ok := impl.Both(x, x)
	y := slices.Clone(x)
	for i, n := range y {
		if hasVariable(n) {
			y[i].K += 2
		}
	}
	comesTo(t, "Both", got, ok, append(putBehind(x, y...), two(impl.OpAnd, 6, 13)))
	holds(t, "both", got, 1)
	want(t, "Bits", impl.Bits(got), 8)
	texts := []string{"#1:1", "#1:0", "(all v0:2 (= v0:2 v0:2))", "(some v0:1 (not v0:1))", "(all v1:1 (some v0:2 (= v1:1 (slice 1 1 v0:2))))", "(some v7:2 (all v0:1 (< (join #1:0 v0:1) v7:2)))", "(not (all v3:1 v3:1))", "(all v3:1 v3:1)", "(or (all v0:1 v0:1) (not (some v1:1 v1:1)))"}
	for _, a := range texts {
		for _, b := range texts {
			got, ok := impl.Both(term(t, a), term(t, b))
			asked, right := bothModel(term(t, a), term(t, b))
			comesOut(t, "Both of "+a+" and "+b, got, ok, asked, right)
			v, _ := impl.Holds(term(t, a))
			u, _ := impl.Holds(term(t, b))
			holds(t, "Both of "+a+" and "+b, got, v*u)
			want(t, "Bits", impl.Bits(got), impl.Bits(term(t, a))+impl.Bits(term(t, b)))
		}
	}
	// from the least on: 0 and 5 of b become 1 and 3, for a has 0, 2 and 5, and b has 4
	a, b := term(t, "(all v0:1 (all v2:1 (all v5:1 v5:1)))"), term(t, "(some v5:1 (some v4:2 (some v0:1 v5:1)))")
	got, ok = impl.Both(a, b)
	s, _ := impl.ShowTerm(got)
	if !ok || s != "(and (all v0:1 (all v2:1 (all v5:1 v5:1))) (some v3:1 (some v4:2 (some v1:1 v3:1))))" {
		t.Errorf("Both is %s, %v", s, ok)
	}
	// what has 13 bits is a sentence all the same
	long := nest(impl.OpAll, 7)
	got, ok = impl.Both(long, nest(impl.OpSome, 6))
	asked, right := bothModel(long, nest(impl.OpSome, 6))
	comesOut(t, "Both of 13 bits", got, ok, asked, right)
	want(t, "Bits", impl.Bits(got), 13)
	holdsNot(t, "13 bits", got)
}

func TestBothWhereNumbersAreTaken(t *testing.T) {
	ones := func(count int) []node { return nest(impl.OpSome, slices.Repeat([]int{1}, count)...) }
	for n := range 9 {
		for m := range 9 {
			a, b := ones(n), ones(m)
			got, ok := impl.Both(a, b)
			asked, right := bothModel(a, b)
			comesOut(t, fmt.Sprint("Both of ", n, " and ", m, " numbers"), got, ok, asked, right)
			// those of both, and as many new ones as are in both
			if ok != (max(n, m)+min(n, m) <= impl.MaxVars) {
				t.Errorf("Both of %d and %d numbers is %v", n, m, ok)
			}
		}
	}
	// every number is taken, but none by both
	a, b := term(t, "(all v0:1 (all v1:1 (all v2:1 (all v3:1 v0:1))))"), term(t, "(all v4:1 (all v5:1 (all v6:1 (all v7:1 v7:1))))")
	got, ok := impl.Both(a, b)
	comesTo(t, "Both where every number is taken", got, ok, append(putBehind(a, b...), two(impl.OpAnd, len(a)-1, len(a)+len(b)-1)))
	// and one by both
	c := putBehind([]node{variable(0, 1)}, b...)
	got, ok = impl.Both(a, c)
	comesNot(t, "Both with one number more", got, ok)
	got, ok = impl.Both(c, a)
	comesNot(t, "Both with one number more", got, ok)
	// a constant has no numbers
	got, ok = impl.Both([]node{constant(1, 1)}, ones(8))
	comesTo(t, "Both of a constant and eight numbers", got, ok, append(putBehind([]node{constant(1, 1)}, ones(8)...), two(impl.OpAnd, 0, len(ones(8)))))
}

func TestTermsOfMaxNodes(t *testing.T) {
	full, over := chain(0, impl.MaxNodes), chain(0, impl.MaxNodes+1)
	want(t, "Level", impl.Level(full), 80)
	want(t, "Level of one more", impl.Level(over), 0)
	want(t, "CountOp", impl.CountOp(full, impl.OpNot), 79)
	want(t, "CountOp of one more", impl.CountOp(over, impl.OpNot), 0)
	isList(t, "Vars", impl.Vars(full), 0)
	isList(t, "Vars of one more", impl.Vars(over))
	got, ok := impl.Fold(full)
	comesTo(t, "Fold", got, ok, full)
	got, ok = impl.Fold(over)
	comesNot(t, "Fold of one more", got, ok)
	got, ok = impl.Rename(full, 0, 4)
	comesTo(t, "Rename", got, ok, chain(4, 80))
	got, ok = impl.Rename(over, 0, 4)
	comesNot(t, "Rename of one more", got, ok)
	for n := 78; n <= 82; n++ {
		x := chain(0, n)
		got, ok = impl.Deny(x)
		comesOut(t, fmt.Sprint("Deny of ", n), got, ok, chain(0, n+1)[:(n+1)*one(n < 80)], n < 80)
		got, ok = impl.Quantify(x, false, 0, 1)
		comesOut(t, fmt.Sprint("Quantify of ", n), got, ok, closedChain(0, n+1)[:(n+1)*one(n < 80)], n < 80)
		got, ok = impl.CloseAll(x)
		comesOut(t, fmt.Sprint("CloseAll of ", n), got, ok, append(chain(0, n), all(0, 1, n-1))[:(n+1)*one(n < 80)], n < 80)
		isValid(t, fmt.Sprint(n), x, one(n < 80)-1)
		// with none free there is nothing to put behind
		y := closedChain(0, n)
		got, ok = impl.CloseAll(y)
		comesOut(t, fmt.Sprint("CloseAll with none free of ", n), got, ok, y[:n*one(n <= 80)], n <= 80)
		isValid(t, fmt.Sprint(n), y, 2*one(n <= 80)-1)
	}
	// two free variables
	for n := 76; n <= 81; n++ {
		x := withDenials([]node{variable(0, 1), variable(1, 2), two(impl.OpEq, 1, 1), two(impl.OpOr, 0, 2)}, n-4)
		got, ok = impl.CloseAll(x)
		asked := append(slices.Clone(x), all(1, 2, n-1), all(0, 1, n))
		comesOut(t, fmt.Sprint("CloseAll of two and ", n), got, ok, asked[:(n+2)*one(n <= 78)], n <= 78)
		isValid(t, fmt.Sprint(n), x, 2*one(n <= 78)-1-one(n <= 78 && n%2 == 1))
	}
}

func TestJoinedTermsOfMaxNodes(t *testing.T) {
	// one free variable: its quantifier and OpEq beside both terms
	for n := 37; n <= 41; n++ {
		areEqual(t, "one free variable", chain(0, 39), chain(0, n), 2*one(n <= 39)-1-one(n == 38))
	}
	// none free: OpEq alone
	none := func(n int) []node { return withDenials([]node{constant(1, 1)}, n-1) }
	for n := 37; n <= 41; n++ {
		areEqual(t, "none free", none(39), none(n), 2*one(n <= 40)-1-one(n <= 40 && n%2 == 0))
	}
	areEqual(t, "one node and many", none(1), none(78), 0)
	areEqual(t, "one node and too many", none(1), none(79), -1)
	areEqual(t, "one node and MaxNodes", none(1), none(80), -1)
	for n := 37; n <= 42; n++ {
		a, b := closedChain(0, 39), closedChain(1, n)
		got, ok := impl.Both(a, b)
		asked, right := bothModel(a, b)
		comesOut(t, "Both", got, ok, asked, right)
		want(t, "how many nodes Both has", len(got), (40+n)*one(n <= 40))
	}
	for _, n := range []int{77, 78, 79, 80} {
		got, ok := impl.Both(none(1), closedChain(1, n))
		comesOut(t, "Both", got, ok, append(putBehind(none(1), closedChain(1, n)...), two(impl.OpAnd, 0, n))[:(n+2)*one(n <= 78)], n <= 78)
	}
	// idle nodes count as the others do
	got, ok := impl.Both(append(slices.Repeat([]node{constant(0, 1)}, 40), constant(1, 1)), none(38))
	want(t, "Both with idle nodes", len(got), 80)
	if !ok {
		t.Error("Both with idle nodes is none")
	}
	got, ok = impl.Both(append(slices.Repeat([]node{constant(0, 1)}, 40), constant(1, 1)), none(39))
	comesNot(t, "Both with an idle node more", got, ok)
}

func TestListsThatAreNoTerms(t *testing.T) {
	right := twoTwos()
	for i, x := range noTerms() {
		name := fmt.Sprintf("list %d, of %d nodes, %v", i, len(x), x[:min(len(x), 8)])
		if impl.TermOk(x) {
			t.Fatalf("%s is a term", name)
		}
		isList(t, name+": Vars", impl.Vars(x))
		want(t, name+": Level", impl.Level(x), 0)
		for op := -1; op <= 21; op++ {
			want(t, name+": CountOp", impl.CountOp(x, op), 0, op)
		}
		got, ok := impl.Fold(x)
		comesNot(t, name+": Fold", got, ok)
		got, ok = impl.Rename(x, 0, 7)
		comesNot(t, name+": Rename", got, ok)
		got, ok = impl.Rename(x, 0, 0)
		comesNot(t, name+": Rename", got, ok)
		got, ok = impl.Deny(x)
		comesNot(t, name+": Deny", got, ok)
		got, ok = impl.Quantify(x, i%2 == 0, 3, 2)
		comesNot(t, name+": Quantify", got, ok)
		got, ok = impl.CloseAll(x)
		comesNot(t, name+": CloseAll", got, ok)
		isValid(t, name, x, -1)
		areEqual(t, name, x, x, -1)
		areEqual(t, name, x, []node{constant(1, 1)}, -1)
		for _, pair := range [][2][]node{{x, x}, {x, right}, {right, x}} {
			got, ok = impl.Both(pair[0], pair[1])
			comesNot(t, name+": Both", got, ok)
		}
	}
	// nothing and a term would be a term together
	areEqual(t, "nothing", nil, []node{constant(1, 1)}, -1)
	areEqual(t, "nothing twice", nil, nil, -1)
}

func TestBothOfWhatIsNoSentence(t *testing.T) {
	right := twoTwos()
	for _, text := range []string{"v0:1", "(= v0:2 v1:2)", "#2:1", "(all v0:1 v1:1)", "(all v0:1 (= v0:2 v0:2))", "(xor (all v0:1 v0:1) #1:1)", "(and (all v0:1 v0:1) (some v0:1 v0:1))", "(= (all v0:1 v0:1) #1:0)", "(all v0:1 (all v0:1 v0:1))"} {
		x := term(t, text)
		isSentence(t, text, x, false)
		for _, pair := range [][2][]node{{x, x}, {x, right}, {right, x}} {
			got, ok := impl.Both(pair[0], pair[1])
			comesNot(t, "Both of "+text, got, ok)
		}
	}
}

// Each function beside its model, over terms of all sorts.
func TestAlgebraAgainstModels(t *testing.T) {
	d := dice(181)
	var folded, renamed, closes [2]int
	for range 8000 {
		x := drawAny(&d)
		name := fmt.Sprint(x)
		isList(t, name+": Vars", impl.Vars(x), varsModel(x)...)
		want(t, name+": Level", impl.Level(x), levelModel(x))
		for op := -1; op <= 21; op++ {
			want(t, name+": CountOp", impl.CountOp(x, op), countModel(x, op), op)
		}
		got, ok := impl.Fold(x)
		comesTo(t, name+": Fold", got, ok, foldModel(x))
		folded[one(len(got) < len(prunedModel(x)))]++
		v, u, w := d.below(10)-1, d.below(10)-1, d.below(10)
		got, ok = impl.Rename(x, v, u)
		asked, right := renameModel(x, v, u)
		comesOut(t, fmt.Sprint(name, ": Rename of ", v, " to ", u), got, ok, asked, right)
		renamed[one(right)]++
		root := len(x) - 1
		got, ok = impl.Deny(x)
		asked, right = outModel(append(slices.Clone(x), node{Op: impl.OpNot, W: x[root].W, A: root}))
		comesOut(t, name+": Deny", got, ok, asked, right)
		for op := impl.OpAll; op <= impl.OpSome; op++ {
			got, ok = impl.Quantify(x, op == impl.OpAll, v, w)
			asked, right = outModel(append(slices.Clone(x), node{Op: op, W: 1, K: v, A: root, B: w}))
			comesOut(t, fmt.Sprint(name, ": Quantify of ", v, ", ", w), got, ok, asked, right)
		}
		got, ok = impl.CloseAll(x)
		asked, right = closeModel(x)
		comesOut(t, name+": CloseAll", got, ok, asked, right)
		closes[one(right && len(asked) > len(x))]++
	}
	if folded[1] < 500 || min(renamed[0], renamed[1]) < 1000 || closes[1] < 500 {
		t.Errorf("%v folded, %v renamed and %v closed are too few", folded, renamed, closes)
	}
}

// Promise 15: putting constants together changes no value.
func TestConstantsPutTogetherChangeNoValue(t *testing.T) {
	d := dice(182)
	var counts [3]int
	for range 8000 {
		x := withConstants(&d, drawAny(&d))
		y, ok := impl.Fold(x)
		if !ok || workOf(x) > 20000 {
			continue
		}
		env := drawEnv(&d)
		v, has := impl.Value(x, env)
		u, still := impl.Value(y, env)
		if v != u || has != still {
			t.Fatalf("%v is worth %d, %v, and folded, %v, %d, %v", x, v, has, y, u, still)
		}
		if has {
			want(t, "the model's value", v, valueModel(x, len(x)-1, [8]int(env)))
		}
		counts[min(v, 1)+2*one(!has)]++
		v, has = impl.Holds(x)
		u, still = impl.Holds(y)
		if v != u || has != still || impl.Sentence(x) != impl.Sentence(y) {
			t.Fatalf("%v holds as %d, %v, and folded, %v, as %d, %v", x, v, has, y, u, still)
		}
		want(t, "Bits", impl.Bits(y), impl.Bits(x))
		want(t, "the root's width", y[len(y)-1].W, x[len(x)-1].W)
		isList(t, "Free", impl.Free(y), impl.Free(x)...)
		isList(t, "Vars", impl.Vars(y), impl.Vars(x)...)
		again, ok := impl.Fold(y)
		comesTo(t, "Fold once more", again, ok, y)
	}
	if slices.Min(counts[:]) < 300 {
		t.Errorf("%v are too few", counts)
	}
}

// Promise 15: renaming to a new number changes no value of a sentence, and of
// a term none, where the new number has the old one's value.
func TestRenamedTermsAreWorthTheSame(t *testing.T) {
	d := dice(183)
	var counts [2]int
	open := 0
	for range 4000 {
		x := drawAny(&d)
		if workOf(x) > 20000 {
			continue
		}
		env := drawEnv(&d)
		v, has := impl.Value(x, env)
		h, is := impl.Holds(x)
		for _, k := range impl.Vars(x) {
			for u := range impl.MaxVars {
				y, ok := impl.Rename(x, k, u)
				if !ok {
					continue
				}
				moved := slices.Clone(env)
				moved[u] = env[k]
				if a, b := impl.Value(y, moved); a != v || b != has {
					t.Fatalf("%v is worth %d, %v below %v, and renamed, %v, %d, %v", x, v, has, env, y, a, b)
				}
				if a, b := impl.Holds(y); a != h || b != is {
					t.Fatalf("%v holds as %d, %v, and renamed, %v, as %d, %v", x, h, is, y, a, b)
				}
				want(t, "Bits", impl.Bits(y), impl.Bits(x))
				if back, ok := impl.Rename(y, u, k); !ok || !slices.Equal(back, x) {
					t.Fatalf("%v, renamed, %v, comes back as %v, %v", x, y, back, ok)
				}
			}
		}
		if is {
			counts[h]++
		} else if has {
			open++
		}
	}
	if min(counts[0], counts[1], open) < 300 {
		t.Errorf("%v sentences and %d open terms are too few", counts, open)
	}
}

// eachFree calls f with each row of values that the free variables can have, of the widths of their first nodes.
func eachFree(x []node, f func(env []int)) {
	envs := [][]int{noughts()}
	for v := range impl.MaxVars {
		list := freePlaces(x, v)
		if len(list) == 0 {
			continue
		}
		next := [][]int{}
		for _, env := range envs {
			for k := range power(x[list[0]].W) {
				more := slices.Clone(env)
				more[v] = k
				next = append(next, more)
			}
		}
		envs = next
	}
	for _, env := range envs {
		f(env)
	}
}

// Promise 15: a formula is valid just when it is worth 1 whatever its free variables are.
func TestValidFormulas(t *testing.T) {
	d := dice(184)
	var counts [3]int
	for range 8000 {
		x := drawAny(&d)
		sentence, ok := closeModel(x)
		if !ok || !sentenceModel(sentence) || bitsModel(sentence) > 12 {
			isValid(t, fmt.Sprint(x), x, -1)
			counts[2]++
			continue
		}
		if workOf(sentence) > 20000 {
			continue
		}
		asked := 1
		eachFree(x, func(env []int) {
			v, has := impl.Value(x, env)
			if !has {
				t.Fatalf("%v has no value below %v", x, env)
			}
			asked = min(asked, v)
		})
		isValid(t, fmt.Sprint(x), x, asked)
		counts[asked]++
		// what is put together or written canonically is as valid
		folded, _ := impl.Fold(x)
		isValid(t, fmt.Sprint(x, " folded"), folded, asked)
		isValid(t, fmt.Sprint(x, " canonical"), impl.Canon(x), asked)
		isValid(t, fmt.Sprint(x, " closed"), sentence, asked)
	}
	if slices.Min(counts[:]) < 300 {
		t.Errorf("%v are too few", counts)
	}
}

// A term is equal to itself, to its canonical form and to what its constants are put together to.
func TestTermsEqualTheirOtherForms(t *testing.T) {
	d := dice(185)
	equal := 0
	for range 6000 {
		x := withConstants(&d, drawAny(&d))
		joined := putBehind(x, x...)
		joined, ok := closeModel(append(joined, two(impl.OpEq, len(x)-1, len(joined)-1)))
		if !ok || !sentenceModel(joined) || bitsModel(joined) > 12 {
			areEqual(t, fmt.Sprint(x), x, x, -1)
			continue
		}
		equal++
		folded, _ := impl.Fold(x)
		for name, y := range map[string][]node{"itself": x, "pruned": impl.Prune(x), "folded": folded, "canonical": impl.Canon(x)} {
			areEqual(t, fmt.Sprint(x, " and ", name, ", ", y), x, y, 1)
		}
		// and never to what it is not
		other, ok := impl.Deny(x)
		if ok {
			areEqual(t, fmt.Sprint(x, " and denied"), x, other, 0)
		}
	}
	if equal < 1000 {
		t.Errorf("%d are too few", equal)
	}
}

// drawWord is a term without quantifiers, of width w, of v0 and v1 of that width.
func drawWord(d *dice, w int) []node {
	x := []node{variable(0, w), variable(1, w), constant(d.below(power(w)), w)}
	for range d.below(4) {
		n := node{Op: impl.OpNot + d.below(11), W: w, A: d.below(len(x))}
		if n.Op != impl.OpNot {
			n.B = d.below(len(x))
		}
		x = append(x, n)
	}
	return x
}

// Two terms are equal just when they are worth the same whatever their variables are.
func TestEqualAgainstValues(t *testing.T) {
	d := dice(186)
	var counts [2]int
	for range 4000 {
		w := 1 + d.below(2)
		a, b := drawWord(&d, w), drawWord(&d, w)
		asked := 1
		for k := range power(2 * w) {
			env := noughts()
			env[0], env[1] = k/power(w), k%power(w)
			v, _ := impl.Value(a, env)
			u, _ := impl.Value(b, env)
			asked = min(asked, one(v == u))
		}
		areEqual(t, fmt.Sprint(a, " and ", b), a, b, asked)
		counts[asked]++
	}
	if slices.Min(counts[:]) < 200 {
		t.Errorf("%v are too few", counts)
	}
}

// Promise 15: two sentences as one are worth 1 just when each is.
func TestBothAgainstModel(t *testing.T) {
	d := dice(187)
	counts := [4]int{}
	refused, bits := 0, 0
	for range 8000 {
		a, b := drawSentence(&d), drawSentence(&d)
		switch d.below(6) {
		case 0:
			a = drawTerm(&d)
		case 1:
			b = drawTerm(&d)
		case 2:
			b = a
		}
		asked, right := bothModel(a, b)
		got, ok := impl.Both(a, b)
		comesOut(t, fmt.Sprint("Both of ", a, " and ", b), got, ok, asked, right)
		if !ok {
			refused++
			continue
		}
		isSentence(t, fmt.Sprint("Both of ", a, " and ", b), got, true)
		want(t, "Bits", impl.Bits(got), impl.Bits(a)+impl.Bits(b))
		v, _ := impl.Holds(a)
		u, _ := impl.Holds(b)
		if impl.Bits(got) > impl.MaxBits {
			holdsNot(t, "both of many bits", got)
			bits++
			continue
		}
		if workOf(got) < 50000 {
			holds(t, fmt.Sprint("Both of ", a, " and ", b), got, v*u)
			counts[2*v+u]++
		}
	}
	if slices.Min(counts[:]) < 100 || refused < 300 || bits < 20 {
		t.Errorf("%v worth, %d refused and %d of many bits are too few", counts, refused, bits)
	}
}

// Denied, a sentence is worth the other one; quantified, a term has one variable less that stands free.
func TestDrawnTermsDeniedAndQuantified(t *testing.T) {
	d := dice(188)
	var counts [2]int
	for range 3000 {
		x := drawAny(&d)
		y, ok := impl.Deny(x)
		if !ok {
			continue
		}
		isList(t, "Free", impl.Free(y), impl.Free(x)...)
		want(t, "Level", impl.Level(y), impl.Level(x)+1)
		if v, is := impl.Holds(x); is && workOf(x) < 20000 {
			counts[v]++
			holds(t, "denied", y, 1-v)
			twice, _ := impl.Deny(y)
			holds(t, "denied twice", twice, v)
		}
		for v := range impl.MaxVars {
			z, ok := impl.Quantify(x, v%2 == 0, v, 2)
			if ok != (x[len(x)-1].W == 1) {
				t.Fatalf("Quantify of %v is %v, %v", x, z, ok)
			}
			if ok {
				isList(t, "Free", impl.Free(z), slices.DeleteFunc(impl.Free(x), func(k int) bool { return k == v })...)
			}
		}
		if z, ok := impl.CloseAll(x); ok {
			isList(t, "Free", impl.Free(z))
			want(t, "quantifiers", len(z), len(x)+len(impl.Free(x)))
		}
	}
	if slices.Min(counts[:]) < 200 {
		t.Errorf("%v are too few", counts)
	}
}

// roomy is x with spare room behind it, and what tells whether either has become another.
func roomy(x []node) ([]node, func() bool) {
	room := append(slices.Clone(x), slices.Repeat([]node{{Op: -7, W: -7, K: -7, A: -7, B: -7, C: -7}}, 12)...)
	before := slices.Clone(room)
	return room[:len(x)], func() bool { return slices.Equal(room, before) }
}

// termKeptApart calls f twice, and writes into all of its first answer in between.
func termKeptApart(t *testing.T, name string, x []node, f func(x []node) ([]node, bool)) {
	t.Helper()
	y, same := roomy(x)
	first, ok := f(y)
	kept := slices.Clone(first)
	for i := range first[:cap(first)] {
		first[:cap(first)][i] = node{Op: -9, W: -9, K: -9, A: -9, B: -9, C: -9}
	}
	if !same() {
		t.Fatalf("%s writes into %v, or shares its answer with it", name, x)
	}
	again, still := f(y)
	comesOut(t, name+" a second time", again, still, kept, ok)
	if !same() {
		t.Fatalf("%s writes into %v", name, x)
	}
}

func TestAlgebraWritesIntoNothing(t *testing.T) {
	d := dice(189)
	for round := range 1500 {
		x := drawAny(&d)
		switch round % 8 {
		case 0:
			x[d.below(len(x))].W = 9
		case 1:
			x = withConstants(&d, x)
		case 2:
			x = closedChain(3, 2+d.below(79))
		}
		other := drawSentence(&d)
		termKeptApart(t, "Fold", x, impl.Fold)
		termKeptApart(t, "Deny", x, impl.Deny)
		termKeptApart(t, "CloseAll", x, impl.CloseAll)
		for _, u := range []int{0, 1, 7, 8} {
			termKeptApart(t, "Rename", x, func(x []node) ([]node, bool) { return impl.Rename(x, 1, u) })
			termKeptApart(t, "Quantify", x, func(x []node) ([]node, bool) { return impl.Quantify(x, u == 1, u, 3) })
		}
		termKeptApart(t, "Both", x, func(x []node) ([]node, bool) { return impl.Both(x, other) })
		termKeptApart(t, "Both", x, func(x []node) ([]node, bool) { return impl.Both(other, x) })
		termKeptApart(t, "Both of one list", x, func(x []node) ([]node, bool) { return impl.Both(x, x) })
		// one list that is the beginning of the other
		termKeptApart(t, "Both of a beginning", x, func(x []node) ([]node, bool) { return impl.Both(x[:len(x)/2], x) })
		termKeptApart(t, "Both of a beginning", x, func(x []node) ([]node, bool) { return impl.Both(x, x[:len(x)/2]) })
	}
}

func TestAlgebraAnswersTheSameTwice(t *testing.T) {
	d := dice(190)
	for round := range 1500 {
		x, other := drawAny(&d), drawAny(&d)
		if round%8 == 0 {
			x[d.below(len(x))].W = 9
		}
		if round%3 == 0 {
			x, other = drawWord(&d, 2), drawWord(&d, 2)
		}
		y, same := roomy(x)
		z, alsoSame := roomy(other)
		vars := impl.Vars(y)
		kept := slices.Clone(vars)
		clear(vars[:cap(vars)])
		isList(t, "Vars a second time", impl.Vars(y), kept...)
		level, count := impl.Level(y), impl.CountOp(y, impl.OpVar)
		v, ok := impl.Valid(y)
		e, is := impl.Equal(y, z)
		own, has := impl.Equal(y, y)
		if !same() || !alsoSame() {
			t.Fatalf("%v or %v has become another", x, other)
		}
		a, b := impl.Valid(y)
		c, f := impl.Equal(y, z)
		g, h := impl.Equal(y, y)
		if a != v || b != ok || c != e || f != is || g != own || h != has || level != impl.Level(y) || count != impl.CountOp(y, impl.OpVar) {
			t.Fatalf("%v and %v are answered otherwise a second time", x, other)
		}
		if !same() || !alsoSame() {
			t.Fatalf("%v or %v has become another", x, other)
		}
	}
}

// Any numbers in any field are answered.
func TestAlgebraOfAnyNumbers(t *testing.T) {
	d := dice(191)
	far := append(farNumbers(), 0, 1, 2, 7, 8, 9, 20, 21)
	terms := 0
	for range 6000 {
		x := drawAny(&d)
		for range 1 + d.below(3) {
			*field(&x[d.below(len(x))], "OWKABC"[d.below(6)]) = far[d.below(len(far))]
		}
		v, u := far[d.below(len(far))], far[d.below(len(far))]
		right := termModel(x)
		terms += one(right)
		if right && !fewWays(x) {
			continue
		}
		got, ok := impl.Quantify(x, u%2 == 0, v, u)
		asked, is := outModel(append(slices.Clone(x), node{Op: impl.OpSome - one(u%2 == 0), W: 1, K: v, A: len(x) - 1, B: u}))
		comesOut(t, fmt.Sprint("Quantify of ", x, v, u), got, ok, asked, is)
		got, ok = impl.Rename(x, v, u)
		asked, is = renameModel(x, v, u)
		comesOut(t, fmt.Sprint("Rename of ", x, v, u), got, ok, asked[:len(asked)*one(right)], is && right)
		want(t, "CountOp", impl.CountOp(x, 22+max(0, v)%1000), 0)
		if right {
			want(t, "Level", impl.Level(x), levelModel(x))
			isList(t, "Vars", impl.Vars(x), varsModel(x)...)
			got, ok = impl.Fold(x)
			comesTo(t, "Fold", got, ok, foldModel(x))
			continue
		}
		want(t, "Level", impl.Level(x), 0)
		isList(t, "Vars", impl.Vars(x))
		got, ok = impl.Fold(x)
		comesNot(t, "Fold", got, ok)
		got, ok = impl.Both(x, twoTwos())
		comesNot(t, "Both", got, ok)
		got, ok = impl.Deny(x)
		comesNot(t, "Deny", got, ok)
		isValid(t, "no term", x, -1)
		areEqual(t, "no term", x, twoTwos()[:3], -1)
	}
	if terms < 100 || terms > 5500 {
		t.Errorf("%d of 6000 are terms", terms)
	}
}
