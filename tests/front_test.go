package tests

import (
	"math"
	"slices"
	"testing"

	"loop.example/g00116/impl"
)

type quant = impl.Quant

func every(v, w int) quant { return quant{All: true, Var: v, Bits: w} }

func exists(v, w int) quant { return quant{Var: v, Bits: w} }

// quantsModel are the quantifiers of node i, which stands below so many denials.
func quantsModel(t []node, i int, denials int) []quant {
	n := t[i]
	switch n.Op {
	case impl.OpAll, impl.OpSome:
		own := quant{All: (n.Op == impl.OpAll) == (denials%2 == 0), Var: n.K, Bits: n.B}
		return append([]quant{own}, quantsModel(t, n.A, denials)...)
	case impl.OpNot:
		return quantsModel(t, n.A, denials+1)
	case impl.OpAnd, impl.OpOr:
		return append(quantsModel(t, n.A, denials), quantsModel(t, n.B, denials)...)
	}
	return []quant{}
}

// bareModel is the first place from i on, down the parts of quantifiers, that is none.
func bareModel(t []node, i int) int {
	for isQuantifier(t[i]) {
		i = t[i].A
	}
	return i
}

func restModel(t []node) []node {
	told := slices.Clone(t)
	for i := range told {
		for _, c := range []byte(shapeOf(told[i].Op)) {
			if c >= 'a' {
				*field(&told[i], c) = bareModel(t, *field(&told[i], c))
			}
		}
	}
	told = told[:bareModel(t, len(t)-1)+1]
	places := reachedModel(told)
	rest := []node{}
	for _, i := range places {
		n := told[i]
		for _, c := range []byte(shapeOf(n.Op)) {
			if c >= 'a' {
				*field(&n, c) = slices.Index(places, *field(&n, c))
			}
		}
		rest = append(rest, n)
	}
	return rest
}

// frontOkModel asks that rest is a term.
func frontOkModel(q []quant, rest []node) bool {
	width := map[int]int{}
	for _, x := range q {
		if x.Var < 0 || x.Var > 7 || x.Bits < 1 || x.Bits > 8 || width[x.Var] > 0 {
			return false
		}
		width[x.Var] = x.Bits
	}
	if rest[len(rest)-1].W != 1 || slices.ContainsFunc(rest, isQuantifier) {
		return false
	}
	for _, i := range reachedModel(rest) {
		if rest[i].Op == impl.OpVar && width[rest[i].K] != rest[i].W {
			return false
		}
	}
	return true
}

// belowModel is what rest is worth below these quantifiers, at every word of each, with no check.
func belowModel(q []quant, rest []node, env [8]int) int {
	if len(q) == 0 {
		return valueModel(rest, len(rest)-1, env)
	}
	ones := 0
	for k := range power(q[0].Bits) {
		env[q[0].Var] = k
		ones += belowModel(q[1:], rest, env)
	}
	return one(ones == power(q[0].Bits) || !q[0].All && ones > 0)
}

func bitsOfQuants(q []quant) int {
	sum := 0
	for _, x := range q {
		sum += x.Bits
	}
	return sum
}

func frontIs(t *testing.T, name string, x []node, q []quant, rest []node) {
	t.Helper()
	got, left, ok := impl.Front(x)
	if !ok || !slices.Equal(got, q) || !slices.Equal(left, rest) {
		t.Errorf("%s: Front of %v is %v, %v, %v, not %v, %v", name, x, got, left, ok, q, rest)
	}
	keepsItsWorth(t, name, x)
}

func hasNoFront(t *testing.T, name string, x []node) {
	t.Helper()
	if q, rest, ok := impl.Front(x); ok || len(q) != 0 || len(rest) != 0 {
		t.Errorf("%s: Front of %v is %v, %v, %v, not nothing", name, x, q, rest, ok)
	}
}

func frontHolds(t *testing.T, name string, q []quant, rest []node, asked int) {
	t.Helper()
	if v, ok := impl.HoldsFront(q, rest); v != asked || !ok {
		t.Errorf("%s: HoldsFront of %v, %v is %d, %v, not %d", name, q, rest, v, ok, asked)
	}
}

func frontHoldsNot(t *testing.T, name string, q []quant, rest []node) {
	t.Helper()
	if v, ok := impl.HoldsFront(q, rest); v != 0 || ok {
		t.Errorf("%s: HoldsFront of %v, %v is %d, %v, not nothing", name, q, rest, v, ok)
	}
}

func hasNoBack(t *testing.T, name string, q []quant, rest []node) {
	t.Helper()
	if x, ok := impl.Back(q, rest); ok || len(x) != 0 {
		t.Errorf("%s: Back of %v, %v is %v, %v, not nothing", name, q, rest, x, ok)
	}
}

func isFront(t *testing.T, name string, q []quant, rest []node, asked bool) {
	t.Helper()
	if impl.FrontOk(q, rest) != asked {
		t.Errorf("%s: FrontOk of %v, %v is not %v", name, q, rest, asked)
	}
	if !asked {
		frontHoldsNot(t, name, q, rest)
		hasNoBack(t, name, q, rest)
	}
}

// backIs tells the term, which must be there and a sentence.
func backIs(t *testing.T, name string, q []quant, rest []node) []node {
	t.Helper()
	asked := slices.Clone(rest)
	for i := len(q) - 1; i >= 0; i-- {
		n := some(q[i].Var, q[i].Bits, len(asked)-1)
		if q[i].All {
			n.Op = impl.OpAll
		}
		asked = append(asked, n)
	}
	got, ok := impl.Back(q, rest)
	if !ok || !slices.Equal(got, asked) {
		t.Fatalf("%s: Back of %v, %v is %v, %v, not %v", name, q, rest, got, ok, asked)
	}
	isSentence(t, name, got, true)
	want(t, "Bits of Back", impl.Bits(got), bitsOfQuants(q))
	return got
}

// keepsItsWorth is promise 5 for one sentence.
func keepsItsWorth(t *testing.T, name string, x []node) {
	t.Helper()
	q, rest, ok := impl.Front(x)
	if !ok {
		t.Fatalf("%s: %v has no front", name, x)
	}
	isFront(t, name, q, rest, true)
	back := backIs(t, name, q, rest)
	want(t, "Bits of Back", impl.Bits(back), impl.Bits(x))
	again, left, ok := impl.Front(back)
	if !ok || !slices.Equal(again, q) || !slices.Equal(left, rest) {
		t.Errorf("%s: Front of Back of %v, %v is %v, %v, %v", name, q, rest, again, left, ok)
	}
	v, ok := impl.Holds(x)
	if !ok {
		frontHoldsNot(t, name, q, rest)
		holdsNot(t, name, back)
		return
	}
	frontHolds(t, name, q, rest, v)
	holds(t, name, back, v)
	anIdleOneChangesNothing(t, name, q, rest, v)
}

// anIdleOneChangesNothing puts a quantifier more in each place of the row.
func anIdleOneChangesNothing(t *testing.T, name string, q []quant, rest []node, v int) {
	t.Helper()
	more := 0
	for slices.ContainsFunc(q, func(x quant) bool { return x.Var == more }) {
		more++
	}
	if more == impl.MaxVars || bitsOfQuants(q) == impl.MaxBits {
		return
	}
	for i := range len(q) + 1 {
		for _, idle := range []quant{every(more, 1), exists(more, 1)} {
			longer := slices.Insert(slices.Clone(q), i, idle)
			isFront(t, name, longer, rest, true)
			frontHolds(t, name+", an idle one more", longer, rest, v)
			if len(longer)+len(rest) <= impl.MaxNodes {
				holds(t, name+", an idle one more", backIs(t, name, longer, rest), v)
			}
		}
	}
}

func TestFrontOfTexts(t *testing.T) {
	for _, x := range []struct {
		text string
		q    []quant
		rest string
	}{
		{"#1:1", nil, "#1:1"},
		{"(not #1:1)", nil, "(not #1:1)"},
		{"(= (add #3:1 #3:2) #3:3)", nil, "(= (add #3:1 #3:2) #3:3)"},
		{"(all v0:1 v0:1)", []quant{every(0, 1)}, "v0:1"},
		{"(some v7:8 (= v7:8 #8:255))", []quant{exists(7, 8)}, "(= v7:8 #8:255)"},
		{"(all v3:2 #1:0)", []quant{every(3, 2)}, "#1:0"},
		{"(all v0:2 (some v1:2 (= (add v0:2 v1:2) #2:0)))", []quant{every(0, 2), exists(1, 2)}, "(= (add v0:2 v1:2) #2:0)"},
		{"(some v0:2 (all v1:2 (= (add v0:2 v1:2) #2:0)))", []quant{exists(0, 2), every(1, 2)}, "(= (add v0:2 v1:2) #2:0)"},
		{"(all v1:2 (all v0:3 (= #2:0 v1:2)))", []quant{every(1, 2), every(0, 3)}, "(= #2:0 v1:2)"},
		{"(not (all v0:1 v0:1))", []quant{exists(0, 1)}, "(not v0:1)"},
		{"(not (some v0:1 v0:1))", []quant{every(0, 1)}, "(not v0:1)"},
		{"(not (not (all v0:1 v0:1)))", []quant{every(0, 1)}, "(not (not v0:1))"},
		{"(not (not (not (some v0:1 v0:1))))", []quant{every(0, 1)}, "(not (not (not v0:1)))"},
		{"(all v0:1 (not (all v1:1 (or v0:1 v1:1))))", []quant{every(0, 1), exists(1, 1)}, "(not (or v0:1 v1:1))"},
		{"(not (all v0:1 (not (all v1:1 (or v0:1 v1:1)))))", []quant{exists(0, 1), every(1, 1)}, "(not (not (or v0:1 v1:1)))"},
		{"(not (some v0:2 (all v1:2 (not (< v0:2 v1:2)))))", []quant{every(0, 2), exists(1, 2)}, "(not (not (< v0:2 v1:2)))"},
		{"(and (all v0:1 v0:1) (some v1:1 v1:1))", []quant{every(0, 1), exists(1, 1)}, "(and v0:1 v1:1)"},
		{"(or (all v0:1 v0:1) (some v1:1 v1:1))", []quant{every(0, 1), exists(1, 1)}, "(or v0:1 v1:1)"},
		{"(and (some v5:1 v5:1) (all v2:1 v2:1))", []quant{exists(5, 1), every(2, 1)}, "(and v5:1 v2:1)"},
		{"(or (some v5:1 v5:1) (all v2:1 v2:1))", []quant{exists(5, 1), every(2, 1)}, "(or v5:1 v2:1)"},
		{"(and #1:1 (all v0:1 v0:1))", []quant{every(0, 1)}, "(and #1:1 v0:1)"},
		{"(or (some v0:1 v0:1) #1:0)", []quant{exists(0, 1)}, "(or v0:1 #1:0)"},
		{"(and (not (all v0:1 v0:1)) (all v1:1 v1:1))", []quant{exists(0, 1), every(1, 1)}, "(and (not v0:1) v1:1)"},
		{"(or (all v0:1 v0:1) (not (all v1:1 v1:1)))", []quant{every(0, 1), exists(1, 1)}, "(or v0:1 (not v1:1))"},
		{"(not (and (all v0:1 v0:1) (not (some v1:1 v1:1))))", []quant{exists(0, 1), exists(1, 1)}, "(not (and v0:1 (not v1:1)))"},
		{"(not (or (not (all v0:1 v0:1)) (some v1:1 v1:1)))", []quant{every(0, 1), every(1, 1)}, "(not (or (not v0:1) v1:1))"},
		{
			"(all v2:2 (and (some v1:1 (or v1:1 (all v0:1 v0:1))) (not (some v3:2 (= v2:2 v3:2)))))",
			[]quant{every(2, 2), exists(1, 1), every(0, 1), every(3, 2)}, "(and (or v1:1 v0:1) (not (= v2:2 v3:2)))",
		},
		{
			"(or (and (all v0:1 v0:1) (some v1:1 v1:1)) (and (some v2:1 v2:1) (all v3:1 v3:1)))",
			[]quant{every(0, 1), exists(1, 1), exists(2, 1), every(3, 1)}, "(or (and v0:1 v1:1) (and v2:1 v3:1))",
		},
		// below what no quantifier may stand in, denials count for nothing
		{"(all v0:1 (xor (not v0:1) (if (not v0:1) v0:1 #1:1)))", []quant{every(0, 1)}, "(xor (not v0:1) (if (not v0:1) v0:1 #1:1))"},
	} {
		rest := term(t, x.rest)
		frontIs(t, x.text, term(t, x.text), x.q, rest)
		text, ok := impl.ShowTerm(rest)
		if !ok || text != x.rest {
			t.Errorf("%q is not as it is written: %q", x.rest, text)
		}
	}
}

func TestWorthOfTheFront(t *testing.T) {
	same := term(t, "(= v0:3 v1:3)")
	for _, x := range []struct {
		q     []quant
		rest  []node
		asked int
	}{
		{[]quant{every(0, 3), exists(1, 3)}, same, 1}, {[]quant{exists(1, 3), every(0, 3)}, same, 0},
		{[]quant{exists(0, 3), every(1, 3)}, same, 0}, {[]quant{every(1, 3), exists(0, 3)}, same, 1},
		{[]quant{every(0, 3), every(1, 3)}, same, 0}, {[]quant{exists(0, 3), exists(1, 3)}, same, 1},
		{nil, []node{constant(0, 1)}, 0}, {nil, []node{constant(1, 1)}, 1},
		{[]quant{every(0, 1)}, []node{variable(0, 1)}, 0}, {[]quant{exists(0, 1)}, []node{variable(0, 1)}, 1},
		{[]quant{every(0, 8)}, term(t, "(= v0:8 v0:8)"), 1}, {[]quant{every(0, 8)}, term(t, "(not (= v0:8 #8:255))"), 0},
		{[]quant{exists(0, 8)}, term(t, "(= v0:8 #8:255)"), 1}, {[]quant{exists(0, 8)}, term(t, "(< #8:255 v0:8)"), 0},
		{[]quant{every(0, 8)}, term(t, "(not (= v0:8 #8:0))"), 0}, {[]quant{exists(0, 8)}, term(t, "(= v0:8 #8:0)"), 1},
		{[]quant{every(7, 2), exists(3, 2), every(5, 2)}, term(t, "(or (= v3:2 v7:2) (= v5:2 #2:0))"), 1},
		{[]quant{every(7, 2), every(5, 2), exists(3, 2)}, term(t, "(and (= v3:2 v7:2) (= v3:2 v5:2))"), 0},
	} {
		isFront(t, "worth", x.q, x.rest, true)
		frontHolds(t, "worth", x.q, x.rest, x.asked)
		want(t, "the model", belowModel(x.q, x.rest, [8]int{}), x.asked)
		holds(t, "worth", backIs(t, "worth", x.q, x.rest), x.asked)
		anIdleOneChangesNothing(t, "worth", x.q, x.rest, x.asked)
	}
}

// Each number of denials above, between and below two quantifiers.
func TestFrontBelowDenials(t *testing.T) {
	denials := func(x []node, count int) []node {
		for range count {
			x = append(x, not(len(x)-1))
		}
		return x
	}
	for i := range 64 {
		above, between, below, kinds := i%4, i/4%4, i/16, []int{impl.OpAll, impl.OpSome}
		for j := range 4 {
			outer, inner := kinds[j%2], kinds[j/2]
			rest := denials([]node{variable(0, 2), variable(1, 2), two(impl.OpLess, 0, 1)}, below)
			x := append(slices.Clone(rest), node{Op: inner, W: 1, K: 1, A: len(rest) - 1, B: 2})
			x = denials(x, between)
			x = append(x, node{Op: outer, W: 1, K: 0, A: len(x) - 1, B: 2})
			x = denials(x, above)
			frontIs(t, "denials", x, []quant{
				{All: (outer == impl.OpAll) == (above%2 == 0), Var: 0, Bits: 2},
				{All: (inner == impl.OpAll) == ((above+between)%2 == 0), Var: 1, Bits: 2},
			}, denials(rest, above+between))
		}
	}
}

func TestRootsThatAreQuantifiers(t *testing.T) {
	frontIs(t, "two twos", twoTwos(), []quant{every(0, 2), exists(1, 2)}, twoTwos()[:5])
	// eight of them above each other
	x, q := []node{constant(1, 1)}, []quant{}
	for v := range impl.MaxVars {
		x = append(x, node{Op: impl.OpAll + v%2, W: 1, K: v, A: v, B: 1 + v%2})
		q = slices.Insert(q, 0, quant{All: v%2 == 0, Var: v, Bits: 1 + v%2})
	}
	frontIs(t, "eight", x, q, []node{constant(1, 1)})
	// the root's own part is not the node ahead of it, and what stands between them is not reached
	x = []node{constant(0, 1), variable(0, 1), variable(0, 1), not(2), constant(1, 3), some(0, 1, 1)}
	frontIs(t, "a part far ahead", x, []quant{exists(0, 1)}, []node{variable(0, 1)})
	x = []node{constant(0, 1), variable(0, 1), two(impl.OpAnd, 0, 1), not(1), constant(1, 3), some(3, 2, 2), not(5), all(0, 1, 5), constant(1, 8), all(1, 8, 7)}
	frontIs(t, "three with nodes between", x, []quant{every(1, 8), every(0, 1), exists(3, 2)}, []node{constant(0, 1), variable(0, 1), two(impl.OpAnd, 0, 1)})
	// a quantifier's own part is the first node
	x = []node{constant(1, 1), all(2, 8, 0), some(1, 3, 1), not(2), all(0, 1, 3)}
	frontIs(t, "the first node", x, []quant{every(0, 1), every(1, 3), exists(2, 8)}, []node{constant(1, 1), not(0)})
}

func TestQuantifiersAsParts(t *testing.T) {
	// both parts of one, in either order of the list
	x := []node{variable(0, 1), variable(1, 2), all(0, 1, 0), two(impl.OpEq, 1, 1), some(1, 2, 3), two(impl.OpAnd, 2, 4)}
	rest := []node{variable(0, 1), variable(1, 2), two(impl.OpEq, 1, 1), two(impl.OpAnd, 0, 2)}
	frontIs(t, "A ahead of B", x, []quant{every(0, 1), exists(1, 2)}, rest)
	x[5], rest[3] = two(impl.OpOr, 4, 2), two(impl.OpOr, 2, 0)
	frontIs(t, "B ahead of A", x, []quant{exists(1, 2), every(0, 1)}, rest)
	// both quantifiers have one part, which is theirs alone once they are gone
	x = []node{constant(1, 1), all(0, 1, 0), some(1, 1, 0), two(impl.OpAnd, 1, 2)}
	frontIs(t, "one part of two quantifiers", x, []quant{every(0, 1), exists(1, 1)}, []node{constant(1, 1), two(impl.OpAnd, 0, 0)})
	// a quantifier beside its own part, and beside what it shares with it
	x = []node{variable(0, 1), variable(1, 1), not(0), some(1, 1, 2), two(impl.OpOr, 2, 3), all(0, 1, 4)}
	frontIs(t, "beside its part", x, []quant{every(0, 1), exists(1, 1)}, []node{variable(0, 1), not(0), two(impl.OpOr, 1, 1)})
	// rows of quantifiers on both sides
	x = []node{variable(0, 1), variable(1, 1), some(1, 1, 1), all(2, 1, 2), all(3, 2, 0), some(0, 1, 4), not(3), two(impl.OpOr, 5, 6)}
	frontIs(t, "rows on both sides", x, []quant{exists(0, 1), every(3, 2), exists(2, 1), every(1, 1)}, []node{variable(0, 1), variable(1, 1), not(1), two(impl.OpOr, 0, 2)})
}

func TestQuantifiersThatAreShared(t *testing.T) {
	q := []node{variable(0, 1), all(0, 1, 0)}
	with := func(more ...node) []node { return append(slices.Clone(q), more...) }
	// by one that is reached and others that are not: it comes to the front once
	x := with(not(1), two(impl.OpXor, 1, 1), some(1, 8, 1), two(impl.OpAnd, 1, 4), not(2))
	frontIs(t, "shared with what is not reached", x, []quant{every(0, 1)}, []node{variable(0, 1), not(0), not(1)})
	x = with(two(impl.OpEq, 1, 1), node{Op: impl.OpIf, W: 1, A: 1, B: 1, C: 1}, two(impl.OpOr, 1, 1), constant(0, 1), two(impl.OpOr, 5, 1))
	frontIs(t, "shared with what is not reached", x, []quant{every(0, 1)}, []node{variable(0, 1), constant(0, 1), two(impl.OpOr, 1, 0)})
	// by several that are reached: no sentence
	hasNoFront(t, "both parts", with(two(impl.OpAnd, 1, 1)))
	hasNoFront(t, "a part of two", with(not(1), two(impl.OpOr, 1, 2)))
	hasNoFront(t, "a part of two quantifiers", with(all(1, 1, 1), some(2, 1, 1), two(impl.OpAnd, 2, 3)))
	hasNoFront(t, "below what is two parts", with(not(1), two(impl.OpAnd, 2, 2)))
}

func TestWhatTheRootDoesNotReachHasNoFront(t *testing.T) {
	idle := []node{
		variable(0, 8), variable(0, 3), two(impl.OpEq, 1, 1), all(0, 8, 2), all(1, 8, 3), some(0, 1, 4), some(2, 8, 5), two(impl.OpXor, 6, 5), not(6),
	}
	frontIs(t, "behind idle ones", putBehind(idle, twoTwos()...), []quant{every(0, 2), exists(1, 2)}, twoTwos()[:5])
	for i := range idle {
		x := append(slices.Clone(idle[:i+1]), constant(1, 1))
		frontIs(t, "a constant behind idle ones", x, nil, []node{constant(1, 1)})
		frontIs(t, "a quantifier behind idle ones", append(x, all(5, 4, len(x)-1)), []quant{every(5, 4)}, []node{constant(1, 1)})
	}
	// idle ones between, that hang on what is reached
	x := []node{variable(0, 1), some(3, 4, 0), not(1), all(0, 1, 0), not(3), some(6, 8, 4), not(3)}
	frontIs(t, "idle ones between", x, []quant{exists(0, 1)}, []node{variable(0, 1), not(0)})
	// nodes that are alike stay as many as they are
	x = []node{variable(0, 1), variable(0, 1), two(impl.OpAnd, 0, 1), all(0, 1, 2)}
	frontIs(t, "alike", x, []quant{every(0, 1)}, x[:3])
}

func TestFrontOfMostBits(t *testing.T) {
	for _, op := range []int{impl.OpAll, impl.OpSome} {
		for _, widths := range [][]int{{8, 4}, {4, 4, 4}, {1, 1, 1, 1, 2, 2, 2, 2}, {8, 5}, {8, 8, 8, 8, 8, 8, 8, 8}} {
			q := []quant{}
			for v, w := range widths {
				q = append(q, quant{All: op == impl.OpAll, Var: v, Bits: w})
			}
			x := nest(op, widths...)
			frontIs(t, "many bits", x, q, []node{constant(1, 1)})
			isFront(t, "many bits", q, []node{constant(1, 1)}, true)
			row := impl.Rows(q)
			if bitsOfQuants(q) <= 12 {
				frontHolds(t, "MaxBits", q, []node{constant(1, 1)}, 1)
				want(t, "Rows", len(row), 12)
			} else {
				frontHoldsNot(t, "beyond MaxBits", q, []node{constant(1, 1)})
				want(t, "Rows", len(row), 0)
			}
		}
	}
	// the last words of the outermost and of the innermost count
	q := []quant{every(0, 8), exists(1, 4)}
	rest := term(t, "(= (slice 0 4 v0:8) v1:4)")
	frontHolds(t, "twelve bits", q, rest, 1)
	frontHolds(t, "twelve bits", []quant{q[1], q[0]}, rest, 0)
	frontHolds(t, "twelve bits", []quant{exists(0, 8), every(1, 4)}, term(t, "(and (= v0:8 #8:255) (< v1:4 #4:15))"), 0)
	frontHolds(t, "twelve bits", []quant{exists(0, 8), exists(1, 4)}, term(t, "(and (= v0:8 #8:255) (= v1:4 #4:15))"), 1)
	// one bit more, be it idle
	frontHoldsNot(t, "thirteen bits", append(q, every(2, 1)), rest)
	isFront(t, "thirteen bits", append(q, every(2, 1)), rest, true)
	backIs(t, "thirteen bits", append(q, every(2, 1)), rest)
}

func TestFrontOfTermsThatAreNone(t *testing.T) {
	many := make([]node, impl.MaxNodes+1)
	for i := range many {
		many[i] = constant(1, 1)
	}
	frontIs(t, "MaxNodes", many[1:], nil, []node{constant(1, 1)})
	for _, x := range [][]node{
		nil, {}, many, {constant(2, 1)}, {{Op: 21, W: 1}}, {{Op: -1, W: 1}}, {variable(8, 1), constant(1, 1)}, {variable(-1, 1), constant(1, 1)},
		{constant(0, 1), not(1)}, {constant(0, 1), not(-1)}, {constant(0, 1), all(8, 1, 0)}, {constant(0, 1), all(-1, 1, 0)}, {constant(0, 1), all(0, 9, 0)},
		{constant(0, 1), all(0, 0, 0)}, {constant(0, 2), all(0, 1, 0)}, {constant(0, 1), some(0, 1, 1)}, {constant(0, 1), {Op: impl.OpAll, W: 1, B: 1, C: 1}},
		{{Op: math.MaxInt, W: 1}}, {{Op: math.MinInt, W: 1}}, {constant(0, 1), not(math.MaxInt)}, {constant(0, 1), all(math.MinInt, 1, 0)},
		{constant(0, 1), all(0, math.MaxInt, 0)}, {constant(0, 1), all(0, math.MinInt, 0)}, {constant(0, 1), all(0, 1, math.MinInt)}, {constant(math.MaxInt, 1)},
	} {
		hasNoFront(t, "no term", x)
		isFront(t, "no term", nil, x, false)
		isFront(t, "no term", []quant{every(0, 1)}, x, false)
	}
	for _, text := range []string{
		"v0:1", "#2:1", "(all v0:1 v1:1)", "(and v0:1 (all v0:1 v0:1))", "(and (all v0:1 v0:1) v0:1)", "(all v0:1 (some v0:1 v0:1))",
		"(and (all v0:1 v0:1) (all v0:1 (not v0:1)))", "(all v0:2 v0:1)", "(xor (all v0:1 v0:1) #1:0)", "(= #1:1 (all v0:1 v0:1))",
		"(if (all v0:1 v0:1) #1:0 #1:1)", "(if #1:1 (all v0:1 v0:1) #1:1)", "(slice 0 1 (all v0:1 v0:1))", "(join #1:0 (all v0:1 v0:1))",
		"(add (some v0:1 v0:1) #1:1)", "(not (xor #1:1 (not (all v0:1 v0:1))))", "(not #3:1)", "(all v0:1 (= (all v1:1 v1:1) v0:1))",
	} {
		hasNoFront(t, text, term(t, text))
	}
}

func TestVariablesOfTheFront(t *testing.T) {
	rest := []node{constant(1, 1)}
	for v := range impl.MaxVars {
		for w := 1; w <= impl.MaxWidth; w++ {
			q := []quant{{All: w%2 == 0, Var: v, Bits: w}}
			isFront(t, "one", q, rest, true)
			frontHolds(t, "one", q, rest, 1)
			backIs(t, "one", q, rest)
			for u := range impl.MaxVars {
				isFront(t, "two", append(q, quant{All: w%3 == 0, Var: u, Bits: 1 + w/2}), rest, u != v)
				isFront(t, "three", append(q, every((v+1)%8, 8), exists(u, w)), rest, u != v && u != (v+1)%8)
			}
			for _, u := range append(farNumbers(), impl.MaxVars, 9, 64, 255) {
				isFront(t, "no variable", []quant{{Var: u, Bits: w}}, rest, false)
				isFront(t, "no variable", append(q, every(u, w)), rest, false)
				isFront(t, "no variable", []quant{every(u, w), q[0]}, rest, false)
				isFront(t, "no variable", []quant{exists(u, w), every(u, w)}, rest, false)
			}
		}
		for _, w := range noWidths() {
			isFront(t, "no width", []quant{{Var: v, Bits: w}}, rest, false)
			isFront(t, "no width", []quant{every(v, w), exists((v+1)%8, 1)}, rest, false)
			isFront(t, "no width", []quant{every((v+1)%8, 1), exists(v, w)}, rest, false)
			isFront(t, "no width", []quant{every(v, w), exists((v+1)%8, -w)}, rest, false)
		}
	}
	isFront(t, "no quantifiers", nil, rest, true)
	isFront(t, "no quantifiers", []quant{}, rest, true)
	q := []quant{}
	for v := range impl.MaxVars {
		q = append(q, every(v, 1))
	}
	isFront(t, "all variables", q, rest, true)
	isFront(t, "nine", append(q, every(0, 1)), rest, false)
	isFront(t, "nine", append(q, every(8, 1)), rest, false)
	isFront(t, "very many", slices.Repeat(q, 10000), rest, false)
}

func TestRestsOfTheFront(t *testing.T) {
	q := []quant{every(0, 1), exists(1, 3)}
	for _, text := range []string{"#1:0", "v0:1", "(= v1:3 v1:3)", "(and v0:1 (< v1:3 #3:2))", "(not v0:1)", "(slice 2 1 v1:3)", "(if v0:1 v0:1 #1:1)"} {
		isFront(t, text, q, term(t, text), true)
	}
	// a root that is wider
	for w := 1; w <= impl.MaxWidth; w++ {
		isFront(t, "a constant for a root", q, []node{constant(0, w)}, w == 1)
		isFront(t, "a variable for a root", []quant{every(2, w)}, []node{variable(2, w)}, w == 1)
		isFront(t, "a wide one that is not the root", q, []node{constant(0, w), constant(0, 1)}, true)
	}
	// a quantifier in it, reached or not
	for _, n := range []node{all(5, 1, 0), some(5, 8, 0), all(0, 1, 0), some(1, 3, 0)} {
		isFront(t, "a quantifier for a root", q, []node{constant(1, 1), n}, false)
		isFront(t, "a quantifier below", q, []node{constant(1, 1), n, not(1)}, false)
		isFront(t, "a quantifier that is not reached", q, []node{constant(1, 1), n, constant(1, 1)}, false)
		isFront(t, "a quantifier that is not reached", q, []node{constant(1, 1), n, not(0)}, false)
		isFront(t, "one that is not reached, and no quantifier else", nil, []node{constant(1, 1), n, not(0)}, false)
	}
	// a variable that is none of the quantifiers', or of another width
	for v := range impl.MaxVars {
		for w := 1; w <= impl.MaxWidth; w++ {
			right := v == 0 && w == 1 || v == 1 && w == 3
			x := []node{variable(v, w), two(impl.OpEq, 0, 0)}
			isFront(t, "a variable", q, x, right)
			isFront(t, "a variable", []quant{q[1], q[0]}, x, right)
			isFront(t, "a variable below no quantifier", nil, x, false)
			isFront(t, "one that is not reached", q, append(x, constant(1, 1)), true)
			isFront(t, "one that is not reached, and no quantifier", nil, append(x, constant(1, 1)), true)
			frontHolds(t, "one that is not reached, and no quantifier", nil, append(x, constant(1, 1)), 1)
			isFront(t, "beside a right one", q, []node{variable(v, w), variable(1, 3), two(impl.OpEq, 0, 0), two(impl.OpEq, 1, 1), two(impl.OpAnd, 2, 3)}, right)
			isFront(t, "behind a right one", q, []node{variable(1, 3), variable(v, w), two(impl.OpEq, 0, 0), two(impl.OpEq, 1, 1), two(impl.OpAnd, 2, 3)}, right)
		}
	}
}

func TestHowManyNodesBackHas(t *testing.T) {
	for count := range impl.MaxVars + 1 {
		q := []quant{}
		for v := range count {
			q = append(q, quant{All: v%2 == 0, Var: 7 - v, Bits: 1})
		}
		for _, n := range []int{1, 2, impl.MaxNodes - 9, impl.MaxNodes - count - 1, impl.MaxNodes - count, impl.MaxNodes - count + 1, impl.MaxNodes} {
			rest := []node{constant(1, 1)}
			for len(rest) < min(n, 80) {
				rest = append(rest, not(len(rest)-1))
			}
			isFront(t, "a long rest", q, rest, true)
			// the worth does not hang on how long Back is
			frontHolds(t, "a long rest", q, rest, len(rest)%2)
			if len(rest)+count <= impl.MaxNodes {
				holds(t, "a long rest", backIs(t, "a long rest", q, rest), len(rest)%2)
			} else {
				hasNoBack(t, "a long rest", q, rest)
			}
		}
	}
	rest := slices.Repeat([]node{constant(1, 1)}, impl.MaxNodes+1)
	isFront(t, "a rest of too many", nil, rest, false)
	// what the root does not reach stays in Back
	rest = []node{variable(3, 2), constant(1, 5), variable(0, 1), not(2), variable(0, 1)}
	backIs(t, "with idle ones", []quant{every(0, 1), exists(6, 2)}, rest)
}

func TestRows(t *testing.T) {
	for _, x := range []struct {
		q     []quant
		flags string
		swaps int
	}{
		{nil, "", 0}, {[]quant{}, "", 0}, {[]quant{every(0, 1)}, "a", 0}, {[]quant{exists(0, 1)}, "s", 0},
		{[]quant{every(0, 8)}, "aaaaaaaa", 0}, {[]quant{exists(5, 8)}, "ssssssss", 0},
		{[]quant{every(0, 2), exists(1, 3)}, "aasss", 1}, {[]quant{exists(1, 3), every(0, 2)}, "sssaa", 1},
		{[]quant{every(0, 2), every(1, 3)}, "aaaaa", 0}, {[]quant{exists(0, 2), exists(1, 1)}, "sss", 0},
		{[]quant{every(0, 1), exists(1, 2), every(2, 3)}, "assaaa", 2}, {[]quant{exists(0, 1), exists(1, 1), every(2, 1), every(3, 1), exists(4, 2)}, "ssaass", 2},
		{[]quant{every(0, 8), exists(1, 4)}, "aaaaaaaassss", 1}, {[]quant{every(0, 8), exists(1, 5)}, "", 1}, {[]quant{exists(0, 4), every(1, 4), exists(2, 4)}, "ssssaaaassss", 2},
		{[]quant{every(0, 8), exists(1, 4), every(2, 1)}, "", 2}, {[]quant{every(0, 8), exists(1, 8), every(2, 1)}, "", 2},
		// the variables are of no matter
		{[]quant{every(0, 1), exists(0, 1), every(0, 1)}, "asa", 2}, {[]quant{every(-1, 1), exists(8, 2)}, "ass", 1},
		{[]quant{every(math.MinInt, 2), exists(math.MaxInt, 1)}, "aas", 1}, {slices.Repeat([]quant{every(3, 1)}, 12), "aaaaaaaaaaaa", 0},
		{slices.Repeat([]quant{every(3, 1)}, 13), "", 0}, {slices.Repeat([]quant{every(3, 1), exists(3, 1)}, 6), "asasasasasas", 11},
		{slices.Repeat([]quant{every(3, 1), exists(3, 1)}, 100000), "", 199999}, {slices.Repeat([]quant{exists(3, 8)}, 100000), "", 0},
	} {
		flags := ""
		for _, all := range impl.Rows(x.q) {
			flags += map[bool]string{true: "a", false: "s"}[all]
		}
		if flags != x.flags {
			t.Errorf("Rows of %v is %q, not %q", x.q[:min(len(x.q), 20)], flags, x.flags)
		}
		want(t, "Swaps", impl.Swaps(x.q), x.swaps, len(x.q))
	}
}

func TestRowsOfNoWidth(t *testing.T) {
	for _, w := range noWidths() {
		for _, q := range [][]quant{
			{every(0, w)}, {exists(0, w)}, {every(0, 1), exists(1, w)}, {every(0, w), exists(1, 1)}, {every(0, w), exists(1, -w)}, {every(0, w), every(1, w)},
			{every(0, 8), every(1, w), every(2, 1)}, {every(0, 8), every(1, 4), every(2, w)}, {every(0, w), every(1, 8), every(2, 4)},
		} {
			if row := impl.Rows(q); len(row) != 0 {
				t.Errorf("Rows of %v is %v", q, row)
			}
			// Swaps asks for no width and no variable
			want(t, "Swaps", impl.Swaps(append(q, quant{All: !q[len(q)-1].All, Var: w, Bits: w})), impl.Swaps(q)+1)
			want(t, "Swaps", impl.Swaps(append(q, quant{All: q[len(q)-1].All, Var: w, Bits: w})), impl.Swaps(q))
		}
	}
}

// There can be more ways to what has no quantifier than could be gone.
func TestFrontOfManyWays(t *testing.T) {
	for _, op := range []int{impl.OpAnd, impl.OpOr} {
		x := []node{variable(0, 1)}
		for len(x) < impl.MaxNodes-2 {
			x = append(x, two(op, len(x)-1, len(x)-1))
		}
		rest := slices.Clone(x)
		frontIs(t, "2^77 ways", append(x, some(0, 1, 77)), []quant{exists(0, 1)}, rest)
		frontIs(t, "2^77 ways, denied", append(x, all(0, 1, 77), not(78)), []quant{exists(0, 1)}, append(rest, not(77)))
		frontHolds(t, "2^77 ways", []quant{every(0, 1)}, rest, 0)
		// quantifiers on so many ways that are not reached
		x = []node{constant(1, 1), all(0, 1, 0)}
		for len(x) < impl.MaxNodes-2 {
			x = append(x, two(op, len(x)-1, len(x)-1))
		}
		frontIs(t, "quantifiers that are not reached", append(x, not(1)), []quant{exists(0, 1)}, []node{constant(1, 1), not(0)})
		hasNoFront(t, "a quantifier on 2^77 ways", append(x, not(len(x)-1)))
	}
}

// sentenceDraw builds a sentence whose quantifiers stand in all sorts of places.
type sentenceDraw struct {
	d    *dice
	t    []node
	next int
	bits int
}

func (s *sentenceDraw) put(n node) int {
	if s.d.below(6) == 0 {
		s.idle()
	}
	s.t = append(s.t, n)
	return len(s.t) - 1
}

// idle puts a node that nothing will have for a part, a quantifier among others.
func (s *sentenceDraw) idle() {
	p := s.d.below(len(s.t) + 1)
	switch {
	case p == len(s.t):
		s.t = append(s.t, variable(s.d.below(8), 1+s.d.below(8)))
	case s.t[p].W != 1:
		s.t = append(s.t, two(impl.OpEq, p, p))
	case s.d.below(2) == 0:
		s.t = append(s.t, node{Op: impl.OpAll + s.d.below(2), W: 1, K: s.d.below(8), A: p, B: 1 + s.d.below(8)})
	default:
		s.t = append(s.t, two(impl.OpXor, p, p))
	}
}

// word is a place of a word of width w, of the variables of scope where there are such.
func (s *sentenceDraw) word(scope []quant, w int) int {
	if len(scope) == 0 || s.d.below(5) == 0 {
		return s.put(constant(s.d.below(power(w)), w))
	}
	x := scope[s.d.below(len(scope))]
	v := slices.Index(s.t, variable(x.Var, x.Bits))
	if v < 0 || s.d.below(3) == 0 {
		v = s.put(variable(x.Var, x.Bits))
	}
	switch {
	case x.Bits > w:
		return s.put(node{Op: impl.OpSlice, W: w, K: s.d.below(x.Bits - w + 1), A: v})
	case x.Bits < w:
		return s.put(node{Op: impl.OpJoin, W: w, A: s.put(constant(0, w-x.Bits)), B: v})
	}
	return v
}

func (s *sentenceDraw) leaf(scope []quant) int {
	if s.d.below(4) == 0 {
		return s.word(scope, 1)
	}
	w := 1 + s.d.below(3)
	a := s.word(scope, w)
	if s.d.below(3) == 0 {
		b := s.word(scope, w)
		a = s.put(node{Op: impl.OpAnd + s.d.below(10), W: w, A: a, B: b})
	}
	return s.put(two(impl.OpEq+s.d.below(3), a, s.word(scope, w)))
}

func (s *sentenceDraw) formula(scope []quant, depth int) int {
	kind := s.d.below(8)
	switch {
	case depth == 0 || len(s.t) > 40 || kind == 0:
		return s.leaf(scope)
	case kind <= 2:
		return s.put(not(s.formula(scope, depth-1)))
	case kind <= 4 || s.next == impl.MaxVars:
		a := s.formula(scope, depth-1)
		return s.put(two(impl.OpAnd+s.d.below(2), a, s.formula(scope, depth-1)))
	}
	x := quant{Var: (s.next*5 + 3) % 8, Bits: 1 + s.d.below(2)}
	if s.bits+x.Bits > 12 && s.d.below(4) > 0 {
		return s.leaf(scope)
	}
	s.next++
	s.bits += x.Bits
	inner := append(slices.Clone(scope), x)
	part := s.formula(inner, depth-1)
	return s.put(node{Op: impl.OpAll + s.d.below(2), W: 1, K: x.Var, A: part, B: x.Bits})
}

func drawSentence(d *dice) []node {
	for {
		s := sentenceDraw{d: d}
		s.formula(nil, 1+d.below(7))
		if len(s.t) <= impl.MaxNodes && fewWays(s.t) {
			return s.t
		}
	}
}

func TestFrontAgainstModel(t *testing.T) {
	d := dice(51)
	var counts [3]int
	swaps := 0
	for round := range 4500 {
		x := drawSentence(&d)
		if round%3 == 0 {
			x = drawTerm(&d)
		}
		if !sentenceModel(x) {
			hasNoFront(t, "drawn", x)
			counts[2]++
			continue
		}
		q := quantsModel(x, len(x)-1, 0)
		rest := restModel(x)
		swaps += one(impl.Swaps(q) > 1 && x[len(x)-1].Op == impl.OpNot)
		frontIs(t, "drawn", x, q, rest)
		want(t, "Bits", bitsOfQuants(q), bitsModel(x))
		if bitsOfQuants(q) <= 10 && workOf(x) < 20000 {
			v := valueModel(x, len(x)-1, [8]int{})
			counts[v]++
			frontHolds(t, "drawn", q, rest, v)
		}
		if t.Failed() {
			t.FailNow()
		}
	}
	if slices.Min(counts[:]) < 500 || swaps < 50 {
		t.Errorf("%v sentences and others, %d of them with many swaps, are too few", counts, swaps)
	}
}

// What is drawn beside Front: rows that fit the rest, or not.
func TestFrontOkAgainstModel(t *testing.T) {
	d := dice(52)
	var counts [2]int
	for counts[0] < 3000 || counts[1] < 1500 {
		x := drawTerm(&d)
		if d.below(2) == 0 {
			x = restModel(x)
		}
		q := []quant{}
		for _, n := range x {
			known := slices.ContainsFunc(q, func(x quant) bool { return x.Var == n.K })
			if n.Op == impl.OpVar && (!known || d.below(50) == 0) && d.below(30) > 0 {
				q = slices.Insert(q, d.below(len(q)+1), quant{All: d.below(2) == 0, Var: n.K, Bits: n.W})
			}
		}
		if d.below(8) == 0 {
			q = append(q, quant{Var: d.below(10) - 1, Bits: d.below(10)})
		}
		asked := frontOkModel(q, x)
		counts[one(asked)]++
		isFront(t, "drawn", q, x, asked)
		switch {
		case asked && bitsOfQuants(q) > 12:
			frontHoldsNot(t, "drawn", q, x)
		case asked && bitsOfQuants(q) <= 8:
			v := belowModel(q, x, [8]int{})
			frontHolds(t, "drawn", q, x, v)
			holds(t, "drawn", backIs(t, "drawn", q, x), v)
			anIdleOneChangesNothing(t, "drawn", q, x, v)
		}
		if t.Failed() {
			t.FailNow()
		}
	}
}

// A denied sentence has each quantifier of the other kind, and is worth the other one.
func TestFrontOfDeniedSentences(t *testing.T) {
	d := dice(53)
	var counts [2]int
	for counts[0] < 500 || counts[1] < 500 {
		x := drawSentence(&d)
		q, rest, ok := impl.Front(x)
		if !ok || len(x) == impl.MaxNodes {
			continue
		}
		turned, more, ok := impl.Front(append(x, not(len(x)-1)))
		if !ok || len(turned) != len(q) || !slices.Equal(more, append(slices.Clone(rest), not(len(rest)-1))) {
			t.Fatalf("Front of %v, denied, is %v, %v, %v", x, turned, more, ok)
		}
		for i := range q {
			if turned[i] != (quant{All: !q[i].All, Var: q[i].Var, Bits: q[i].Bits}) {
				t.Fatalf("Front of %v, denied, is %v, not %v turned", x, turned, q)
			}
		}
		want(t, "Swaps", impl.Swaps(turned), impl.Swaps(q))
		if v, ok := impl.HoldsFront(q, rest); ok {
			counts[v]++
			frontHolds(t, "denied", turned, more, 1-v)
		}
	}
}

// Any numbers in any field are answered, and refused by all alike.
func TestFrontOfAnyNumbers(t *testing.T) {
	d := dice(54)
	numbers := append(farNumbers(), 0, 1, 2, 3, 7, 8, 9, 20, 21)
	pick := func() int { return numbers[d.below(len(numbers))] }
	for range 20000 {
		x := drawSentence(&d)
		q, rest, _ := impl.Front(x)
		for range 1 + d.below(2) {
			*field(&x[d.below(len(x))], "OWKABC"[d.below(6)]) = pick()
			if d.below(2) == 0 {
				*field(&rest[d.below(len(rest))], "OWKABC"[d.below(6)]) = pick()
			}
			if len(q) > 0 && d.below(2) == 0 {
				q[d.below(len(q))].Bits = pick()
			}
			if len(q) > 0 && d.below(2) == 0 {
				q[d.below(len(q))].Var = pick()
			}
		}
		if !termModel(x) {
			hasNoFront(t, "any numbers", x)
		} else if _, _, ok := impl.Front(x); fewWays(x) && ok != sentenceModel(x) {
			t.Fatalf("Front of %v is %v", x, ok)
		}
		asked := termModel(rest) && frontOkModel(q, rest)
		isFront(t, "any numbers", q, rest, asked)
		v, ok := impl.HoldsFront(q, rest)
		if ok != (asked && bitsOfQuants(q) <= 12) {
			t.Fatalf("HoldsFront of %v, %v is %d, %v", q, rest, v, ok)
		}
		if t.Failed() {
			t.FailNow()
		}
	}
}

func TestFrontWritesIntoNothing(t *testing.T) {
	d := dice(55)
	junk := node{Op: -7, W: -7, K: -7, A: -7, B: -7, C: -7}
	for round := range 2000 {
		x := drawSentence(&d)
		if round%4 == 0 {
			x = drawTerm(&d)
		}
		room := append(slices.Clone(x), slices.Repeat([]node{junk}, 12)...)
		before := slices.Clone(room)
		q, rest, ok := impl.Front(room[:len(x)])
		askedQ, askedRest := slices.Clone(q), slices.Clone(rest)
		clear(q[:cap(q)])
		clear(rest[:cap(rest)])
		again, left, same := impl.Front(room[:len(x)])
		if same != ok || !slices.Equal(again, askedQ) || !slices.Equal(left, askedRest) || !slices.Equal(room, before) {
			t.Fatalf("Front of %v has become %v, %v, of %v", before, again, left, room)
		}
		if !ok {
			askedRest = x
		}
		rows := append(slices.Clone(askedQ), slices.Repeat([]quant{{Var: -7, Bits: -7}}, 12)...)
		nodes := append(slices.Clone(askedRest), slices.Repeat([]node{junk}, 12)...)
		rowsBefore, nodesBefore := slices.Clone(rows), slices.Clone(nodes)
		row, list := rows[:len(askedQ)], nodes[:len(askedRest)]
		fine, swaps, flags := impl.FrontOk(row, list), impl.Swaps(row), impl.Rows(row)
		v, has := impl.HoldsFront(row, list)
		back, made := impl.Back(row, list)
		askedFlags, askedBack := slices.Clone(flags), slices.Clone(back)
		clear(flags[:cap(flags)])
		clear(back[:cap(back)])
		if !slices.Equal(rows, rowsBefore) || !slices.Equal(nodes, nodesBefore) {
			t.Fatalf("%v, %v have become %v, %v", rowsBefore, nodesBefore, rows, nodes)
		}
		if impl.FrontOk(row, list) != fine || impl.Swaps(row) != swaps || !slices.Equal(impl.Rows(row), askedFlags) {
			t.Fatalf("%v, %v are answered otherwise a second time", row, list)
		}
		u, hasToo := impl.HoldsFront(row, list)
		y, madeToo := impl.Back(row, list)
		if u != v || hasToo != has || madeToo != made || !slices.Equal(y, askedBack) {
			t.Fatalf("%v, %v are worth something else a second time", row, list)
		}
	}
}
