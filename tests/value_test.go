package tests

import (
	"math"
	"slices"
	"testing"

	"loop.example/g00116/impl"
)

func isWord(w, a int) bool { return w >= 1 && w <= 8 && a >= 0 && a < power(w) }

func one(yes bool) int {
	if yes {
		return 1
	}
	return 0
}

// bitwise puts two numbers of 0 .. 255 together bit by bit.
func bitwise(a, b int, f func(x, y int) bool) int {
	sum := 0
	for i := range 8 {
		sum += one(f(a/power(i)%2, b/power(i)%2)) * power(i)
	}
	return sum
}

func signedModel(w, a int) int {
	if a >= power(w-1) {
		return a - power(w)
	}
	return a
}

// wordModel is what the operators from OpAdd to OpShr say of words of width w.
func wordModel(op, w, a, b int) int {
	p := power(w)
	switch {
	case !isWord(w, a) || !isWord(w, b):
		return 0
	case op == impl.OpAdd:
		return (a + b) % p
	case op == impl.OpSub:
		return (a + p - b) % p
	case op == impl.OpMul:
		return a * b % p
	case op == impl.OpDiv && b == 0:
		return p - 1
	case op == impl.OpDiv:
		return a / b
	case op == impl.OpRem && b == 0:
		return a
	case op == impl.OpRem:
		return a % b
	case b >= w:
		return 0
	case op == impl.OpShl:
		return a * power(b) % p
	}
	return a / power(b)
}

func applyModel(n node, w, a, b, c int) int {
	if n.W < 1 || n.W > 8 || w < 1 || w > 8 || a < 0 || a > 255 || b < 0 || b > 255 || c < 0 || c > 255 {
		return 0
	}
	words := isWord(w, a) && isWord(w, b)
	switch n.Op {
	case impl.OpConst:
		return n.K
	case impl.OpNot:
		return one(isWord(n.W, a)) * (power(n.W) - 1 - a)
	case impl.OpAnd:
		return bitwise(a, b, func(x, y int) bool { return x+y == 2 })
	case impl.OpOr:
		return bitwise(a, b, func(x, y int) bool { return x+y > 0 })
	case impl.OpXor:
		return bitwise(a, b, func(x, y int) bool { return x+y == 1 })
	case impl.OpEq:
		return one(a == b)
	case impl.OpLess:
		return one(words && a < b)
	case impl.OpLessSigned:
		return one(words && signedModel(w, a) < signedModel(w, b))
	case impl.OpJoin:
		return one(n.W >= w)*a*power(max(n.W-w, 0)) + b
	case impl.OpSlice:
		if !isWord(w, a) || n.K < 0 || n.K > 7 || n.K+n.W > w {
			return 0
		}
		return a / power(n.K) % power(n.W)
	case impl.OpIf:
		return one(a == 1)*b + one(a != 1)*c
	}
	if n.Op < impl.OpAdd || n.Op > impl.OpShr {
		return 0
	}
	return wordModel(n.Op, n.W, a, b)
}

func applies(t *testing.T, n node, w, a, b, c int) {
	t.Helper()
	if got, asked := impl.Apply(n, w, a, b, c), applyModel(n, w, a, b, c); got != asked {
		t.Fatalf("Apply of %+v, %d, %d, %d, %d is %d, not %d", n, w, a, b, c, got, asked)
	}
}

// valueModel is what node i is worth, gone through way by way, with no check.
func valueModel(t []node, i int, env [8]int) int {
	n := t[i]
	switch n.Op {
	case impl.OpVar:
		return env[n.K]
	case impl.OpAll, impl.OpSome:
		ones := 0
		for k := range power(n.B) {
			env[n.K] = k
			ones += valueModel(t, n.A, env)
		}
		return one(ones == power(n.B) || n.Op == impl.OpSome && ones > 0)
	}
	parts := [3]int{}
	for j, p := range partsModel(n) {
		parts[j] = valueModel(t, p, env)
	}
	return applyModel(n, t[n.A].W, parts[0], parts[1], parts[2])
}

// hasValueModel asks that t is a term.
func hasValueModel(t []node, env []int) bool {
	if len(env) != 8 || bitsModel(t) > 12 {
		return false
	}
	ok := true
	eachWay(t, func(way []int) {
		end := t[way[len(way)-1]]
		if end.Op != impl.OpVar {
			return
		}
		for j := len(way) - 1; j >= 0; j-- {
			if q := t[way[j]]; isQuantifier(q) && q.K == end.K {
				ok = ok && q.B == end.W
				return
			}
		}
		ok = ok && isWord(end.W, env[end.K])
	})
	return ok
}

// workOf is how many nodes the model goes through.
func workOf(t []node) int {
	work := make([]int, len(t))
	for i, n := range t {
		work[i] = 1
		for _, p := range partsModel(n) {
			if isQuantifier(n) {
				work[i] += power(n.B) * work[p]
			} else {
				work[i] += work[p]
			}
		}
		work[i] = min(work[i], 1000000)
	}
	return work[len(t)-1]
}

func noughts() []int { return make([]int, impl.MaxVars) }

func isWorth(t *testing.T, name string, x []node, env []int, asked int) {
	t.Helper()
	if v, ok := impl.Value(x, env); v != asked || !ok {
		t.Errorf("%s: %v below %v is worth %d, %v, not %d", name, x, env, v, ok, asked)
	}
}

func hasNoValue(t *testing.T, name string, x []node, env []int) {
	t.Helper()
	if v, ok := impl.Value(x, env); v != 0 || ok {
		t.Errorf("%s: %v below %v is worth %d, %v, not nothing", name, x, env, v, ok)
	}
}

func holds(t *testing.T, name string, x []node, asked int) {
	t.Helper()
	if v, ok := impl.Holds(x); v != asked || !ok {
		t.Errorf("%s: Holds of %v is %d, %v, not %d", name, x, v, ok, asked)
	}
	isWorth(t, name, x, noughts(), asked)
}

func holdsNot(t *testing.T, name string, x []node) {
	t.Helper()
	if v, ok := impl.Holds(x); v != 0 || ok {
		t.Errorf("%s: Holds of %v is %d, %v, not nothing", name, x, v, ok)
	}
}

// term is what a text says, which must be one.
func term(t *testing.T, text string) []node {
	t.Helper()
	x, code, at := impl.ReadTerm(text)
	if code != impl.TextOk {
		t.Fatalf("%q is refused by %d %d", text, code, at)
	}
	return x
}

func TestMaxBits(t *testing.T) {
	want(t, "MaxBits", impl.MaxBits, 12)
}

func TestApplyOfWords(t *testing.T) {
	eachPair(func(w, a, b int) {
		for op := -2; op <= 23; op++ {
			applies(t, node{Op: op, W: w, K: a % w}, w, a, b, 0)
		}
		for _, op := range []int{impl.OpEq, impl.OpLess, impl.OpLessSigned} {
			applies(t, node{Op: op, W: 1}, w, a, b, 0)
		}
		for c := range 3 {
			applies(t, node{Op: impl.OpIf, W: w}, 1, c, a, b)
		}
	})
}

func TestApplyOfOneNode(t *testing.T) {
	for _, x := range []struct{ op, W, K, w, a, b, c, asked int }{
		{impl.OpConst, 3, 5, 1, 0, 0, 0, 5}, {impl.OpConst, 3, -9, 1, 0, 0, 0, -9}, {impl.OpConst, 1, math.MaxInt, 8, 255, 255, 255, math.MaxInt},
		{impl.OpVar, 3, 5, 3, 1, 1, 1, 0}, {impl.OpAll, 1, 0, 1, 1, 1, 1, 0}, {impl.OpSome, 1, 0, 1, 1, 1, 1, 0},
		{impl.OpNot, 3, 0, 3, 5, 0, 0, 2}, {impl.OpNot, 1, 0, 1, 1, 0, 0, 0}, {impl.OpNot, 8, 0, 8, 255, 0, 0, 0}, {impl.OpNot, 3, 0, 3, 8, 0, 0, 0},
		{impl.OpAnd, 3, 0, 3, 5, 6, 0, 4}, {impl.OpOr, 3, 0, 3, 5, 2, 0, 7}, {impl.OpXor, 3, 0, 3, 5, 6, 0, 3},
		{impl.OpAdd, 8, 0, 8, 255, 1, 0, 0}, {impl.OpSub, 3, 0, 3, 0, 1, 0, 7}, {impl.OpMul, 3, 0, 3, 5, 5, 0, 1}, {impl.OpAdd, 3, 0, 8, 8, 1, 0, 0},
		{impl.OpDiv, 3, 0, 3, 7, 2, 0, 3}, {impl.OpRem, 3, 0, 3, 7, 4, 0, 3}, {impl.OpDiv, 3, 0, 3, 5, 0, 0, 7}, {impl.OpRem, 3, 0, 3, 5, 0, 0, 5},
		{impl.OpDiv, 1, 0, 1, 0, 0, 0, 1}, {impl.OpDiv, 8, 0, 8, 0, 0, 0, 255}, {impl.OpRem, 8, 0, 8, 200, 0, 0, 200},
		{impl.OpShl, 4, 0, 4, 5, 1, 0, 10}, {impl.OpShr, 4, 0, 4, 10, 1, 0, 5}, {impl.OpShl, 4, 0, 4, 15, 4, 0, 0}, {impl.OpShr, 4, 0, 4, 15, 4, 0, 0},
		{impl.OpShl, 8, 0, 8, 255, 8, 0, 0}, {impl.OpShr, 8, 0, 8, 255, 255, 0, 0}, {impl.OpShl, 1, 0, 1, 1, 1, 0, 0}, {impl.OpShr, 1, 0, 1, 1, 1, 0, 0},
		{impl.OpEq, 1, 0, 3, 5, 5, 0, 1}, {impl.OpEq, 1, 0, 3, 5, 4, 0, 0}, {impl.OpEq, 1, 0, 1, 255, 255, 0, 1},
		{impl.OpLess, 1, 0, 3, 4, 1, 0, 0}, {impl.OpLessSigned, 1, 0, 3, 4, 1, 0, 1}, {impl.OpLess, 8, 0, 3, 1, 8, 0, 0}, {impl.OpLess, 1, 0, 8, 1, 8, 0, 1},
		{impl.OpJoin, 5, 0, 2, 2, 5, 0, 21}, {impl.OpJoin, 3, 0, 4, 9, 5, 0, 5}, {impl.OpJoin, 1, 0, 8, 255, 255, 0, 255}, {impl.OpJoin, 4, 0, 4, 9, 5, 0, 14},
		{impl.OpJoin, 8, 0, 1, 255, 255, 0, 32895}, {impl.OpJoin, 8, 0, 7, 127, 1, 0, 255},
		{impl.OpSlice, 2, 1, 4, 13, 0, 0, 2}, {impl.OpSlice, 8, 0, 8, 255, 0, 0, 255}, {impl.OpSlice, 2, 3, 4, 15, 0, 0, 0}, {impl.OpSlice, 2, -1, 4, 15, 0, 0, 0},
		{impl.OpIf, 3, 0, 1, 1, 5, 6, 5}, {impl.OpIf, 3, 0, 1, 0, 5, 6, 6}, {impl.OpIf, 3, 0, 1, 2, 5, 6, 6}, {impl.OpIf, 3, 0, 8, 255, 5, 6, 6},
	} {
		n := node{Op: x.op, W: x.W, K: x.K}
		want(t, "the model", applyModel(n, x.w, x.a, x.b, x.c), x.asked, x.op, x.W, x.K, x.w, x.a, x.b, x.c)
		applies(t, n, x.w, x.a, x.b, x.c)
	}
}

// The parts' values need not be words of the widths, nor the parts' places anything.
func TestApplyOfAnyNumbers(t *testing.T) {
	d := dice(41)
	bytes := []int{0, 1, 2, 3, 7, 8, 15, 16, 127, 128, 254, 255}
	for op := range 21 {
		for range 40000 {
			n := node{Op: op, W: 1 + d.below(8), K: d.below(12) - 2, A: d.below(9) - 4, B: d.below(9) - 4, C: d.below(9) - 4}
			v := [3]int{}
			for i := range v {
				if v[i] = d.below(256); d.below(2) == 0 {
					v[i] = bytes[d.below(len(bytes))]
				}
			}
			applies(t, n, 1+d.below(8), v[0], v[1], v[2])
		}
	}
}

func TestApplyOfWrongNumbers(t *testing.T) {
	for op := -3; op <= 25; op++ {
		n := node{Op: op, W: 1, K: 0}
		if op == impl.OpConst {
			n.K = 1
		}
		for _, x := range farNumbers() {
			for _, v := range [][3]int{{x, 1, 1}, {1, x, 1}, {1, 1, x}, {0, 1, x}, {x, x, x}, {0, x, 0}} {
				want(t, "Apply", impl.Apply(n, 1, v[0], v[1], v[2]), 0, op, v[0], v[1], v[2])
			}
		}
		for _, w := range noWidths() {
			wrong := n
			wrong.W = w
			for _, a := range []int{0, 1, 255} {
				want(t, "Apply of a wrong W", impl.Apply(wrong, 1, a, 1, 1), 0, op, w, a)
				want(t, "Apply of a wrong w", impl.Apply(n, w, a, 1, 1), 0, op, w, a)
				want(t, "Apply of both", impl.Apply(wrong, w, a, 1, 1), 0, op, w, a)
			}
		}
	}
	for _, op := range append(farNumbers(), 21, 22, 63, 64, 127) {
		for _, a := range []int{0, 1, 255} {
			want(t, "Apply of no operator", impl.Apply(node{Op: op, W: 8, K: 7}, 8, a, a, a), 0, op, a)
		}
	}
	for _, k := range farNumbers() {
		want(t, "Apply of a slice far off", impl.Apply(node{Op: impl.OpSlice, W: 1, K: k}, 8, 255, 0, 0), 0, k)
		want(t, "Apply of a constant", impl.Apply(node{Op: impl.OpConst, W: 1, K: k}, 8, 255, 0, 0), k, k)
	}
}

func TestSentencesOfEachQuantifier(t *testing.T) {
	for text, asked := range map[string]int{
		"(all v0:2 (= v0:2 v0:2))": 1, "(all v0:2 (= v0:2 #2:0))": 0, "(all v0:2 (= v0:2 #2:3))": 0, "(all v0:2 (< v0:2 #2:3))": 0,
		"(some v0:2 (= v0:2 #2:0))": 1, "(some v0:2 (= v0:2 #2:3))": 1, "(some v0:2 (= v0:2 #2:2))": 1, "(some v0:2 (< v0:2 v0:2))": 0,
		"(all v0:2 (some v1:2 (= (add v0:2 v1:2) #2:0)))": 1, "(some v0:2 (all v1:2 (= (add v0:2 v1:2) #2:0)))": 0,
		"(all v0:3 (some v1:3 (< v0:3 v1:3)))": 0, "(some v0:3 (all v1:3 (not (< v0:3 v1:3))))": 1,
		"(all v0:1 v0:1)": 0, "(some v0:1 v0:1)": 1, "(all v0:1 (or v0:1 (not v0:1)))": 1, "(some v0:1 (and v0:1 (not v0:1)))": 0,
		"(all v7:8 (= (sub v7:8 v7:8) #8:0))": 1, "(all v7:8 (not (= v7:8 #8:255)))": 0, "(some v7:8 (= v7:8 #8:255))": 1, "(some v7:8 (= (mul v7:8 v7:8) #8:3))": 0,
		"(all v3:4 (= (div v3:4 #4:0) #4:15))": 1, "(all v3:4 (= (rem v3:4 #4:0) v3:4))": 1, "(all v3:4 (= (shl v3:4 #4:4) #4:0))": 1, "(all v3:4 (= (shr v3:4 #4:15) #4:0))": 1,
		"(some v3:4 (s< v3:4 #4:0))": 1, "(some v3:4 (< v3:4 #4:0))": 0, "(all v0:3 (= v0:3 (join (slice 2 1 v0:3) (slice 0 2 v0:3))))": 1,
		"(all v0:1 (= #2:2 (if v0:1 #2:2 (xor #2:3 #2:1))))": 1, "(and (all v0:1 #1:1) (some v1:1 v1:1))": 1, "(or (all v0:1 v0:1) (some v1:1 #1:0))": 0,
		"(not (all v0:1 v0:1))": 1, "(not (some v0:1 v0:1))": 0, "#1:1": 1, "#1:0": 0, "(all v0:8 #1:1)": 1, "(some v0:8 #1:0)": 0, "(all v0:8 #1:0)": 0, "(some v0:8 #1:1)": 1,
	} {
		x := term(t, text)
		holds(t, text, x, asked)
		holds(t, text+" denied", append(x, not(len(x)-1)), 1-asked)
		want(t, text+" by the model", valueModel(x, len(x)-1, [8]int{}), asked)
	}
}

func TestOpenTerms(t *testing.T) {
	x := term(t, "(sub (mul v0:4 v1:4) v7:4)")
	for a := range 16 {
		for b := range 16 {
			isWorth(t, "an open term", x, []int{a, b, -1, -1, 99, math.MinInt, math.MaxInt, 5}, (a*b+11)%16)
		}
	}
	for v := range impl.MaxVars {
		env := []int{-1, 256, math.MaxInt, math.MinInt, -1, 256, math.MaxInt, math.MinInt}
		for w := 1; w <= impl.MaxWidth; w++ {
			x := []node{variable(v, w)}
			for _, k := range []int{0, 1, power(w) - 1, power(w) / 2} {
				env[v] = k
				isWorth(t, "a variable", x, env, k)
			}
			for _, k := range noWordsOf(w) {
				env[v] = k
				hasNoValue(t, "a variable that is no word", x, env)
				hasNoValue(t, "one below an operator", append(x, node{Op: impl.OpNot, W: w}), env)
				isWorth(t, "one below its quantifier", append(x, node{Op: impl.OpEq, W: 1}, all(v, w, 1)), env, 1)
				isWorth(t, "one that is not reached", append(x, constant(1, 1)), env, 1)
			}
		}
	}
	holdsNot(t, "an open term", []node{variable(0, 1)})
}

func TestNumbersOfValues(t *testing.T) {
	for _, x := range [][]node{twoTwos(), {constant(1, 1)}, {variable(0, 1)}} {
		for n := range 20 {
			env := make([]int, n, 32)
			if n == impl.MaxVars {
				if _, ok := impl.Value(x, env); !ok {
					t.Errorf("%v has no value", x)
				}
				continue
			}
			hasNoValue(t, "so many numbers", x, env)
		}
		hasNoValue(t, "no numbers", x, nil)
	}
}

func TestTermsThatAreNone(t *testing.T) {
	many := make([]node, impl.MaxNodes+1)
	for i := range many {
		many[i] = constant(1, 1)
	}
	holds(t, "MaxNodes", many[1:], 1)
	for _, x := range [][]node{
		nil, {}, many, {constant(2, 1)}, {{Op: 21, W: 1}}, {{Op: -1, W: 1}}, {variable(8, 1)}, {variable(-1, 1)}, {variable(0, 9)}, {variable(0, 0)},
		{variable(0, 1), not(1)}, {variable(0, 1), not(-1)}, {constant(0, 1), all(8, 1, 0)}, {constant(0, 1), all(0, 9, 0)}, {constant(0, 1), all(0, 0, 0)},
		{constant(0, 2), all(0, 1, 0)}, {constant(2, 1), constant(1, 1)}, {{Op: impl.OpConst, W: 1, A: 1}}, {{Op: math.MaxInt, W: 1}}, {{Op: math.MinInt, W: 1}},
		{constant(0, 1), not(math.MaxInt)}, {constant(0, 1), not(math.MinInt)}, {constant(0, math.MaxInt)}, {constant(math.MinInt, 1)},
	} {
		hasNoValue(t, "no term", x, noughts())
		holdsNot(t, "no term", x)
		for _, v := range []int{0, 1, 7, 8, -1, math.MaxInt} {
			if got, ok := impl.Replace(x, v, 0); ok || len(got) != 0 {
				t.Errorf("Replace of %v is %v, %v", x, got, ok)
			}
		}
	}
}

// nest is so many quantifiers of these widths above a constant, the first one at the front.
func nest(op int, widths ...int) []node {
	x := []node{constant(1, 1)}
	for i := len(widths) - 1; i >= 0; i-- {
		x = append(x, node{Op: op, W: 1, K: i % 8, A: len(x) - 1, B: widths[i]})
	}
	return x
}

func TestHowManyBits(t *testing.T) {
	for _, op := range []int{impl.OpAll, impl.OpSome} {
		for _, widths := range [][]int{{8, 4}, {4, 8}, {6, 6}, {4, 4, 4}, {1, 1, 1, 1, 2, 2, 2, 2}, {8, 3, 1}} {
			x := nest(op, widths...)
			holds(t, "MaxBits", x, 1)
			want(t, "Bits", impl.Bits(x), impl.MaxBits)
			widths[slices.Index(widths, slices.Min(widths))]++
			x = nest(op, widths...)
			want(t, "Bits", impl.Bits(x), impl.MaxBits+1)
			hasNoValue(t, "one more", x, noughts())
			holdsNot(t, "one more", x)
			// what the root does not reach does not count
			holds(t, "one more that is not reached", append(x, constant(1, 1)), 1)
		}
		ones := nest(op, 1, 1, 1, 1, 1, 1, 1, 1, 1, 1, 1, 1)
		isWorth(t, "twelve of one bit", ones, noughts(), 1)
		holdsNot(t, "two of one variable", ones)
		hasNoValue(t, "thirteen of one bit", append(ones, node{Op: op, W: 1, K: 7, A: len(ones) - 1, B: 1}), noughts())
		hasNoValue(t, "many of eight bits", nest(op, 8, 8, 8, 8, 8, 8, 8, 8, 8, 8, 8, 8), noughts())
		// a quantifier counts once, in however many places it is a part; side by side and nested count alike
		x := nest(op, 8, 4)
		x = append(x, two(impl.OpAnd, 2, 2), two(impl.OpAnd, 3, 2))
		isWorth(t, "a quantifier in three places", x, noughts(), 1)
		x = []node{constant(1, 1), {Op: op, W: 1, K: 0, B: 8}, {Op: op, W: 1, K: 1, B: 4}, two(impl.OpAnd, 1, 2)}
		holds(t, "side by side", x, 1)
		x[2].B = 5
		hasNoValue(t, "side by side, one more", x, noughts())
		holdsNot(t, "side by side, one more", x)
	}
}

func TestNearestQuantifier(t *testing.T) {
	// all v0 some v0 v0: the inner one counts
	holds2 := func(name string, x []node, asked int) {
		isWorth(t, name, x, []int{9, 9, 9, 9, 9, 9, 9, 9}, asked)
		holdsNot(t, name, x)
	}
	holds2("all some", []node{variable(0, 1), some(0, 1, 0), all(0, 1, 1)}, 1)
	holds2("some all", []node{variable(0, 1), all(0, 1, 0), some(0, 1, 1)}, 0)
	// what stands behind the inner one is of the outer one: some v0 (and v0 (all v0 (or v0 (not v0))))
	x := []node{variable(0, 1), not(0), two(impl.OpOr, 0, 1), all(0, 1, 2), two(impl.OpAnd, 0, 3), some(0, 1, 4)}
	holds2("the outer one behind the inner", x, 1)
	x[4] = two(impl.OpAnd, 3, 0)
	holds2("the outer one ahead of the inner", x, 1)
	// the same node under both: (= v0 (all v0 v0)) has v0 free on one way
	x = []node{variable(0, 1), all(0, 1, 0), two(impl.OpEq, 0, 1)}
	isWorth(t, "free beside bound", x, []int{0, 0, 0, 0, 0, 0, 0, 0}, 1)
	isWorth(t, "free beside bound", x, []int{1, 0, 0, 0, 0, 0, 0, 0}, 0)
	hasNoValue(t, "free beside bound", x, []int{2, 0, 0, 0, 0, 0, 0, 0})
	x[2] = two(impl.OpEq, 1, 0)
	isWorth(t, "free behind bound", x, []int{0, 0, 0, 0, 0, 0, 0, 0}, 1)
	isWorth(t, "free behind bound", x, []int{1, 0, 0, 0, 0, 0, 0, 0}, 0)
	// a greater shared part
	x = term(t, "(and (= (add v0:2 v1:2) #2:1) (some v0:2 (not (= (add v0:2 v1:2) #2:1))))")
	isWorth(t, "shared", x, []int{1, 0, 0, 0, 0, 0, 0, 0}, 1)
	isWorth(t, "shared", x, []int{2, 0, 0, 0, 0, 0, 0, 0}, 0)
	hasNoValue(t, "shared", x, []int{4, 0, 0, 0, 0, 0, 0, 0})
	hasNoValue(t, "shared", x, []int{0, -1, 0, 0, 0, 0, 0, 0})
	x = term(t, "(and (some v0:2 (not (= (add v0:2 v1:2) #2:1))) (= (add v0:2 v1:2) #2:1))")
	isWorth(t, "shared, the quantifier first", x, []int{1, 0, 0, 0, 0, 0, 0, 0}, 1)
	isWorth(t, "shared, the quantifier first", x, []int{2, 0, 0, 0, 0, 0, 0, 0}, 0)
	// a quantifier that is shared, below two values of another variable
	x = term(t, "(xor (all v1:1 (or v0:1 v1:1)) (some v0:1 (all v1:1 (or v0:1 v1:1))))")
	isWorth(t, "a shared quantifier", x, []int{0, 7, 0, 0, 0, 0, 0, 0}, 1)
	isWorth(t, "a shared quantifier", x, []int{1, 7, 0, 0, 0, 0, 0, 0}, 0)
}

func TestVariablesOfTwoWidths(t *testing.T) {
	// free v0:2, and v0:3 below its quantifier
	x := term(t, "(and (= v0:2 #2:3) (some v0:3 (= v0:3 #3:6)))")
	env := noughts()
	env[0] = 3
	isWorth(t, "two widths", x, env, 1)
	env[0] = 2
	isWorth(t, "two widths", x, env, 0)
	for _, k := range []int{4, 6, 7, 8, -1} {
		env[0] = k
		hasNoValue(t, "no word of the free one", x, env)
	}
	// both free
	x = term(t, "(= (join v0:2 v0:1) v0:3)")
	for k, asked := range map[int]int{0: 1, 1: 0} {
		env[0] = k
		isWorth(t, "both free", x, env, asked)
	}
	for _, k := range []int{2, 3, 4, 7, 8} {
		env[0] = k
		hasNoValue(t, "no word of the lesser", x, env)
	}
	// both below one quantifier
	env[0] = 0
	for w := 1; w <= 8; w++ {
		for v := 1; v <= 8; v++ {
			x := []node{variable(0, w), two(impl.OpEq, 0, 0), all(0, v, 1)}
			if w == v {
				isWorth(t, "the width of its quantifier", x, env, 1)
				continue
			}
			hasNoValue(t, "another width than its quantifier", x, env)
			hasNoValue(t, "below a nearer one of another width", append(x, all(0, w, 2)), env)
			isWorth(t, "of another width, but not reached", append(x, constant(1, 1)), env, 1)
			if w+v <= impl.MaxBits {
				isWorth(t, "below a farther one of another width", []node{variable(0, w), two(impl.OpEq, 0, 0), all(0, w, 1), all(0, v, 2)}, env, 1)
			}
			// one of two ways is of the right width
			x = []node{variable(0, w), two(impl.OpEq, 0, 0), all(0, w, 1), all(0, v, 1), two(impl.OpAnd, 2, 3)}
			hasNoValue(t, "of the width of one of two", x, env)
			x = []node{variable(0, w), variable(0, v), two(impl.OpEq, 0, 0), two(impl.OpEq, 1, 1), two(impl.OpAnd, 2, 3), some(0, w, 4)}
			hasNoValue(t, "two widths below one", x, env)
			// another variable's quantifier is none of it
			env[0] = min(power(w), power(v)) - 1
			x = []node{variable(0, w), two(impl.OpEq, 0, 0), all(1, v, 1)}
			isWorth(t, "below another variable's", x, env, 1)
			env[0] = power(w)
			hasNoValue(t, "below another variable's", x, env)
			env[0] = 0
		}
	}
}

// putBehind is x with y behind it, its parts told by their new places.
func putBehind(x []node, y ...node) []node {
	out := slices.Clone(x)
	for _, n := range y {
		for _, c := range []byte(shapeOf(n.Op)) {
			if c >= 'a' {
				*field(&n, c) += len(x)
			}
		}
		out = append(out, n)
	}
	return out
}

func TestWhatTheRootDoesNotReachIsWorthNothing(t *testing.T) {
	idle := []node{
		variable(0, 8), variable(0, 3), two(impl.OpEq, 1, 1), all(0, 8, 2), all(1, 8, 3), some(0, 1, 4), some(2, 8, 5),
	}
	env := []int{math.MinInt, 1, -1, -1, -1, -1, -1, math.MaxInt}
	isWorth(t, "a variable", putBehind(idle, variable(1, 1)), env, 1)
	isWorth(t, "a quantifier", putBehind(idle, variable(0, 1), some(0, 1, 0)), env, 1)
	holds(t, "two twos", putBehind(idle, twoTwos()...), 1)
	for i := range idle {
		x := append(slices.Clone(idle[:i+1]), constant(1, 1))
		holds(t, "a constant", x, 1)
		isWorth(t, "a constant", x, env, 1)
	}
}

func TestManyWaysAreWorthOne(t *testing.T) {
	x := []node{variable(0, 1)}
	for len(x) < impl.MaxNodes-1 {
		x = append(x, node{Op: impl.OpIf, W: 1, A: len(x) - 1, B: len(x) - 1, C: len(x) - 1})
	}
	isWorth(t, "3^78 ways", x, []int{1, 0, 0, 0, 0, 0, 0, 0}, 1)
	isWorth(t, "3^78 ways", x, []int{0, 0, 0, 0, 0, 0, 0, 0}, 0)
	holds(t, "3^78 ways", append(x, some(0, 1, 78)), 1)
	holds(t, "3^78 ways", append(x, all(0, 1, 78)), 0)
	// each of twelve quantifiers is a part of all that follow
	x = []node{constant(1, 1)}
	for i := range 12 {
		x = append(x, variable(i%8, 1), two(impl.OpOr, len(x)-1, len(x)), node{Op: impl.OpAll + i%2, W: 1, K: i % 8, A: len(x) + 1, B: 1}, two(impl.OpAnd, len(x)-1, len(x)+2))
	}
	isWorth(t, "quantifiers in many places", x, noughts(), 1)
}

// drawEnv has mostly words of a few bits.
func drawEnv(d *dice) []int {
	env := noughts()
	for v := range env {
		if env[v] = d.below(2); d.below(8) == 0 {
			env[v] = d.below(9) - 1
		}
	}
	return env
}

func TestValuesAgainstModel(t *testing.T) {
	d := dice(42)
	var counts [3]int
	for range 20000 {
		x := drawTerm(&d)
		if workOf(x) > 20000 {
			continue
		}
		env := drawEnv(&d)
		asked, has := 0, hasValueModel(x, env)
		if has {
			asked = valueModel(x, len(x)-1, [8]int(env))
			counts[min(asked, 1)]++
			isWorth(t, "drawn", x, env, asked)
		} else {
			counts[2]++
			hasNoValue(t, "drawn", x, env)
		}
		for name, y := range map[string][]node{"pruned": impl.Prune(x), "canonical": impl.Canon(x)} {
			if v, ok := impl.Value(y, env); v != asked || ok != has {
				t.Errorf("%v, %s, is worth %d, %v, not %d, %v", x, name, v, ok, asked, has)
			}
		}
		v, ok := impl.Holds(x)
		if asks := sentenceModel(x) && bitsModel(x) <= 12; ok != asks || ok && (!has || v != asked) || !ok && v != 0 {
			t.Errorf("Holds of %v is %d, %v", x, v, ok)
		}
		if t.Failed() {
			t.FailNow()
		}
	}
	for i, count := range counts {
		if count < 1000 {
			t.Errorf("%d terms of kind %d are too few", count, i)
		}
	}
}

func TestDeniedSentences(t *testing.T) {
	d := dice(43)
	var counts [2]int
	for counts[0] < 300 || counts[1] < 300 {
		x := drawTerm(&d)
		v, ok := impl.Holds(x)
		if !ok || len(x) > 70 {
			continue
		}
		counts[v]++
		holds(t, "denied", append(x, not(len(x)-1)), 1-v)
		holds(t, "denied twice", append(x, not(len(x)-1), not(len(x))), v)
		holds(t, "pruned", impl.Prune(x), v)
		holds(t, "canonical", impl.Canon(x), v)
	}
}

// oneWidthOf tells the width of variable v where each node of it has that one and none quantifies it.
func oneWidthOf(x []node, v int) (int, bool) {
	w := 0
	for _, n := range x {
		if isQuantifier(n) && n.K == v || n.Op == impl.OpVar && n.K == v && w != 0 && n.W != w {
			return 0, false
		}
		if n.Op == impl.OpVar && n.K == v {
			w = n.W
		}
	}
	return w, w != 0
}

func TestEachValuePutIn(t *testing.T) {
	d := dice(44)
	var counts [2]int
	for counts[0] < 500 || counts[1] < 500 {
		x, v, env := drawTerm(&d), d.below(8), drawEnv(&d)
		w, ok := oneWidthOf(x, v)
		if !ok || x[len(x)-1].W != 1 || bitsModel(x)+w > 12 || !hasValueModel(append(x, all(v, w, len(x)-1)), env) {
			continue
		}
		ones := 0
		for k := range power(w) {
			put, ok := impl.Replace(x, v, k)
			got, has := impl.Value(put, env)
			if !ok || !has {
				t.Fatalf("%v with v%d = %d is %v, worth %d, %v", x, v, k, put, got, has)
			}
			ones += got
		}
		counts[one(ones == power(w))]++
		isWorth(t, "for every value", append(x, all(v, w, len(x)-1)), env, one(ones == power(w)))
		isWorth(t, "for one value", append(x, some(v, w, len(x)-1)), env, one(ones > 0))
		if t.Failed() {
			t.FailNow()
		}
	}
}

func TestReplace(t *testing.T) {
	x := twoTwos()[:5]
	got, ok := impl.Replace(x, 1, 3)
	asked := slices.Clone(x)
	asked[1] = constant(3, 2)
	if !ok || !slices.Equal(got, asked) {
		t.Errorf("Replace is %v, %v", got, ok)
	}
	for _, k := range noWordsOf(2) {
		if got, ok := impl.Replace(x, 1, k); ok || len(got) != 0 {
			t.Errorf("Replace by %d is %v, %v", k, got, ok)
		}
	}
	// a variable that is not there takes any number, and none is changed
	for _, v := range append(farNumbers(), 2, 7, 8, 9) {
		for _, k := range append(farNumbers(), 0, 1) {
			if got, ok := impl.Replace(x, v, k); !ok || !slices.Equal(got, x) {
				t.Errorf("Replace of v%d by %d is %v, %v", v, k, got, ok)
			}
		}
	}
	// a quantifier is in it, reached or not; another variable's is of no matter
	for _, y := range [][]node{twoTwos(), append(twoTwos(), variable(1, 2)), {constant(1, 1), some(1, 2, 0), constant(1, 1)}, {constant(1, 1), all(1, 8, 0)}} {
		if got, ok := impl.Replace(y, 1, 0); ok || len(got) != 0 {
			t.Errorf("Replace below a quantifier is %v, %v", got, ok)
		}
		if got, ok := impl.Replace(y, 2, 0); !ok || !slices.Equal(got, y) {
			t.Errorf("Replace of another is %v, %v", got, ok)
		}
	}
	got, ok = impl.Replace(twoTwos()[:6], 0, 2)
	asked = twoTwos()[:6]
	asked[0] = constant(2, 2)
	if !ok || !slices.Equal(got, asked) {
		t.Errorf("Replace below another's quantifier is %v, %v", got, ok)
	}
	// each OpVar of that number, of whatever width, reached or not
	y := []node{variable(3, 1), variable(3, 4), variable(2, 3), variable(3, 2), constant(3, 2), {Op: impl.OpSlice, W: 1, K: 3, A: 1}}
	got, ok = impl.Replace(y, 3, 1)
	if !ok || !slices.Equal(got, []node{constant(1, 1), constant(1, 4), y[2], constant(1, 2), y[4], y[5]}) {
		t.Errorf("Replace of three is %v, %v", got, ok)
	}
	for _, k := range []int{2, 3, 4, 15, 16} {
		if got, ok := impl.Replace(y, 3, k); ok || len(got) != 0 {
			t.Errorf("Replace by what is too wide for one is %v, %v", got, ok)
		}
	}
}

func TestReplaceAgainstModel(t *testing.T) {
	d := dice(45)
	var counts [2]int
	for range 10000 {
		x, v, k := drawTerm(&d), d.below(10)-1, d.below(6)-1
		asked, right := slices.Clone(x), true
		for i, n := range x {
			right = right && !(isQuantifier(n) && n.K == v)
			if n.Op == impl.OpVar && n.K == v {
				right = right && isWord(n.W, k)
				asked[i] = constant(k, n.W)
			}
		}
		if !right {
			asked = nil
		}
		counts[one(right)]++
		if got, ok := impl.Replace(x, v, k); ok != right || !slices.Equal(got, asked) {
			t.Fatalf("Replace of %v, %d, %d is %v, %v", x, v, k, got, ok)
		}
	}
	if counts[0] < 1000 || counts[1] < 1000 {
		t.Errorf("%v are too few", counts)
	}
}

func TestValuesWriteIntoNothing(t *testing.T) {
	d := dice(46)
	for range 1000 {
		x := drawTerm(&d)
		room := append(slices.Clone(x), make([]node, 8)...)
		for i := len(x); i < len(room); i++ {
			room[i] = node{Op: -7, W: -7, K: -7, A: -7, B: -7, C: -7}
		}
		env := append(drawEnv(&d), -7, -7, -7)
		before, numbers := slices.Clone(room), slices.Clone(env)
		y := room[:len(x)]
		v, ok := impl.Value(y, env[:8])
		h, is := impl.Holds(y)
		put, done := impl.Replace(y, 0, 0)
		kept := slices.Clone(put)
		clear(put[:cap(put)])
		if again, right := impl.Replace(y, 0, 0); right != done || !slices.Equal(again, kept) {
			t.Fatalf("Replace of %v is %v, and %v a second time", y, kept, again)
		}
		if a, b := impl.Value(y, env[:8]); a != v || b != ok {
			t.Fatalf("%v is worth %d, and %d a second time", y, v, a)
		}
		if a, b := impl.Holds(y); a != h || b != is {
			t.Fatalf("Holds of %v is %d, and %d a second time", y, h, a)
		}
		if !slices.Equal(room, before) || !slices.Equal(env, numbers) {
			t.Fatalf("%v below %v has become %v below %v", before, numbers, room, env)
		}
	}
}
