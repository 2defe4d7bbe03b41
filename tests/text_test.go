package tests

import (
	"regexp"
	"slices"
	"strconv"
	"strings"
	"testing"

	"loop.example/g00116/impl"
)

func words() []string {
	return strings.Fields("? ? not and or xor add sub mul div rem shl shr = < s< join slice if all some")
}

// textModel writes the node at place i by going every way from it.
func textModel(t []node, i int) string {
	n := t[i]
	num := strconv.Itoa
	switch n.Op {
	case impl.OpConst:
		return "#" + num(n.W) + ":" + num(n.K)
	case impl.OpVar:
		return "v" + num(n.K) + ":" + num(n.W)
	}
	s := "(" + words()[n.Op]
	if n.Op == impl.OpSlice {
		s += " " + num(n.K) + " " + num(n.W)
	}
	if isQuantifier(n) {
		s += " v" + num(n.K) + ":" + num(n.B)
	}
	for _, p := range partsModel(n) {
		s += " " + textModel(t, p)
	}
	return s + ")"
}

// canonModel puts the node at place i of t behind list, parts first, where list has none like it.
func canonModel(t []node, i int, list []node) ([]node, int) {
	n := t[i]
	for _, c := range []byte(shapeOf(n.Op)) {
		if c >= 'a' {
			list, *field(&n, c) = canonModel(t, *field(&n, c), list)
		}
	}
	if p := slices.Index(list, n); p >= 0 {
		return list, p
	}
	return append(list, n), len(list)
}

// reading is a model of ReadTerm: what was read, and how the reading failed.
type reading struct {
	text string
	list []node
	code int
	at   int
}

func (r *reading) fail(code, at int) (int, int, bool) {
	r.code, r.at = code, at
	return 0, 0, false
}

// plain tells the numbers of digits of which none is too long or has a nought ahead.
func plain(digits []string) ([]int, bool) {
	list := []int{}
	for _, d := range digits {
		if len(d) > 9 || len(d) > 1 && d[0] == '0' {
			return nil, false
		}
		k, _ := strconv.Atoi(d)
		list = append(list, k)
	}
	return list, true
}

var (
	constantHead   = regexp.MustCompile(`^#(\d+):(\d+)$`)
	variableHead   = regexp.MustCompile(`^v(\d+):(\d+)$`)
	sliceHead      = regexp.MustCompile(`^\(slice (\d+) (\d+)`)
	quantifierHead = regexp.MustCompile(`^\((?:all|some) v(\d+):(\d+)`)
	wordHead       = regexp.MustCompile(`^\(([^ ()]+)`)
)

// head reads what stands ahead of the parts of the node from byte p on: the node, and where that ends.
func (r *reading) head(p int) (node, int, bool) {
	s := r.text[p:]
	// a word goes on to a blank or to a bracket that closes
	if end := strings.IndexAny(s, " )"); end >= 0 && s[0] != '(' {
		s = s[:end]
	}
	op := impl.OpConst
	form := constantHead
	if variableHead.MatchString(s) {
		op, form = impl.OpVar, variableHead
	}
	if m := wordHead.FindStringSubmatch(s); m != nil {
		op = slices.Index(words(), m[1])
		switch {
		case op < impl.OpNot:
			return node{}, 0, false
		case op == impl.OpSlice:
			form = sliceHead
		case op >= impl.OpAll:
			form = quantifierHead
		default:
			return node{Op: op}, p + len(m[0]), true
		}
	}
	m := form.FindStringSubmatch(s)
	if m == nil {
		return node{}, 0, false
	}
	k, ok := plain(m[1:])
	if !ok {
		return node{}, 0, false
	}
	n := node{Op: op}
	switch op {
	case impl.OpConst:
		n.W, n.K = k[0], k[1]
	case impl.OpVar, impl.OpSlice:
		n.K, n.W = k[0], k[1]
	default:
		n.K, n.B = k[0], k[1]
	}
	return n, p + len(m[0]), true
}

// node reads the node from byte p on: its place, and where its text ends.
func (r *reading) node(p int) (int, int, bool) {
	n, at, ok := r.head(p)
	if !ok {
		return r.fail(impl.TextBad, p)
	}
	for _, c := range []byte(shapeOf(n.Op)) {
		if c < 'a' || n.Op == impl.OpConst || n.Op == impl.OpVar {
			continue
		}
		if !strings.HasPrefix(r.text[at:], " ") {
			return r.fail(impl.TextBad, p)
		}
		place, end, ok := r.node(at + 1)
		if !ok {
			return 0, 0, false
		}
		*field(&n, c), at = place, end
	}
	if n.Op > impl.OpVar {
		if !strings.HasPrefix(r.text[at:], ")") {
			return r.fail(impl.TextBad, p)
		}
		at++
	}
	return r.put(n, p, at)
}

// put tries every width where the text tells none.
func (r *reading) put(n node, p, end int) (int, int, bool) {
	least, most := n.W, n.W
	if n.Op > impl.OpVar && n.Op != impl.OpSlice {
		least, most = 1, 8
	}
	for n.W = least; n.W <= most; n.W++ {
		if !rightModel(append(slices.Clone(r.list), n), len(r.list)) {
			continue
		}
		if i := slices.Index(r.list, n); i >= 0 {
			return i, end, true
		}
		if len(r.list) == 80 {
			return r.fail(impl.TextMany, p)
		}
		r.list = append(r.list, n)
		return len(r.list) - 1, end, true
	}
	return r.fail(impl.TextWidth, p)
}

func readModel(text string) ([]node, int, int) {
	if len(text) > 4000 {
		return nil, impl.TextLong, 0
	}
	r := reading{text: text}
	_, end, ok := r.node(0)
	if ok && end < len(text) {
		r.fail(impl.TextRest, end)
	}
	if r.code != 0 {
		return nil, r.code, r.at
	}
	return r.list, 0, 0
}

// shows asks for a term's text, and that it is read as asked.
func shows(t *testing.T, x []node, asked string, canon []node) {
	t.Helper()
	if s, ok := impl.ShowTerm(x); s != asked || !ok {
		t.Errorf("%v is shown as %q (%v), not %q", x, s, ok, asked)
	}
	reads(t, asked, canon)
	if got := impl.Canon(x); !slices.Equal(got, canon) {
		t.Errorf("Canon of %v is %v", x, got)
	}
}

func reads(t *testing.T, text string, asked []node) {
	t.Helper()
	if u, code, at := impl.ReadTerm(text); code != 0 || at != 0 || !slices.Equal(u, asked) {
		t.Errorf("%q is read as %v (%d %d), not %v", text, u, code, at, asked)
	}
}

// fails asks for a code and a byte, and that the model of the tests says the same.
func fails(t *testing.T, text string, code int, at int) {
	t.Helper()
	if u, c, p := impl.ReadTerm(text); c != code || p != at || len(u) != 0 {
		t.Errorf("%q is %v, %d %d, not %d %d", text, u, c, p, code, at)
	}
	if u, c, p := readModel(text); c != code || p != at || len(u) != 0 {
		t.Errorf("the model of %q is %v, %d %d, not %d %d", text, u, c, p, code, at)
	}
}

func hasNoText(t *testing.T, name string, x []node) {
	t.Helper()
	if s, ok := impl.ShowTerm(x); s != "" || ok {
		t.Errorf("%s is shown as %q (%v)", name, s, ok)
	}
	if u := impl.Canon(x); len(u) != 0 {
		t.Errorf("Canon of %s is %v", name, u)
	}
	if impl.Same(x, x) || impl.Same(x, twoTwos()) || impl.Same(twoTwos(), x) {
		t.Errorf("%s is the same as something", name)
	}
}

func TestNumbersOfTextCodes(t *testing.T) {
	isList(t, "the codes", []int{impl.TextOk, impl.TextLong, impl.TextBad, impl.TextWidth, impl.TextMany, impl.TextRest}, 0, 1, 2, 3, 4, 5)
	want(t, "MaxText", impl.MaxText, 4000)
}

func TestTextOfEachForm(t *testing.T) {
	for _, x := range []struct {
		text string
		t    []node
	}{
		{"#1:0", []node{constant(0, 1)}},
		{"#8:255", []node{constant(255, 8)}},
		{"#2:3", []node{constant(3, 2)}},
		{"v0:8", []node{variable(0, 8)}},
		{"v7:1", []node{variable(7, 1)}},
		{"(not v3:5)", []node{variable(3, 5), {Op: impl.OpNot, W: 5}}},
		{"(join v0:3 #2:1)", []node{variable(0, 3), constant(1, 2), {Op: impl.OpJoin, W: 5, B: 1}}},
		{"(join #2:1 v0:3)", []node{constant(1, 2), variable(0, 3), {Op: impl.OpJoin, W: 5, B: 1}}},
		{"(slice 3 2 v0:5)", []node{variable(0, 5), {Op: impl.OpSlice, W: 2, K: 3}}},
		{"(slice 0 5 v0:5)", []node{variable(0, 5), {Op: impl.OpSlice, W: 5}}},
		{"(if v0:1 v1:4 v2:4)", []node{variable(0, 1), variable(1, 4), variable(2, 4), {Op: impl.OpIf, W: 4, A: 0, B: 1, C: 2}}},
		{"(all v6:7 v0:1)", []node{variable(0, 1), all(6, 7, 0)}},
		{"(some v7:6 v0:1)", []node{variable(0, 1), some(7, 6, 0)}},
		{"(some v0:1 (all v1:8 #1:1))", []node{constant(1, 1), all(1, 8, 0), some(0, 1, 1)}},
	} {
		shows(t, x.t, x.text, x.t)
	}
	for i, word := range strings.Fields("and or xor add sub mul div rem shl shr = < s<") {
		w := 3
		if impl.OpAnd+i >= impl.OpEq {
			w = 1
		}
		x := []node{variable(1, 3), constant(6, 3), {Op: impl.OpAnd + i, W: w, A: 0, B: 1}}
		shows(t, x, "("+word+" v1:3 #3:6)", x)
	}
	shows(t, twoTwos(), "(all v0:2 (some v1:2 (= (add v0:2 v1:2) #2:0)))", twoTwos())
}

// Parts go behind the list in the order of the text, whatever their places were.
func TestCanonOfOtherOrders(t *testing.T) {
	shows(t, []node{constant(1, 2), variable(0, 2), {Op: impl.OpSub, W: 2, A: 1, B: 0}}, "(sub v0:2 #2:1)",
		[]node{variable(0, 2), constant(1, 2), {Op: impl.OpSub, W: 2, A: 0, B: 1}})
	// shared parts
	shared := []node{variable(0, 1), not(0), two(impl.OpAnd, 1, 1), two(impl.OpOr, 2, 1)}
	shows(t, shared, "(or (and (not v0:1) (not v0:1)) (not v0:1))", shared)
	// nodes that the root does not reach
	shows(t, []node{constant(3, 2), variable(0, 1), {Op: impl.OpNot, W: 2, A: 0}, not(1)}, "(not v0:1)", []node{variable(0, 1), not(0)})
	shows(t, []node{variable(0, 1), not(0), constant(1, 1)}, "#1:1", []node{constant(1, 1)})
	// nodes that are alike, by themselves or once their parts are one
	alike := []node{variable(0, 1), variable(0, 1), not(0), not(1), two(impl.OpAnd, 2, 3)}
	shows(t, alike, "(and (not v0:1) (not v0:1))", []node{variable(0, 1), not(0), two(impl.OpAnd, 1, 1)})
	if !impl.Same(alike, []node{variable(0, 1), not(0), two(impl.OpAnd, 1, 1)}) {
		t.Error("terms with one text are not the same")
	}
}

// Nodes that differ in one of their numbers alone are not alike.
func TestNodesThatAreNotAlike(t *testing.T) {
	for text, asked := range map[string]int{
		"(join #2:1 #2:1)":                              2,
		"(join #2:1 #3:1)":                              3,
		"(join #2:1 #2:2)":                              3,
		"(join #2:1 v1:2)":                              3,
		"(join v1:2 v2:2)":                              3,
		"(join (slice 0 2 v0:3) (slice 0 2 v0:3))":      3,
		"(join (slice 0 2 v0:3) (slice 1 2 v0:3))":      4,
		"(join (slice 0 2 v0:3) (slice 0 1 v0:3))":      4,
		"(join (slice 0 2 v0:3) (slice 0 2 v1:3))":      5,
		"(and (sub v0:1 v1:1) (sub v1:1 v0:1))":         5,
		"(and (sub v0:1 v1:1) (add v0:1 v1:1))":         5,
		"(and (all v0:1 v1:1) (all v0:2 v1:1))":         4,
		"(and (all v0:1 v1:1) (some v0:1 v1:1))":        4,
		"(and (all v0:1 v1:1) (all v1:1 v1:1))":         4,
		"(and (all v0:1 v1:1) (all v0:1 v1:1))":         3,
		"(and (if v0:1 v1:1 v2:1) (if v0:1 v2:1 v1:1))": 6,
		"(and (if v0:1 v1:1 v2:1) (if v1:1 v0:1 v2:1))": 6,
		"(and (if v0:1 v1:1 v2:1) (if v0:1 v1:1 v2:1))": 5,
	} {
		u, code, at := impl.ReadTerm(text)
		asks, _, _ := readModel(text)
		if code != 0 || at != 0 || len(u) != asked || !slices.Equal(u, asks) {
			t.Errorf("%q is %v, %d %d, not %v", text, u, code, at, asks)
		}
	}
}

func TestFirstFailure(t *testing.T) {
	const bad, width, rest = impl.TextBad, impl.TextWidth, impl.TextRest
	for _, x := range []struct {
		text string
		code int
		at   int
	}{
		{"", bad, 0}, {"x", bad, 0}, {"(", bad, 0}, {")", bad, 0}, {"()", bad, 0}, {"#", bad, 0}, {"v", bad, 0}, {":", bad, 0}, {"#:", bad, 0}, {"v:", bad, 0},
		{"#1", bad, 0}, {"#1:", bad, 0}, {"#:1", bad, 0}, {"v1", bad, 0}, {"v:1", bad, 0}, {"#-1:0", bad, 0}, {"#1:-1", bad, 0}, {"#1:+1", bad, 0}, {"v+1:1", bad, 0}, {"0", bad, 0}, {"#1;0", bad, 0}, {"#1:x", bad, 0}, {"V0:1", bad, 0},
		// a word of another width, a variable that there is not, widths that are none
		{"#1:2", width, 0}, {"#2:4", width, 0}, {"#8:256", width, 0}, {"#0:0", width, 0}, {"#9:0", width, 0}, {"v8:1", width, 0}, {"v0:0", width, 0}, {"v0:9", width, 0},
		{"(and #1:0 #2:0)", width, 0}, {"(shl #2:0 #1:0)", width, 0}, {"(= #1:0 #2:0)", width, 0}, {"(s< #8:0 #7:0)", width, 0},
		{"(join #8:0 #1:0)", width, 0}, {"(join #4:0 #5:0)", width, 0}, {"(slice 0 0 #3:0)", width, 0}, {"(slice 0 4 #3:0)", width, 0}, {"(slice 3 1 #3:0)", width, 0}, {"(slice 2 2 #3:0)", width, 0},
		{"(if #2:0 #1:0 #1:0)", width, 0}, {"(if #1:0 #1:0 #2:0)", width, 0}, {"(if #1:0 #2:0 #1:0)", width, 0},
		{"(all v8:1 #1:0)", width, 0}, {"(all v0:0 #1:0)", width, 0}, {"(some v0:9 #1:0)", width, 0}, {"(some v0:1 #2:0)", width, 0},
		// a node that would not be right below one that would be
		{"(not #1:2)", width, 5}, {"(not (= #1:0 #2:0))", width, 5}, {"(and #1:0 (not #3:8))", width, 15}, {"(slice 0 1 #1:2)", width, 11}, {"(all v0:1 v9:1)", width, 10},
		// of two failures the one on the way
		{"(and #1:2 x)", width, 5}, {"(and x #1:2)", bad, 5}, {"(and #1:2)", width, 5}, {"(= #1:0 #2:0", bad, 0}, {"(= #1:0 #2:0 #1:2)", bad, 0}, {"(= #1:0 #2:0)x", width, 0}, {"#1:2x", bad, 0}, {"#1:2 x", width, 0},
		{"(all v8:1 x)", bad, 10}, {"(all v8:1 #1:2)", width, 10}, {"(all v08:1 x)", bad, 0}, {"(slice 9 9 x)", bad, 11}, {"(slice 09 9 x)", bad, 0}, {"(slice 9 9x x)", bad, 0}, {"(foo #1:2)", bad, 0}, {"(foo x)", bad, 0},
		{"(and (= #1:0 #2:0) x)", width, 5}, {"(and (= #1:0 #2:0", bad, 5}, {"(and (not #1:0) (not x) y)", bad, 21}, {"(and (not #1:0 #1:2) x)", bad, 5}, {"(not #1:1", bad, 0}, {"(not (not #1:1)", bad, 0}, {"(not (not (not ", bad, 15}, {"(not (not (not", bad, 10},
		// anything behind a whole node
		{"(not #1:1) ", rest, 10}, {"(not #1:1))", rest, 10}, {"(not #1:1)(", rest, 10}, {"(not #1:1) x", rest, 10}, {"#1:1 ", rest, 4}, {"#1:1)", rest, 4}, {"v0:1 v0:1", rest, 4}, {"#1:1))", rest, 4}, {"#1:1)x", rest, 4}, {"v0:1 x", rest, 4}, {"(not #1:1)x", rest, 10}, {"(not #1:1)#1:1", rest, 10},
		// parts too few and one too many
		{"(not)", bad, 0}, {"(not )", bad, 5}, {"(not #1:1 #1:1)", bad, 0}, {"(and)", bad, 0}, {"(and #1:0)", bad, 0}, {"(and #1:0 )", bad, 10}, {"(and #1:0 #1:0 #1:0)", bad, 0}, {"(if #1:0 #1:0)", bad, 0}, {"(if #1:0 #1:0 #1:0 #1:0)", bad, 0},
		{"(slice 0 1)", bad, 0}, {"(slice 0 #1:0)", bad, 0}, {"(slice #1:0)", bad, 0}, {"(slice 0 1 #1:0 #1:0)", bad, 0}, {"(slice 0 1 0 #1:0)", bad, 11}, {"(all v0:1)", bad, 0}, {"(all #1:0)", bad, 0}, {"(all #1:0 #1:0)", bad, 0}, {"(all v0:1 #1:0 #1:0)", bad, 0}, {"(some v0 #1:0)", bad, 0}, {"(some (not v0:1) #1:0)", bad, 0}, {"(some v0:1 v0:1 v0:1)", bad, 0},
	} {
		fails(t, x.text, x.code, x.at)
	}
}

func TestBlanksTooManyAndTooFew(t *testing.T) {
	for text, at := range map[string]int{
		" #1:1": 0, "# 1:1": 0, "#1 :1": 0, "#1: 1": 0, " v0:1": 0, "v 0:1": 0, "v0 :1": 0, "v0: 1": 0,
		"( not #1:1)": 0, "(not  #1:1)": 5, "(not #1:1 )": 0, "(not#1:1)": 0, " (not #1:1)": 0,
		"(and  #1:1 #1:1)": 5, "(and #1:1  #1:1)": 10, "(and #1:1#1:1)": 5, "(and#1:1 #1:1)": 0, "(and #1:1 #1:1 )": 0,
		"(slice  0 1 #1:1)": 0, "(slice 0  1 #1:1)": 0, "(slice 0 1  #1:1)": 11, "(slice0 1 #1:1)": 0, "(slice 0 1#1:1)": 0, "(slice 01 #1:1)": 0,
		"(all  v0:1 #1:1)": 0, "(all v0:1  #1:1)": 10, "(allv0:1 #1:1)": 0, "(all v0:1#1:1)": 0, "(all v 0:1 #1:1)": 0, "(all v0:1(not #1:1))": 0,
		"(not\t#1:1)": 0, "(not\n#1:1)": 0, "\t#1:1": 0, "(and #1:1\t#1:1)": 5, "(and #1:1 \t#1:1)": 10, "(not #1:1\n)": 5,
		"(if #1:1 #1:1  #1:1)": 14, "(if #1:1 #1:1#1:1)": 9,
	} {
		fails(t, text, impl.TextBad, at)
	}
	fails(t, "(not #1:1) ", impl.TextRest, 10)
	fails(t, "(not #1:1)\n", impl.TextRest, 10)
}

// A word is taken whole: what only begins as a node does is none, whatever else would be wrong with it or above it.
func TestWordsThatGoOn(t *testing.T) {
	for _, word := range []string{"#1:1", "v0:1", "#1:2", "#9:0", "v8:1", "v0:9", "#100000000:0", "v999999999:999999999"} {
		for _, more := range []string{"x", ":", ":0", ":0:0", "#1:0", "v0:1", "(", "(not", "-", "#", "v", ",", ".0", "\t", "\n", "\x00", "\xff", "é", "\u00a0"} {
			long := word + more
			for _, behind := range []string{"", " ", " x", ")", ")x", " #1:0)", " (not #1:1))"} {
				fails(t, long+behind, impl.TextBad, 0)
				fails(t, "(not "+long+behind, impl.TextBad, 5)
				fails(t, "(and #1:0 "+long+behind, impl.TextBad, 10)
				fails(t, "(= #1:0 (and "+long+behind, impl.TextBad, 13)
				fails(t, "(if #1:0 #1:0 "+long+behind, impl.TextBad, 14)
				fails(t, "(slice 9 9 "+long+behind, impl.TextBad, 11)
				fails(t, "(some v8:9 "+long+behind, impl.TextBad, 11)
				fails(t, "(all "+long+behind, impl.TextBad, 0)
			}
		}
	}
	for _, at := range []string{"#1:0", "v0:1", "#1:2", "(not #1:0)", "x", "(", ":"} {
		// what goes on behind a bracket that closes is no longer word, but stands where none may
		fails(t, "(not #1:0)"+at, impl.TextRest, 10)
		fails(t, "(not (not #1:0)"+at+")", impl.TextBad, 0)
		fails(t, "(and #1:0 (not #1:0)"+at+")", impl.TextBad, 0)
		fails(t, "#1:0 "+at, impl.TextRest, 4)
		fails(t, "#1:0)"+at, impl.TextRest, 4)
	}
	fails(t, "(some v0:3 (all v1:2 (some v2:1 (s< v1:2 (join (< v2:1v2:1) (s< v1:2 v1:2))))))", impl.TextBad, 50)
	fails(t, "(all v0:1 (some v1:2 (not (all v2:3 (or (and (sub v0:1 v0:1) (shl v0:1 v0:1#1:0)) (< (sub #3:1 v2:3) (not v2:3)))))))", impl.TextBad, 71)
}

func TestWordsThatThereAreNot(t *testing.T) {
	for _, word := range strings.Fields("no nott NOT Not nand an andd const var v # #1:1 v0:1 -> == <= > s> s s<= S< 0 1 al alls exists forall ite iff slices Join ? ( ) (not é not\x00 \x00") {
		for _, parts := range []string{"", " #1:1", " #1:1 #1:1", " #1:1 #1:1 #1:1", " v0:1 #1:1", " 0 1 #1:1", " x"} {
			fails(t, "("+word+parts+")", impl.TextBad, 0)
			fails(t, "(not ("+word+parts+"))", impl.TextBad, 5)
		}
	}
	fails(t, "( #1:1)", impl.TextBad, 0)
	fails(t, "((not #1:1))", impl.TextBad, 0)
}

// Each operator takes as many parts as it has, no more and no fewer.
func TestHowManyParts(t *testing.T) {
	for op := impl.OpNot; op <= impl.OpSome; op++ {
		head := "(" + words()[op]
		if op == impl.OpSlice {
			head += " 0 1"
		}
		if op >= impl.OpAll {
			head += " v0:1"
		}
		for count := range 5 {
			text := head + strings.Repeat(" v0:1", count) + ")"
			if count != len(partsModel(node{Op: op})) {
				fails(t, text, impl.TextBad, 0)
				continue
			}
			if _, code, at := impl.ReadTerm(text); code != 0 || at != 0 {
				t.Errorf("%q is refused by %d %d", text, code, at)
			}
		}
	}
}

func TestNumbersInTexts(t *testing.T) {
	forms := []string{"#N:0", "#1:N", "vN:1", "v0:N", "(slice N 1 #1:0)", "(slice 0 N #1:0)", "(all vN:1 #1:0)", "(all v0:N #1:0)", "(some vN:1 #1:0)", "(some v0:N #1:0)"}
	for _, form := range forms {
		with := func(digits string) string { return strings.Replace(form, "N", digits, 1) }
		for _, long := range []string{"999999999", "100000000", "123456789"} {
			fails(t, with(long), impl.TextWidth, 0)
		}
		for _, wrong := range []string{"1000000000", "9999999999", "0000000001", "00", "01", "000", "08", "", "-1", "+1", "१", "18446744073709551616", "18446744073709551617", "4294967297", strings.Repeat("9", 3000)} {
			fails(t, with(wrong), impl.TextBad, 0)
			fails(t, "(not "+with(wrong)+")", impl.TextBad, 5)
		}
	}
	reads(t, "#1:0", []node{constant(0, 1)})
	reads(t, "#1:1", []node{constant(1, 1)})
	reads(t, "v0:1", []node{variable(0, 1)})
	fails(t, "#1:10", impl.TextWidth, 0)
}

func TestEveryByte(t *testing.T) {
	for c := range 256 {
		b := string([]byte{byte(c)})
		digit := c >= '0' && c <= '9'
		fails(t, "(not #1:1)"+b, impl.TextRest, 10)
		if digit {
			fails(t, "v0:1"+b, impl.TextWidth, 0)
			fails(t, "v0:0"+b, impl.TextBad, 0)
		} else {
			fails(t, "#"+b+":0", impl.TextBad, 0)
			fails(t, "(not v"+b+":1)", impl.TextBad, 5)
		}
		switch {
		case c == ' ':
			fails(t, "(not #1:1"+b, impl.TextBad, 0)
			fails(t, "(not v0:1"+b+")", impl.TextBad, 0)
		case c != ')' && !digit:
			fails(t, "(not #1:1"+b, impl.TextBad, 5)
			fails(t, "(not v0:1"+b+")", impl.TextBad, 5)
		}
		switch {
		case c == ' ' || c == ')':
			fails(t, "v0:1"+b, impl.TextRest, 4)
			fails(t, "#1:0"+b+"x", impl.TextRest, 4)
			fails(t, "#1:2"+b, impl.TextWidth, 0)
		case !digit:
			fails(t, "v0:1"+b, impl.TextBad, 0)
			fails(t, "#1:0"+b+" x", impl.TextBad, 0)
			fails(t, "#1:2"+b, impl.TextBad, 0)
			fails(t, "(all v0:1"+b+" x)", impl.TextBad, 0)
			fails(t, "(slice 0 1"+b+" x)", impl.TextBad, 0)
		}
		if c != '#' && c != 'v' {
			fails(t, "(not "+b+"1:1)", impl.TextBad, 5)
			fails(t, b+"1:1", impl.TextBad, 0)
		}
		if c != ':' && !digit {
			fails(t, "#1"+b+"1", impl.TextBad, 0)
		}
		if c != '(' {
			fails(t, b+"not #1:1)", impl.TextBad, 0)
		}
		if c != ' ' {
			fails(t, "(not"+b+"#1:1)", impl.TextBad, 0)
		}
		fails(t, b, impl.TextBad, 0)
		fails(t, "("+b, impl.TextBad, 0)
	}
}

func TestCutOffTexts(t *testing.T) {
	const text = "(and v0:1 #1:0)"
	for n, at := range []int{0, 0, 0, 0, 0, 5, 5, 5, 5, 0, 10, 10, 10, 10, 0} {
		fails(t, text[:n], impl.TextBad, at)
	}
	for _, text := range []string{
		"(all v0:2 (some v1:2 (= (add v0:2 v1:2) #2:0)))",
		"(if (s< #3:5 v2:3) (slice 1 2 (join v0:1 #2:3)) (shr v1:2 #2:0))",
	} {
		if _, code, _ := impl.ReadTerm(text); code != 0 {
			t.Errorf("%q is refused by %d", text, code)
		}
		for n := range text {
			_, code, at := readModel(text[:n])
			want(t, "the model's code", code, impl.TextBad, n)
			fails(t, text[:n], impl.TextBad, at)
		}
	}
}

// longTerm has a text of 3953 bytes.
func longTerm() []node {
	x := []node{variable(0, 1)} // 4 bytes
	for i := range 8 {
		x = append(x, two(impl.OpAnd, i, i)) // 15, 37, 81, 169, 345, 697, 1401 and 2809 bytes
	}
	for _, p := range []int{6, 5, 3} {
		x = append(x, two(impl.OpXor, len(x)-1, p)) // 3513, 3865 and 3953 bytes
	}
	return x
}

// withDenials is x with so many denials behind it, 6 bytes each.
func withDenials(x []node, count int) []node {
	for range count {
		x = append(x, not(len(x)-1))
	}
	return x
}

func TestLengthOfTexts(t *testing.T) {
	full := withDenials(append(longTerm(), two(impl.OpAnd, 11, 0)), 6)
	over := withDenials(longTerm(), 8)
	want(t, "the model's text", len(textModel(full, len(full)-1)), impl.MaxText)
	want(t, "the model's text", len(textModel(over, len(over)-1)), impl.MaxText+1)
	shows(t, full, textModel(full, len(full)-1), full)
	if !impl.Same(full, full) {
		t.Error("a term of MaxText bytes is not the same")
	}
	hasNoText(t, "a term of one byte more", over)
	fails(t, textModel(over, len(over)-1), impl.TextLong, 0)
	// what is too long below the root is of no matter where the root does not reach it
	shows(t, append(over, constant(1, 1)), "#1:1", []node{constant(1, 1)})

	for _, s := range []string{"x", " ", "(", "(not ", "#1:2 ", "9", "\xff"} {
		long := strings.Repeat(s, impl.MaxText/len(s)+1)
		fails(t, long[:impl.MaxText+1], impl.TextLong, 0)
		_, code, at := readModel(long[:impl.MaxText])
		if code == impl.TextLong {
			t.Error("the model refuses what is not too long")
		}
		fails(t, long[:impl.MaxText], code, at)
	}
	fails(t, strings.Repeat("(not ", 800), impl.TextBad, 4000)
	fails(t, "#1:1"+strings.Repeat(" ", 3996), impl.TextRest, 4)
	fails(t, "#1:1"+strings.Repeat(" ", 3997), impl.TextLong, 0)
	fails(t, strings.Repeat("x", 1000000), impl.TextLong, 0)
}

func TestTextsThatWouldNotEnd(t *testing.T) {
	x := []node{variable(0, 1)}
	for len(x) < impl.MaxNodes {
		x = append(x, node{Op: impl.OpIf, W: 1, A: len(x) - 1, B: len(x) - 1, C: len(x) - 1})
	}
	hasNoText(t, "3^79 ways", x)
	x[79] = constant(1, 1)
	shows(t, x, "#1:1", []node{constant(1, 1)})
}

// denied has n nodes, the first of them a variable.
func denied(n int) string {
	return strings.Repeat("(not ", n-1) + "v0:1" + strings.Repeat(")", n-1)
}

func TestHowManyNodesAreRead(t *testing.T) {
	x := []node{variable(0, 1)}
	for i := range 79 {
		x = append(x, not(i))
	}
	shows(t, x, denied(80), x)
	fails(t, denied(81), impl.TextMany, 0)
	fails(t, denied(82), impl.TextMany, 5)
	fails(t, denied(100), impl.TextMany, 95)
	// nodes that are alike count once
	pair := append(x[:79:79], two(impl.OpAnd, 78, 78))
	shows(t, pair, "(and "+denied(79)+" "+denied(79)+")", pair)
	fails(t, "(and "+denied(80)+" "+denied(80)+")", impl.TextMany, 0)
	part := "(and " + denied(79) + " "
	reads(t, part+"v0:1)", append(x[:79:79], two(impl.OpAnd, 78, 0)))
	fails(t, part+"v1:1)", impl.TextMany, 0)
	full := "(and " + denied(80) + " "
	fails(t, full+"v1:1)", impl.TextMany, len(full))
	fails(t, full+"v0:1)", impl.TextMany, 0)
	// of two failures the first on the way, and of one node's the one named first
	fails(t, full+"#1:2)", impl.TextWidth, len(full))
	fails(t, full+"x)", impl.TextBad, len(full))
	fails(t, full+"v1:1", impl.TextMany, len(full))
	fails(t, full+"v0:1", impl.TextBad, 0)
	fails(t, full+"(not #1:2))", impl.TextWidth, len(full)+5)
	fails(t, "(slice 1 1 "+denied(80)+")", impl.TextWidth, 0)
	fails(t, "(slice 0 1 "+denied(80)+")", impl.TextMany, 0)
	fails(t, "(not "+denied(80), impl.TextBad, 0)
	fails(t, denied(80)+" ", impl.TextRest, len(denied(80)))
	fails(t, denied(81)+" ", impl.TextMany, 0)
}

func TestTermsWithoutText(t *testing.T) {
	hasNoText(t, "nil", nil)
	hasNoText(t, "no nodes", []node{})
	hasNoText(t, "a word of another width", []node{constant(2, 1)})
	hasNoText(t, "a part that is not ahead", []node{variable(0, 1), not(1)})
	hasNoText(t, "a part below 0", []node{variable(0, 1), not(-1)})
	hasNoText(t, "no such operator", []node{{Op: 21, W: 1}})
	hasNoText(t, "an operator below 0", []node{{Op: -1, W: 1}})
	hasNoText(t, "something of no use", []node{{Op: impl.OpVar, W: 1, A: 1}})
	hasNoText(t, "something wrong that is not reached", []node{constant(2, 1), constant(1, 1)})
	many := make([]node, 81)
	for i := range many {
		many[i] = constant(1, 1)
	}
	hasNoText(t, "81 nodes", many)
	shows(t, many[1:], "#1:1", []node{constant(1, 1)})
	if impl.Same(nil, nil) || impl.Same(nil, []node{constant(2, 1)}) {
		t.Error("what has no text is the same")
	}
}

func TestSameTexts(t *testing.T) {
	x := twoTwos()
	y := append([]node{constant(1, 4)}, x...)
	for i := range y[1:] {
		for _, c := range []byte(shapeOf(y[i+1].Op)) {
			if c >= 'a' {
				*field(&y[i+1], c)++
			}
		}
	}
	if !impl.Same(x, x) || !impl.Same(x, y) || !impl.Same(y, x) {
		t.Error("one text is not the same")
	}
	if impl.Same(x, x[:6]) || impl.Same([]node{variable(0, 1)}, []node{variable(1, 1)}) || impl.Same([]node{variable(0, 1)}, []node{variable(0, 2)}) {
		t.Error("two texts are the same")
	}
}

func TestCanonAgainstModels(t *testing.T) {
	d := dice(11)
	shown, others := 0, 0
	last := twoTwos()
	for range 6000 {
		x := drawTerm(&d)
		text := textModel(x, len(x)-1)
		if len(text) > impl.MaxText {
			hasNoText(t, "a long term", x)
			continue
		}
		shown++
		canon, _ := canonModel(x, len(x)-1, nil)
		if !slices.Equal(canon, x) {
			others++
		}
		shows(t, x, text, canon)
		shows(t, canon, text, canon)
		if !impl.TermOk(canon) || !impl.Same(x, canon) || !impl.Same(impl.Prune(x), x) {
			t.Errorf("%v is not what its canonical form is", x)
		}
		// what holds a quantifier is like another node only where that quantifier is two parts, or has another of its variable
		if impl.Sentence(canon) != impl.Sentence(x) {
			t.Errorf("one of %v and its canonical form is a sentence", x)
		}
		if impl.Same(x, last) != (text == textModel(last, len(last)-1)) {
			t.Errorf("Same of %v and %v", x, last)
		}
		if last = x; t.Failed() {
			t.FailNow()
		}
	}
	if shown < 5000 || others < 1000 {
		t.Errorf("%d terms, %d of them not canonical, are too few", shown, others)
	}
}

// worn is text with some bytes gone, put in, doubled or turned into others.
func worn(d *dice, text string) string {
	const bytes = " ()#v:0123456789abdefhijlmnorsux<= 01:"
	for range 1 + d.below(2) {
		i, j := d.below(len(text)+1), d.below(len(text)+1)
		if i > j {
			i, j = j, i
		}
		k := d.below(len(bytes))
		switch d.below(6) {
		case 0:
			text = text[:i] + bytes[k:k+1] + text[i:]
		case 1:
			text = text[:i] + text[min(i+1, len(text)):]
		case 2:
			text = text[:i] + bytes[k:k+1] + text[min(i+1, len(text)):]
		case 3:
			text = text[:j] + text[i:min(i+d.below(12), len(text))] + text[j:]
		case 4:
			text = text[:i] + text[min(i+d.below(6), len(text)):]
		case 5:
			text = text[:j]
		}
	}
	return text
}

func TestWornTextsAgainstModel(t *testing.T) {
	d := dice(12)
	var codes [6]int
	for range 60000 {
		x := drawTerm(&d)
		text := textModel(x, len(x)-1)
		if len(text) < 400 {
			text = worn(&d, text)
		}
		asked, code, at := readModel(text)
		got, c, p := impl.ReadTerm(text)
		if c != code || p != at || !slices.Equal(got, asked) {
			t.Fatalf("%q is %v, %d %d, not %v, %d %d", text, got, c, p, asked, code, at)
		}
		codes[code]++
		if code != 0 {
			continue
		}
		// what is read is shown as it was typed
		if s, ok := impl.ShowTerm(got); s != text || !ok || !impl.TermOk(got) {
			t.Fatalf("%q is shown as %q", text, s)
		}
	}
	for _, code := range []int{impl.TextOk, impl.TextBad, impl.TextWidth, impl.TextRest} {
		if codes[code] < 500 {
			t.Errorf("code %d comes %d times, too few", code, codes[code])
		}
	}
}

func TestTextsWriteIntoNothing(t *testing.T) {
	d := dice(13)
	for round := range 1000 {
		x := drawTerm(&d)
		if round%4 == 0 {
			x[d.below(len(x))].W = 9
		}
		room := make([]node, len(x)+8)
		copy(room, x)
		for i := len(x); i < len(room); i++ {
			room[i] = node{Op: -7, W: -7, K: -7, A: -7, B: -7, C: -7}
		}
		before := slices.Clone(room)
		y := room[:len(x)]
		text, ok := impl.ShowTerm(y)
		same := impl.Same(y, y)
		canon := impl.Canon(y)
		read, _, _ := impl.ReadTerm(text)
		if !slices.Equal(canon, read) || same != ok {
			t.Fatalf("%v has Canon %v, but reads as %v", y, canon, read)
		}
		clear(canon[:cap(canon)])
		if again, _, _ := impl.ReadTerm(text); !slices.Equal(again, read) || !slices.Equal(impl.Canon(y), read) {
			t.Fatalf("%q is read otherwise a second time", text)
		}
		clear(read[:cap(read)])
		if s, k := impl.ShowTerm(y); s != text || k != ok || !slices.Equal(room, before) {
			t.Fatalf("%v has become %v", before, room)
		}
	}
}
