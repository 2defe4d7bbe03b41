package tests

import (
	"math"
	"slices"
	"strconv"
	"strings"
	"testing"

	"loop.example/g00116/impl"
)

type table = impl.Table

func tableOf(n int, ones string) table { return table{N: n, Ones: ones} }

// bitsAt are the bits of a place, the highest first, by dividing alone.
func bitsAt(n, place int) []int {
	list := []int{}
	for range n {
		list = slices.Insert(list, 0, place%2)
		place /= 2
	}
	return list
}

func placeAt(bits []int) int {
	place := 0
	for i, b := range bits {
		place += b * power(len(bits)-1-i)
	}
	return place
}

// tableBy is the table whose value at some bits is what f says.
func tableBy(n int, f func(bits []int) bool) table {
	signs := ""
	for place := range power(n) {
		signs += strconv.Itoa(one(f(bitsAt(n, place))))
	}
	return table{N: n, Ones: signs}
}

// smallTables are all tables of at most three bits.
func smallTables() []table {
	list := []table{}
	for n := range 4 {
		for number := range power(power(n)) {
			x := table{N: n}
			for _, b := range bitsAt(power(n), number) {
				x.Ones += strconv.Itoa(b)
			}
			list = append(list, x)
		}
	}
	return list
}

// drawTable is a table of n bits: of any values, of few of one kind, of one
// value that is alone, or of what hangs on some of its bits.
func drawTable(d *dice, n int) table {
	signs := make([]byte, power(n))
	for i := range signs {
		signs[i] = '0' + byte(d.below(2))
	}
	switch d.below(5) {
	case 0:
		most := '0' + byte(d.below(2))
		for i := range signs {
			if d.below(40) > 0 {
				signs[i] = most
			}
		}
	case 1:
		most := d.below(2)
		for i := range signs {
			signs[i] = '0' + byte(most)
		}
		signs[d.below(len(signs))] = '1' - byte(most)
	case 2:
		kept := bitsAt(n, d.below(power(n)))
		for i := range signs {
			bits := bitsAt(n, i)
			for j := range bits {
				bits[j] *= kept[j]
			}
			signs[i] = signs[placeAt(bits)]
		}
	}
	return table{N: n, Ones: string(signs)}
}

// eachTable calls f for all tables of few bits and for drawn ones of each number of bits.
func eachTable(seed dice, f func(x table)) {
	for _, x := range smallTables() {
		f(x)
	}
	for n := range impl.MaxBits + 1 {
		for range 12 {
			f(drawTable(&seed, n))
		}
	}
}

// constantTable is the one that has this value everywhere.
func constantTable(n, v int) table {
	return table{N: n, Ones: strings.Repeat(strconv.Itoa(v), power(n))}
}

// depends tells whether x changes at one place at least when that bit is turned.
func depends(x table, bit int) bool {
	for place := range x.Ones {
		bits := bitsAt(x.N, place)
		bits[bit] = 1 - bits[bit]
		if x.Ones[place] != x.Ones[placeAt(bits)] {
			return true
		}
	}
	return false
}

func short(x table) string {
	return strconv.Itoa(x.N) + ":" + strconv.Quote(x.Ones[:min(len(x.Ones), 100)])
}

// isNoTable is promise 16 for a table that is wrong, in the place of each argument.
func isNoTable(t *testing.T, name string, x table) {
	t.Helper()
	if impl.TableOk(x) {
		t.Errorf("%s: TableOk of %s", name, short(x))
	}
	for _, bits := range [][]int{nil, {}, {0}, {1}, {0, 1}, {0, 1, 0}, make([]int, impl.MaxBits), make([]int, impl.MaxBits+1)} {
		want(t, name+": TableAt", impl.TableAt(x, bits), -1, bits...)
	}
	for _, b := range []int{-1, 0, 1, 2} {
		hasNoHalf(t, name, x, b)
	}
	want(t, name+": Known", impl.Known(x), -1)
	want(t, name+": TableCount", impl.TableCount(x), -1)
	isList(t, name+": Needs", impl.Needs(x))
	if y := impl.TableNot(x); y != (table{}) {
		t.Errorf("%s: TableNot of %s is %s", name, short(x), short(y))
	}
	if key := impl.TableKey(x); key != "" {
		t.Errorf("%s: TableKey of %s is %q", name, short(x), key)
	}
	areNotTogether(t, name, x, x)
	for n := range 4 {
		right := constantTable(n, 1)
		areNotTogether(t, name, x, right)
		areNotTogether(t, name, right, x)
	}
}

func hasNoHalf(t *testing.T, name string, x table, b int) {
	t.Helper()
	if y, ok := impl.Half(x, b); ok || y != (table{}) {
		t.Errorf("%s: Half of %s, %d is %s, %v, not nothing", name, short(x), b, short(y), ok)
	}
}

func areNotTogether(t *testing.T, name string, a, b table) {
	t.Helper()
	if x, ok := impl.TableAnd(a, b); ok || x != (table{}) {
		t.Errorf("%s: TableAnd of %s, %s is %s, %v, not nothing", name, short(a), short(b), short(x), ok)
	}
	if x, ok := impl.TableXor(a, b); ok || x != (table{}) {
		t.Errorf("%s: TableXor of %s, %s is %s, %v, not nothing", name, short(a), short(b), short(x), ok)
	}
}

func hasNoTable(t *testing.T, name string, q []quant, rest []node) {
	t.Helper()
	if x, ok := impl.TableOf(q, rest); ok || x != (table{}) {
		t.Errorf("%s: TableOf of %v, %v is %s, %v, not nothing", name, q, rest, short(x), ok)
	}
}

// envAt are the variables' values at some bits, in the order of q and of each variable from the highest on.
func envAt(q []quant, bits []int) [8]int {
	env := [8]int{}
	for _, x := range q {
		for range x.Bits {
			env[x.Var] = env[x.Var]*2 + bits[0]
			bits = bits[1:]
		}
	}
	return env
}

// decided is what the flags make of a table, told by its places alone.
func decided(row []bool, ones string) int {
	if len(row) == 0 {
		return int(ones[0] - '0')
	}
	sum := decided(row[1:], ones[:len(ones)/2]) + decided(row[1:], ones[len(ones)/2:])
	return one(sum == 2 || sum == 1 && !row[0])
}

// saysTheWorth is promise 6 for one row and rest, which must have a table: place
// by place held against Value, and all of it against HoldsFront.
func saysTheWorth(t *testing.T, name string, q []quant, rest []node) table {
	t.Helper()
	x, ok := impl.TableOf(q, rest)
	if !ok || x.N != bitsOfQuants(q) || !impl.TableOk(x) {
		t.Fatalf("%s: TableOf of %v, %v is %s, %v", name, q, rest, short(x), ok)
	}
	for place := range power(x.N) {
		bits := bitsAt(x.N, place)
		env := envAt(q, bits)
		asked, ok := impl.Value(rest, env[:])
		if got := impl.TableAt(x, bits); !ok || got != asked || x.Ones[place] != '0'+byte(asked) {
			t.Fatalf("%s: TableOf of %v, %v is %d at %v, not %d", name, q, rest, got, bits, asked)
		}
	}
	frontHolds(t, name, q, rest, decided(impl.Rows(q), x.Ones))
	return x
}

// isItsHalves is the other part of promise 6.
func isItsHalves(t *testing.T, x table) {
	t.Helper()
	if x.N == 0 {
		hasNoHalf(t, "no bit", x, 0)
		hasNoHalf(t, "no bit", x, 1)
		return
	}
	ones, count := "", 0
	for b := range 2 {
		h, ok := impl.Half(x, b)
		if !ok || h.N != x.N-1 || !impl.TableOk(h) {
			t.Fatalf("Half of %s, %d is %s, %v", short(x), b, short(h), ok)
		}
		for place := range h.Ones {
			bits := bitsAt(h.N, place)
			if at := int(x.Ones[b*power(h.N)+place] - '0'); int(h.Ones[place]-'0') != at {
				t.Fatalf("Half of %s, %d is not %d at %v", short(x), b, at, bits)
			}
			if x.N <= 7 {
				want(t, "TableAt of the whole", impl.TableAt(x, append([]int{b}, bits...)), impl.TableAt(h, bits), bits...)
			}
		}
		ones += h.Ones
		count += impl.TableCount(h)
	}
	if ones != x.Ones {
		t.Fatalf("%s is not its halves", short(x))
	}
	want(t, "TableCount of both halves", count, impl.TableCount(x))
}

func TestWhatTablesAre(t *testing.T) {
	for _, x := range []table{
		tableOf(0, "0"), tableOf(0, "1"), tableOf(1, "00"), tableOf(1, "01"), tableOf(1, "10"), tableOf(1, "11"), tableOf(2, "0110"), tableOf(2, "0010"), tableOf(3, "00010111"),
		constantTable(11, 0), constantTable(impl.MaxBits, 0), constantTable(impl.MaxBits, 1),
	} {
		if !impl.TableOk(x) {
			t.Errorf("TableOk of %s is false", short(x))
		}
	}
	isNoTable(t, "the zero value", table{})
	for n := range impl.MaxBits + 1 {
		ones := constantTable(n, 1).Ones
		for _, wrong := range []string{"", ones[1:], ones + "1", ones + ones, ones[:len(ones)/2], ones + "\x00", ones[1:] + "\u00e9"} {
			isNoTable(t, "too many signs or too few", table{N: n, Ones: wrong})
		}
		for _, sign := range []string{"2", "/", "\x00", "\x01", " ", ":", "a", "\xff", "\xb1", "\xb0"} {
			for _, place := range []int{0, len(ones) / 2, len(ones) - 1} {
				isNoTable(t, "a wrong sign", table{N: n, Ones: ones[:place] + sign + ones[place+1:]})
			}
		}
		if n > 0 {
			isNoTable(t, "one sign of two bytes", table{N: n, Ones: "\u00e9" + ones[2:]})
		}
	}
	for _, n := range []int{-1, -2, -12, -63, -64, impl.MaxBits + 1, 32, 62, 63, 64, 65, 256, 1 << 32, math.MinInt, math.MinInt + 1, math.MaxInt, math.MaxInt - 1} {
		for _, ones := range []string{"", "0", "1", "01", "0110", constantTable(12, 1).Ones} {
			isNoTable(t, "no number of bits", table{N: n, Ones: ones})
		}
	}
	isNoTable(t, "thirteen bits", constantTable(impl.MaxBits+1, 0))
	isNoTable(t, "thirteen bits", constantTable(impl.MaxBits+1, 1))
}

func TestTableAtSomeBits(t *testing.T) {
	x := table{N: 3, Ones: "00010111"}
	y := table{N: 3, Ones: "01000010"}
	for _, at := range []struct {
		x     table
		bits  []int
		asked int
	}{
		{tableOf(0, "0"), nil, 0}, {tableOf(0, "1"), nil, 1}, {tableOf(0, "1"), []int{}, 1},
		{tableOf(1, "01"), []int{0}, 0}, {tableOf(1, "01"), []int{1}, 1}, {tableOf(1, "10"), []int{0}, 1}, {tableOf(1, "10"), []int{1}, 0},
		{tableOf(2, "0100"), []int{0, 1}, 1}, {tableOf(2, "0100"), []int{1, 0}, 0}, {tableOf(2, "0010"), []int{0, 1}, 0}, {tableOf(2, "0010"), []int{1, 0}, 1},
		{x, []int{0, 0, 0}, 0}, {x, []int{0, 1, 1}, 1}, {x, []int{1, 0, 0}, 0}, {x, []int{1, 1, 0}, 1}, {x, []int{1, 1, 1}, 1},
		{y, []int{0, 0, 1}, 1}, {y, []int{1, 0, 0}, 0}, {y, []int{1, 1, 0}, 1}, {y, []int{0, 1, 1}, 0},
	} {
		want(t, "TableAt of "+short(at.x), impl.TableAt(at.x, at.bits), at.asked, at.bits...)
	}
	eachTable(61, func(x table) {
		step := max(1, len(x.Ones)/200) | 1
		for place := 0; place < len(x.Ones); place += step {
			want(t, "TableAt of "+short(x), impl.TableAt(x, bitsAt(x.N, place)), int(x.Ones[place]-'0'), place)
		}
	})
}

func TestTableAtWrongBits(t *testing.T) {
	for n := range impl.MaxBits + 1 {
		x := constantTable(n, 1)
		for count := range 30 {
			want(t, "TableAt of so many bits", impl.TableAt(x, make([]int, count, 40)), one(count == n)*2-1, n, count)
		}
		want(t, "TableAt of very many bits", impl.TableAt(x, make([]int, 1000000)), -1)
		want(t, "TableAt of nil", impl.TableAt(x, nil), one(n == 0)*2-1, n)
		for _, wrong := range append(farNumbers(), 2, 3, 48, 49) {
			for i := range n {
				bits := make([]int, n)
				bits[i] = wrong
				want(t, "TableAt of a wrong bit", impl.TableAt(x, bits), -1, bits...)
				for j := range bits {
					bits[j] = max(bits[j], 1)
				}
				bits[i] = wrong
				want(t, "TableAt of a wrong bit", impl.TableAt(x, bits), -1, bits...)
			}
			want(t, "TableAt of a wrong bit too many", impl.TableAt(x, append(make([]int, n), wrong)), -1, n, wrong)
		}
		if n >= 2 {
			// together these would tell a place
			want(t, "TableAt of 2 and -2", impl.TableAt(x, append([]int{1, -2}, make([]int, n-2)...)), -1, n)
			want(t, "TableAt of -1 and 2", impl.TableAt(x, append([]int{-1, 2}, make([]int, n-2)...)), -1, n)
		}
	}
}

func TestTablesOfTexts(t *testing.T) {
	for _, x := range []struct {
		text string
		ones string
	}{
		{"#1:0", "0"}, {"#1:1", "1"}, {"(all v0:1 v0:1)", "01"}, {"(some v0:1 v0:1)", "01"}, {"(not (all v0:1 v0:1))", "10"},
		{"(all v0:2 (= v0:2 #2:1))", "0100"}, {"(all v0:2 (= v0:2 #2:2))", "0010"}, {"(all v0:3 (< v0:3 #3:3))", "11100000"},
		{"(all v0:3 (slice 2 1 v0:3))", "00001111"}, {"(all v0:3 (slice 1 1 v0:3))", "00110011"}, {"(all v0:3 (slice 0 1 v0:3))", "01010101"},
		{"(all v0:2 (some v1:2 (= (add v0:2 v1:2) #2:0)))", "1000000100100100"},
		// of two variables the first one has the highest bits, whatever its number
		{"(all v0:1 (some v1:2 (= (join #1:0 v0:1) v1:2)))", "10000100"}, {"(some v1:2 (all v0:1 (= (join #1:0 v0:1) v1:2)))", "10010000"},
		{"(all v7:2 (some v3:1 (and (= v7:2 #2:1) v3:1)))", "00010000"}, {"(all v3:1 (some v7:2 (and (= v7:2 #2:1) v3:1)))", "00000100"},
		{"(some v5:1 (all v2:1 (and v5:1 (not v2:1))))", "0010"}, {"(some v2:1 (all v5:1 (and v5:1 (not v2:1))))", "0100"},
		// what is not in the rest is in the table
		{"(all v0:2 #1:1)", "1111"}, {"(all v0:1 (some v1:1 v0:1))", "0011"}, {"(all v1:1 (some v0:1 v0:1))", "0101"},
		{"(and (all v0:1 v0:1) (not (some v1:2 (= v1:2 #2:3))))", "00001110"},
	} {
		q, rest, ok := impl.Front(term(t, x.text))
		got, made := impl.TableOf(q, rest)
		if !ok || !made || got != (table{N: bitsOfQuants(q), Ones: x.ones}) {
			t.Errorf("TableOf of %q is %s, %v, not %s", x.text, short(got), made, x.ones)
		}
		saysTheWorth(t, x.text, q, rest)
	}
}

func TestTablesOfOneVariable(t *testing.T) {
	for v := range impl.MaxVars {
		for w := 1; w <= impl.MaxWidth; w++ {
			q := []quant{{All: v%2 == 0, Var: v, Bits: w}}
			for _, k := range []int{0, 1, power(w) / 2, power(w) - 1} {
				rest := []node{variable(v, w), constant(k, w), two(impl.OpEq, 0, 1)}
				asked := tableBy(w, func(bits []int) bool { return placeAt(bits) == k })
				if x := saysTheWorth(t, "just one word", q, rest); x != asked {
					t.Fatalf("%d of width %d has the table %s", k, w, short(x))
				}
			}
			for low := range w {
				rest := []node{variable(v, w), {Op: impl.OpSlice, W: 1, K: low}}
				x := saysTheWorth(t, "one bit", q, rest)
				isList(t, "Needs of one bit", impl.Needs(x), w-1-low)
				want(t, "TableCount of one bit", impl.TableCount(x), power(w-1))
			}
		}
	}
}

func TestTablesOfSeveralVariables(t *testing.T) {
	for _, x := range []struct {
		q    []quant
		rest string
	}{
		{[]quant{every(0, 3), exists(1, 2)}, "(= v0:3 (join #1:0 v1:2))"},
		{[]quant{exists(1, 2), every(0, 3)}, "(= v0:3 (join #1:0 v1:2))"},
		{[]quant{every(6, 1), exists(2, 4), every(4, 2)}, "(< (join v6:1 (join #1:0 v4:2)) v2:4)"},
		{[]quant{every(4, 2), exists(6, 1), every(2, 4)}, "(< (join v6:1 (join #1:0 v4:2)) v2:4)"},
		{[]quant{every(0, 8), exists(1, 4)}, "(= (slice 0 4 v0:8) v1:4)"}, {[]quant{every(1, 4), exists(0, 8)}, "(= (slice 3 4 v0:8) v1:4)"},
		{[]quant{every(3, 5), every(7, 5)}, "(s< (mul v3:5 v7:5) (sub v7:5 v3:5))"},
		{[]quant{exists(7, 1), every(5, 1), exists(3, 1), every(1, 1)}, "(if v7:1 v5:1 (xor v3:1 v1:1))"},
		{[]quant{every(0, 1), every(1, 1), every(2, 1), every(3, 1), exists(4, 2), exists(5, 2), exists(6, 2), exists(7, 2)}, "(= (add v4:2 v6:2) (join v3:1 v0:1))"},
		// idle ones at the front, between and at the end
		{[]quant{every(3, 2), exists(0, 2), every(4, 1), exists(1, 2), every(5, 3)}, "(= (add v0:2 v1:2) #2:3)"},
		{[]quant{every(2, 8)}, "#1:1"}, {[]quant{every(2, 8)}, "#1:0"}, {nil, "#1:1"}, {nil, "(not #1:1)"}, {[]quant{}, "(= #8:7 #8:7)"},
	} {
		saysTheWorth(t, x.rest, x.q, term(t, x.rest))
	}
}

// The kind of a quantifier is nothing to the table.
func TestTablesOfEitherKind(t *testing.T) {
	rest := term(t, "(< v0:3 (join v1:1 v2:2))")
	asked := saysTheWorth(t, "kinds", []quant{every(0, 3), every(1, 1), every(2, 2)}, rest)
	for kinds := range 8 {
		bits := bitsAt(3, kinds)
		q := []quant{{All: bits[0] == 1, Var: 0, Bits: 3}, {All: bits[1] == 1, Var: 1, Bits: 1}, {All: bits[2] == 1, Var: 2, Bits: 2}}
		if x := saysTheWorth(t, "kinds", q, rest); x != asked {
			t.Errorf("of other kinds the table is %s, not %s", short(x), short(asked))
		}
	}
}

func TestHowManyBitsTablesHave(t *testing.T) {
	rest := term(t, "(= (slice 1 2 v0:8) (slice 0 2 v1:4))")
	q := []quant{every(0, 8), exists(1, 4)}
	x := saysTheWorth(t, "MaxBits", q, rest)
	want(t, "N", x.N, impl.MaxBits)
	want(t, "how many signs", len(x.Ones), 4096)
	for i := range 3 {
		for w := 1; w <= impl.MaxWidth; w++ {
			hasNoTable(t, "idle bits more", slices.Insert(slices.Clone(q), i, every(2, w)), rest)
		}
	}
	hasNoTable(t, "one bit more", []quant{every(0, 8), exists(1, 5)}, term(t, "(= (slice 0 5 v0:8) v1:5)"))
	for v := range impl.MaxVars {
		q := []quant{}
		for u := range v + 1 {
			q = append(q, quant{All: u%2 == 0, Var: u, Bits: 8})
		}
		if v > 0 {
			hasNoTable(t, "many of eight bits", q, []node{constant(1, 1)})
		}
	}
	for _, k := range []int{0, 1} {
		for _, q := range [][]quant{nil, {}} {
			if x, ok := impl.TableOf(q, []node{constant(k, 1)}); !ok || x != constantTable(0, k) {
				t.Errorf("TableOf of no quantifier is %s, %v", short(x), ok)
			}
		}
	}
}

func TestTablesOfWhatIsNoFront(t *testing.T) {
	same := term(t, "(= v0:2 v1:2)")
	fine := []quant{every(0, 2), exists(1, 2)}
	saysTheWorth(t, "right", fine, same)
	for _, q := range [][]quant{
		nil, {}, {every(0, 2)}, {exists(1, 2)}, {every(0, 2), every(0, 2)}, {every(0, 2), exists(1, 2), every(0, 2)}, {every(0, 2), exists(1, 2), exists(1, 1)},
		{every(0, 1), exists(1, 2)}, {every(0, 3), exists(1, 2)}, {every(0, 2), exists(1, 8)}, {every(0, 2), exists(2, 2)},
		{every(0, 2), exists(1, 2), every(8, 1)}, {every(0, 2), exists(1, 2), every(-1, 1)}, {every(0, 2), exists(1, 2), every(2, 0)},
		{every(0, 2), exists(1, 2), every(2, 9)}, {every(0, 2), exists(1, 2), every(2, -1)}, {every(0, 2), exists(1, 2), every(2, math.MaxInt)},
		{every(0, 2), exists(1, 2), every(2, math.MinInt)}, {every(0, 2), exists(1, 2), every(math.MaxInt, 1)}, {every(math.MinInt, 1), every(0, 2), exists(1, 2)},
		slices.Repeat([]quant{every(0, 2), exists(1, 2)}, 2), slices.Repeat([]quant{every(0, 2), exists(1, 2)}, 100000),
	} {
		hasNoTable(t, "quantifiers that do not fit", q, same)
	}
	for _, rest := range [][]node{
		nil, {}, {constant(2, 1)}, {constant(0, 2)}, {variable(0, 2)}, {variable(2, 1)}, {variable(0, 1)}, {{Op: 21, W: 1}}, {{Op: -1, W: 1}}, {{Op: math.MinInt, W: 1}},
		{constant(1, 1), not(1)}, {constant(1, 1), not(math.MinInt)}, {constant(1, 1), all(5, 1, 0)}, {constant(1, 1), some(0, 2, 0), not(1)},
		{constant(1, 1), all(5, 1, 0), not(0)}, slices.Repeat([]node{constant(1, 1)}, impl.MaxNodes+1),
	} {
		hasNoTable(t, "a rest that does not fit", fine, rest)
		hasNoTable(t, "a rest that does not fit", nil, rest)
	}
	// what the root does not reach may be any variable
	saysTheWorth(t, "not reached", fine, []node{variable(7, 8), variable(0, 1), two(impl.OpEq, 0, 0), variable(0, 2), variable(1, 2), two(impl.OpLess, 3, 4)})
	saysTheWorth(t, "not reached", nil, []node{variable(7, 8), variable(0, 1), constant(1, 1)})
}

// There can be more ways through the rest than could be gone, at each of 4096 places.
func TestTableOfManyWays(t *testing.T) {
	rest := []node{variable(0, 8), variable(1, 4), {Op: impl.OpSlice, W: 4, K: 2, A: 0}, two(impl.OpLess, 1, 2)}
	for len(rest) < impl.MaxNodes {
		rest = append(rest, two(impl.OpOr, len(rest)-1, len(rest)-1))
	}
	x := saysTheWorth(t, "2^76 ways", []quant{every(0, 8), exists(1, 4)}, rest)
	if y, ok := impl.TableOf([]quant{every(0, 8), exists(1, 4)}, rest[:4]); !ok || x != y {
		t.Errorf("by one way it is %s, by many %s", short(y), short(x))
	}
}

func TestTablesOfDrawnSentences(t *testing.T) {
	d := dice(62)
	count, mixed := 0, 0
	for count < 1500 {
		x := drawSentence(&d)
		q, rest, ok := impl.Front(x)
		if !ok {
			t.Fatalf("%v has no front", x)
		}
		if impl.Bits(x) > impl.MaxBits {
			hasNoTable(t, "drawn", q, rest)
			continue
		}
		if impl.Bits(x) > 8 {
			continue
		}
		count++
		y := saysTheWorth(t, "drawn", q, rest)
		mixed += one(impl.Known(y) < 0 && impl.Swaps(q) > 0)
		for place := range y.Ones {
			env := envAt(q, bitsAt(y.N, place))
			want(t, "the model", int(y.Ones[place]-'0'), valueModel(rest, len(rest)-1, env), place)
		}
		v, _ := impl.Holds(x)
		want(t, "what the row makes of the table", decided(impl.Rows(q), y.Ones), v)
		isItsHalves(t, y)
	}
	if mixed < 100 {
		t.Errorf("%d tables with both values are too few", mixed)
	}
}

// Rows and rests that are drawn beside Front, in any order and with any numbers.
func TestTablesOfAnyNumbers(t *testing.T) {
	d := dice(63)
	numbers := append(farNumbers(), 0, 1, 2, 3, 7, 8, 9, 20, 21)
	var counts [2]int
	for range 6000 {
		q, rest, _ := impl.Front(drawSentence(&d))
		for i := range q {
			j := d.below(i + 1)
			q[i], q[j] = q[j], q[i]
		}
		if d.below(2) == 0 {
			*field(&rest[d.below(len(rest))], "OWKABC"[d.below(6)]) = numbers[d.below(len(numbers))]
		}
		if len(q) > 0 && d.below(3) == 0 {
			q[d.below(len(q))].Bits = numbers[d.below(len(numbers))]
		}
		if len(q) > 0 && d.below(3) == 0 {
			q[d.below(len(q))].Var = numbers[d.below(len(numbers))]
		}
		asked := termModel(rest) && frontOkModel(q, rest) && bitsOfQuants(q) <= impl.MaxBits
		counts[one(asked)]++
		switch {
		case !asked:
			hasNoTable(t, "any numbers", q, rest)
		case bitsOfQuants(q) <= 6:
			saysTheWorth(t, "any numbers", q, rest)
		}
		if t.Failed() {
			t.FailNow()
		}
	}
	if slices.Min(counts[:]) < 500 {
		t.Errorf("%v are too few", counts)
	}
}

func TestHalves(t *testing.T) {
	for _, x := range []struct {
		whole  table
		halves [2]string
	}{
		{tableOf(1, "01"), [2]string{"0", "1"}}, {tableOf(1, "10"), [2]string{"1", "0"}}, {tableOf(1, "11"), [2]string{"1", "1"}},
		{tableOf(2, "0010"), [2]string{"00", "10"}}, {tableOf(2, "0100"), [2]string{"01", "00"}}, {tableOf(2, "0110"), [2]string{"01", "10"}},
		{tableOf(3, "00010111"), [2]string{"0001", "0111"}}, {tableOf(3, "01000010"), [2]string{"0100", "0010"}},
	} {
		for b, ones := range x.halves {
			h, ok := impl.Half(x.whole, b)
			if !ok || h != (table{N: x.whole.N - 1, Ones: ones}) {
				t.Errorf("Half of %s, %d is %s, %v, not %s", short(x.whole), b, short(h), ok, ones)
			}
		}
	}
	eachTable(64, func(x table) {
		isItsHalves(t, x)
		for _, b := range append(farNumbers(), 2, 3, 48, 49) {
			hasNoHalf(t, "b is none", x, b)
		}
	})
}

// The halves by the bits of a place, one after the other, end at its value.
func TestHalvesOfHalves(t *testing.T) {
	d := dice(65)
	for n := range impl.MaxBits + 1 {
		for range 20 {
			x, place := drawTable(&d, n), d.below(power(n))
			value := int(x.Ones[place] - '0')
			for i, b := range bitsAt(n, place) {
				h, ok := impl.Half(x, b)
				if !ok || h.N != n-i-1 {
					t.Fatalf("Half of %s, %d is %s, %v", short(x), b, short(h), ok)
				}
				x = h
			}
			want(t, "what is left of a table", impl.Known(x), value, n, place)
			hasNoHalf(t, "what is left of a table", x, 0)
		}
	}
}

func TestKnownAndCount(t *testing.T) {
	for n := range impl.MaxBits + 1 {
		for v := range 2 {
			x := constantTable(n, v)
			want(t, "Known", impl.Known(x), v, n)
			want(t, "TableCount", impl.TableCount(x), v*power(n), n)
			isList(t, "Needs of what is known", impl.Needs(x))
			if n == 0 {
				continue
			}
			// one value that is not as the others, at each end and between
			for _, place := range []int{0, 1, len(x.Ones) / 2, len(x.Ones)/2 - 1, len(x.Ones) - 1} {
				signs := []byte(x.Ones)
				signs[place] = '1' - byte(v)
				y := table{N: n, Ones: string(signs)}
				want(t, "Known", impl.Known(y), -1, n, v, place)
				want(t, "TableCount", impl.TableCount(y), v*power(n)+1-2*v, n, v, place)
				want(t, "how many bits it needs", len(impl.Needs(y)), n)
			}
		}
	}
	eachTable(66, func(x table) {
		ones := strings.Count(x.Ones, "1")
		want(t, "TableCount of "+short(x), impl.TableCount(x), ones)
		switch ones {
		case 0:
			want(t, "Known of "+short(x), impl.Known(x), 0)
		case len(x.Ones):
			want(t, "Known of "+short(x), impl.Known(x), 1)
		default:
			want(t, "Known of "+short(x), impl.Known(x), -1)
		}
	})
}

func TestNeeds(t *testing.T) {
	for _, x := range []struct {
		x     table
		asked []int
	}{
		{tableOf(0, "0"), nil}, {tableOf(0, "1"), nil}, {tableOf(1, "00"), nil}, {tableOf(1, "01"), []int{0}}, {tableOf(1, "10"), []int{0}},
		{tableOf(2, "0011"), []int{0}}, {tableOf(2, "0101"), []int{1}}, {tableOf(2, "0110"), []int{0, 1}}, {tableOf(2, "0001"), []int{0, 1}}, {tableOf(2, "1111"), nil},
		{tableOf(3, "00001111"), []int{0}}, {tableOf(3, "00110011"), []int{1}}, {tableOf(3, "01010101"), []int{2}}, {tableOf(3, "00111100"), []int{0, 1}}, {tableOf(3, "01011010"), []int{0, 2}},
	} {
		isList(t, "Needs of "+short(x.x), impl.Needs(x.x), x.asked...)
	}
	for n := 1; n <= impl.MaxBits; n++ {
		every := []int{}
		for bit := range n {
			every = append(every, bit)
			// on this one alone
			isList(t, "Needs of one", impl.Needs(tableBy(n, func(bits []int) bool { return bits[bit] == 1 })), bit)
			isList(t, "Needs of one", impl.Needs(tableBy(n, func(bits []int) bool { return bits[bit] == 0 })), bit)
			// on all but this one
			others := slices.Delete(slices.Clone(every), bit, bit+1)
			for more := bit + 1; more < n; more++ {
				others = append(others, more)
			}
			isList(t, "Needs of the others", impl.Needs(tableBy(n, func(bits []int) bool {
				return slices.Equal(slices.Delete(bits, bit, bit+1), make([]int, n-1))
			})), others...)
		}
		isList(t, "Needs of all", impl.Needs(tableBy(n, func(bits []int) bool { return !slices.Contains(bits, 0) })), every...)
	}
	eachTable(67, func(x table) {
		asked := []int{}
		for bit := range x.N {
			if depends(x, bit) {
				asked = append(asked, bit)
			}
		}
		isList(t, "Needs of "+short(x), impl.Needs(x), asked...)
		// the first bit is needed just when the halves are not the same
		if x.N > 0 {
			low, _ := impl.Half(x, 0)
			high, _ := impl.Half(x, 1)
			if slices.Contains(asked, 0) == (low == high) {
				t.Fatalf("Needs of %s is %v", short(x), asked)
			}
		}
	})
}

// valueByValue holds TableAnd and TableXor of two tables of equally many bits against each of their values.
func valueByValue(t *testing.T, a, b table) {
	t.Helper()
	both, apart := make([]byte, len(a.Ones)), make([]byte, len(a.Ones))
	for i := range both {
		both[i] = '0' + byte(one(a.Ones[i] == '1' && b.Ones[i] == '1'))
		apart[i] = '0' + byte(one(a.Ones[i] != b.Ones[i]))
	}
	if x, ok := impl.TableAnd(a, b); !ok || x != (table{N: a.N, Ones: string(both)}) {
		t.Fatalf("TableAnd of %s, %s is %s, %v", short(a), short(b), short(x), ok)
	}
	if x, ok := impl.TableXor(a, b); !ok || x != (table{N: a.N, Ones: string(apart)}) {
		t.Fatalf("TableXor of %s, %s is %s, %v", short(a), short(b), short(x), ok)
	}
}

func TestTablesTogether(t *testing.T) {
	for _, a := range smallTables() {
		for _, b := range smallTables() {
			if a.N == b.N {
				valueByValue(t, a, b)
			} else {
				areNotTogether(t, "of other bits", a, b)
			}
		}
	}
	d := dice(68)
	for n := range impl.MaxBits + 1 {
		for range 20 {
			a, b := drawTable(&d, n), drawTable(&d, n)
			valueByValue(t, a, b)
			x, _ := impl.TableAnd(a, b)
			y, _ := impl.TableXor(a, b)
			want(t, "TableCount of both and apart", 2*impl.TableCount(x)+impl.TableCount(y), impl.TableCount(a)+impl.TableCount(b), n)
		}
		for m := range impl.MaxBits + 1 {
			if m != n {
				areNotTogether(t, "of other bits", drawTable(&d, n), drawTable(&d, m))
			}
		}
	}
}

func TestTablesDenied(t *testing.T) {
	for _, x := range []struct {
		x     table
		asked string
	}{{tableOf(0, "0"), "1"}, {tableOf(0, "1"), "0"}, {tableOf(1, "01"), "10"}, {tableOf(2, "0010"), "1101"}, {tableOf(3, "00010111"), "11101000"}} {
		if y := impl.TableNot(x.x); y != (table{N: x.x.N, Ones: x.asked}) {
			t.Errorf("TableNot of %s is %s", short(x.x), short(y))
		}
	}
	eachTable(69, func(x table) {
		y := impl.TableNot(x)
		asked := strings.NewReplacer("0", "1", "1", "0").Replace(x.Ones)
		if y != (table{N: x.N, Ones: asked}) || impl.TableNot(y) != x {
			t.Fatalf("TableNot of %s is %s", short(x), short(y))
		}
		want(t, "TableCount of both", impl.TableCount(x)+impl.TableCount(y), power(x.N))
		if all, ok := impl.TableXor(x, y); !ok || impl.Known(all) != 1 {
			t.Fatalf("%s and its denial are apart at %s", short(x), short(all))
		}
		if none, ok := impl.TableAnd(x, y); !ok || impl.Known(none) != 0 {
			t.Fatalf("%s and its denial are both at %s", short(x), short(none))
		}
	})
}

func TestTableKey(t *testing.T) {
	for key, x := range map[string]table{"0:0": tableOf(0, "0"), "0:1": tableOf(0, "1"), "1:01": tableOf(1, "01"), "2:0110": tableOf(2, "0110"), "3:00010111": tableOf(3, "00010111")} {
		if got := impl.TableKey(x); got != key {
			t.Errorf("TableKey of %s is %q", short(x), got)
		}
	}
	eachTable(70, func(x table) {
		if got := impl.TableKey(x); got != strconv.Itoa(x.N)+":"+x.Ones {
			t.Errorf("TableKey of %s is %q", short(x), got)
		}
	})
}

func TestTablesWriteIntoNothing(t *testing.T) {
	d := dice(71)
	junk := node{Op: -7, W: -7, K: -7, A: -7, B: -7, C: -7}
	for range 500 {
		q, rest, _ := impl.Front(drawSentence(&d))
		quants := append(slices.Clone(q), slices.Repeat([]quant{{Var: -7, Bits: -7}}, 9)...)
		nodes := append(slices.Clone(rest), slices.Repeat([]node{junk}, 9)...)
		quantsBefore, nodesBefore := slices.Clone(quants), slices.Clone(nodes)
		x, ok := impl.TableOf(quants[:len(q)], nodes[:len(rest)])
		if !slices.Equal(quants, quantsBefore) || !slices.Equal(nodes, nodesBefore) {
			t.Fatalf("%v, %v have become %v, %v", quantsBefore, nodesBefore, quants, nodes)
		}
		if y, same := impl.TableOf(q, rest); y != x || same != ok {
			t.Fatalf("TableOf of %v, %v is %s, and %s a second time", q, rest, short(x), short(y))
		}
	}
	eachTable(72, func(x table) {
		bits := append(bitsAt(x.N, d.below(power(x.N))), -7, -7, -7)
		before := slices.Clone(bits)
		v := impl.TableAt(x, bits[:x.N])
		want(t, "TableAt a second time", impl.TableAt(x, bits[:x.N]), v, bits...)
		isList(t, "the bits", bits, before...)
		list := impl.Needs(x)
		asked := slices.Clone(list)
		clear(list[:cap(list)])
		isList(t, "Needs a second time", impl.Needs(x), asked...)
	})
}
