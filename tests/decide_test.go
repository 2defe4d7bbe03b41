package tests

import (
	"math"
	"slices"
	"strings"
	"testing"

	"loop.example/g00116/impl"
)

// flags is the row that a text tells: a for All, s for not.
func flags(text string) []bool {
	row := []bool{}
	for _, sign := range text {
		row = append(row, sign == 'a')
	}
	return row
}

func showRow(row []bool) string {
	text := ""
	for _, all := range row {
		text += "sa"[one(all) : one(all)+1]
	}
	return text
}

// rowAt is row number i of n flags, for i of 0 .. 2^n - 1.
func rowAt(n, i int) []bool {
	row := []bool{}
	for _, b := range bitsAt(n, i) {
		row = append(row, b == 1)
	}
	return row
}

func drawRow(d *dice, n int) []bool { return rowAt(n, d.below(power(n))) }

func otherRow(row []bool) []bool {
	list := []bool{}
	for _, all := range row {
		list = append(list, !all)
	}
	return list
}

func withoutFlag(row []bool, k int) []bool { return slices.Delete(slices.Clone(row), k, k+1) }

// eachRuled calls f for all tables of few bits below all rows, and for drawn
// ones of each number of bits below drawn rows, in turns of both flags, and of one.
func eachRuled(seed dice, f func(row []bool, x table)) {
	for _, x := range smallTables() {
		for i := range power(x.N) {
			f(rowAt(x.N, i), x)
		}
	}
	for n := range impl.MaxBits + 1 {
		for range 12 {
			f(drawRow(&seed, n), drawTable(&seed, n))
			f(drawRow(&seed, n), evenTable(&seed, n))
		}
		for _, text := range []string{"as", "sa", "a", "s", "aass", "ssaa"} {
			f(flags(strings.Repeat(text, n)[:n]), drawTable(&seed, n))
			f(flags(strings.Repeat(text, n)[:n]), evenTable(&seed, n))
		}
	}
}

// evenTable is one whose verdict hangs on a few of its places: where an a and
// an s follow each other, 0 and 1 are told apart deep in the table only.
func evenTable(d *dice, n int) table {
	signs := make([]byte, power(n))
	for i := range signs {
		signs[i] = '0' + byte(one(d.below(100) < 62))
	}
	return table{N: n, Ones: string(signs)}
}

func decides(t *testing.T, name string, row []bool, x table, asked int) {
	t.Helper()
	if v, ok := impl.Decide(row, x); !ok || v != asked {
		t.Fatalf("%s: Decide of %s, %s is %d, %v, not %d", name, showRow(row), short(x), v, ok, asked)
	}
}

func chooses(t *testing.T, name string, row []bool, x table, asked int) {
	t.Helper()
	if b, ok := impl.Choose(row, x); !ok || b != asked {
		t.Fatalf("%s: Choose of %s, %s is %d, %v, not %d", name, showRow(row), short(x), b, ok, asked)
	}
}

func merges(t *testing.T, name string, row []bool, x table, k int, asked table) {
	t.Helper()
	if y, ok := impl.Merge(row, x, k); !ok || y != asked {
		t.Fatalf("%s: Merge of %s, %s, %d is %s, %v, not %s", name, showRow(row), short(x), k, short(y), ok, short(asked))
	}
}

func hasNoMerge(t *testing.T, name string, row []bool, x table, k int) {
	t.Helper()
	if y, ok := impl.Merge(row, x, k); ok || y != (table{}) {
		t.Fatalf("%s: Merge of %d flags, %s, %d is %s, %v, not nothing", name, len(row), short(x), k, short(y), ok)
	}
}

// mergeModel tells each value of the table without bit k by the bits of its place.
func mergeModel(row []bool, x table, k int) table {
	signs := make([]byte, power(x.N-1))
	for place := range signs {
		bits := bitsAt(x.N-1, place)
		sum := 0
		for b := range 2 {
			sum += int(x.Ones[placeAt(slices.Insert(slices.Clone(bits), k, b))] - '0')
		}
		signs[place] = '0' + byte(one(sum == 2 || sum == 1 && !row[k]))
	}
	return table{N: x.N - 1, Ones: string(signs)}
}

// isNotDecided is promise 16 for a row and a table that do not belong together.
func isNotDecided(t *testing.T, name string, row []bool, x table) {
	t.Helper()
	if v, ok := impl.Decide(row, x); ok || v != 0 {
		t.Fatalf("%s: Decide of %d flags, %s is %d, %v, not nothing", name, len(row), short(x), v, ok)
	}
	if b, ok := impl.Choose(row, x); ok || b != 0 {
		t.Fatalf("%s: Choose of %d flags, %s is %d, %v, not nothing", name, len(row), short(x), b, ok)
	}
	isList(t, name+": Idle", impl.Idle(row, x))
	for _, k := range []int{-1, 0, 1, x.N - 1, x.N, len(row) - 1, len(row), math.MinInt, math.MaxInt} {
		hasNoMerge(t, name, row, x, k)
	}
}

// isOfItsHalves holds Decide and Choose against what they and Half say of both halves.
func isOfItsHalves(t *testing.T, row []bool, x table) {
	t.Helper()
	v := decided(row, x.Ones)
	decides(t, "the model", row, x, v)
	if x.N == 0 {
		if b, ok := impl.Choose(row, x); ok || b != 0 {
			t.Fatalf("Choose of %s is %d, %v, not nothing", short(x), b, ok)
		}
		return
	}
	values := []int{}
	for b := range 2 {
		h, _ := impl.Half(x, b)
		value, ok := impl.Decide(row[1:], h)
		if !ok {
			t.Fatalf("Decide of %s, %s is nothing", showRow(row[1:]), short(h))
		}
		values = append(values, value)
	}
	if row[0] {
		want(t, "an All first of "+short(x), v, slices.Min(values), values...)
	} else {
		want(t, "a flag that is not All first of "+short(x), v, slices.Max(values), values...)
	}
	chooses(t, "the least", row, x, slices.Index(values, v))
}

func TestVerdictsOfTables(t *testing.T) {
	for _, x := range []struct {
		row   string
		ones  string
		asked int
	}{
		{"", "0", 0}, {"", "1", 1},
		{"a", "00", 0}, {"a", "01", 0}, {"a", "10", 0}, {"a", "11", 1}, {"s", "00", 0}, {"s", "01", 1}, {"s", "10", 1}, {"s", "11", 1},
		// for every value of the first there is one of the second
		{"as", "0110", 1}, {"as", "1001", 1}, {"as", "0101", 1}, {"as", "0011", 0}, {"as", "1100", 0}, {"as", "0111", 1}, {"as", "0001", 0},
		// there is one of the first for every one of the second
		{"sa", "0110", 0}, {"sa", "1001", 0}, {"sa", "0101", 0}, {"sa", "0011", 1}, {"sa", "1100", 1}, {"sa", "0111", 1}, {"sa", "0001", 0},
		{"aa", "1110", 0}, {"aa", "0111", 0}, {"aa", "1111", 1}, {"ss", "0001", 1}, {"ss", "1000", 1}, {"ss", "0000", 0},
		{"asa", "00111100", 1}, {"asa", "11000011", 1}, {"asa", "01011010", 0}, {"asa", "00111110", 1}, {"asa", "00110110", 0},
		{"sas", "01100000", 1}, {"sas", "00001001", 1}, {"sas", "01001000", 0}, {"sas", "00110011", 0}, {"sas", "00000111", 1},
		{"aas", "01101001", 1}, {"aas", "01101100", 0}, {"ssa", "00000011", 1}, {"ssa", "01010110", 0}, {"ass", "00010100", 1}, {"ass", "00011000", 1}, {"ass", "11110000", 0}, {"saa", "11111110", 1}, {"saa", "01111110", 0},
		{"asas", "0111011001101001", 1}, {"asas", "0111001101101001", 1}, {"asas", "0011001101101001", 0}, {"sasa", "0011110000110001", 1}, {"sasa", "0001110000110001", 0},
	} {
		decides(t, "as it stands", flags(x.row), tableOf(len(x.row), x.ones), x.asked)
	}
}

func TestVerdictsOfHalves(t *testing.T) {
	counts := map[bool][2]int{}
	eachRuled(101, func(row []bool, x table) {
		isOfItsHalves(t, row, x)
		if x.N > 3 {
			// of the deep ones, those that are not told by one flag alone
			mixed := slices.Contains(row, true) && slices.Contains(row, false)
			count := counts[mixed]
			count[decided(row, x.Ones)]++
			counts[mixed] = count
		}
	})
	for mixed, count := range counts {
		if slices.Min(count[:]) < 15 {
			t.Errorf("%v verdicts (of both flags: %v) are too few", count, mixed)
		}
	}
}

func TestRowsOfOneKind(t *testing.T) {
	eachTable(102, func(x table) {
		ones := strings.Count(x.Ones, "1")
		decides(t, "All alone", slices.Repeat([]bool{true}, x.N), x, one(ones == len(x.Ones)))
		decides(t, "none that is All", make([]bool, x.N), x, one(ones > 0))
	})
	// one place that is not as the others, each in its turn
	for _, n := range []int{1, 2, 3, 5, 6, 7, 8, impl.MaxBits} {
		for place := range power(n) {
			for v := range 2 {
				signs := []byte(constantTable(n, v).Ones)
				signs[place] = '1' - byte(v)
				x := table{N: n, Ones: string(signs)}
				row := slices.Repeat([]bool{v == 1}, n)
				decides(t, "one place of its own", row, x, 1-v)
				chooses(t, "one place of its own", row, x, bitsAt(n, place)[0])
				// one flag of the other kind, and no place tells it alone
				row[place%n] = v == 0
				decides(t, "one place of its own", row, x, v)
			}
		}
	}
}

// A row of twelve flags over a table that is told by two numbers of six bits.
func TestVerdictsOfMostBits(t *testing.T) {
	byNumbers := func(f func(a, b int) bool) table {
		return tableBy(impl.MaxBits, func(bits []int) bool { return f(placeAt(bits[:6]), placeAt(bits[6:])) })
	}
	same := byNumbers(func(a, b int) bool { return a == b })
	sum := byNumbers(func(a, b int) bool { return (a+b)%64 == 0 })
	above := byNumbers(func(a, b int) bool { return a < b })
	notBelow := byNumbers(func(a, b int) bool { return a <= b })
	six := func(first, second string) []bool { return flags(strings.Repeat(first, 6) + strings.Repeat(second, 6)) }
	for _, x := range []struct {
		x                table
		as, sa, all, any int
		choose           [4]int
	}{
		{same, 1, 0, 0, 1, [4]int{0, 0, 0, 0}},
		{sum, 1, 0, 0, 1, [4]int{0, 0, 0, 0}},
		{above, 0, 0, 0, 1, [4]int{1, 0, 0, 0}},
		{notBelow, 1, 1, 0, 1, [4]int{0, 0, 0, 0}},
		{impl.TableNot(notBelow), 0, 0, 0, 1, [4]int{0, 0, 0, 0}},
		{impl.TableNot(above), 1, 1, 0, 1, [4]int{0, 1, 0, 0}},
		{constantTable(impl.MaxBits, 0), 0, 0, 0, 0, [4]int{}},
		{constantTable(impl.MaxBits, 1), 1, 1, 1, 1, [4]int{}},
	} {
		for i, row := range [][]bool{six("a", "s"), six("s", "a"), six("a", "a"), six("s", "s")} {
			decides(t, "most bits", row, x.x, []int{x.as, x.sa, x.all, x.any}[i])
			chooses(t, "most bits", row, x.x, x.choose[i])
		}
	}
}

// The first part of promise 8.
func isTheWorth(t *testing.T, name string, x []node) table {
	t.Helper()
	q, rest, ok := impl.Front(x)
	y, few := impl.TableOf(q, rest)
	if !ok || !few {
		t.Fatalf("%s: %v has no table", name, x)
	}
	v, ok := impl.Holds(x)
	if !ok {
		t.Fatalf("%s: %v has no value", name, x)
	}
	decides(t, name, impl.Rows(q), y, v)
	v, _ = impl.HoldsFront(q, rest)
	decides(t, name, impl.Rows(q), y, v)
	return y
}

func TestVerdictsOfTexts(t *testing.T) {
	for text, asked := range map[string]int{
		"#1:0": 0, "#1:1": 1, "(not #1:1)": 0,
		"(all v0:1 v0:1)": 0, "(some v0:1 v0:1)": 1, "(all v0:2 (= v0:2 v0:2))": 1, "(some v0:2 (< v0:2 v0:2))": 0,
		"(all v0:3 (some v1:3 (= (add v0:3 v1:3) #3:0)))":                                                         1,
		"(some v1:3 (all v0:3 (= (add v0:3 v1:3) #3:0)))":                                                         0,
		"(some v1:3 (all v0:3 (= (mul v0:3 v1:3) v0:3)))":                                                         1,
		"(all v0:3 (some v1:3 (= (mul v0:3 v1:3) #3:1)))":                                                         0,
		"(all v0:4 (some v1:4 (< v0:4 v1:4)))":                                                                    0,
		"(all v0:4 (or (= v0:4 #4:15) (some v1:4 (< v0:4 v1:4))))":                                                1,
		"(not (all v0:4 (some v1:4 (< v0:4 v1:4))))":                                                              1,
		"(and (some v0:3 (= v0:3 #3:5)) (all v1:3 (some v2:3 (= (xor v1:3 v2:3) #3:7))))":                         1,
		"(all v0:2 (some v1:2 (all v2:2 (some v3:2 (= (add v0:2 v1:2) (add v2:2 v3:2))))))":                       1,
		"(some v1:2 (all v2:2 (= (add v1:2 v2:2) v2:2)))":                                                         1,
		"(all v0:8 (some v1:4 (= (slice 4 4 v0:8) v1:4)))":                                                        1,
		"(some v1:4 (all v0:8 (= (slice 4 4 v0:8) v1:4)))":                                                        0,
		"(not (and (all v0:6 (some v1:6 (= (sub v0:6 v1:6) #6:1))) (not (not #1:1))))":                            0,
		"(all v7:1 (some v6:1 (all v5:1 (some v4:1 (= (xor v7:1 v5:1) (xor v6:1 v4:1))))))":                       1,
		"(some v7:1 (all v6:1 (some v5:1 (all v4:1 (= (xor v7:1 v5:1) (xor v6:1 v4:1))))))":                       0,
		"(or (all v0:3 (some v1:3 (s< v0:3 v1:3))) (some v2:3 (all v3:3 (or (s< v2:3 v3:3) (= v2:3 v3:3)))))":     1,
		"(and (all v0:3 (some v1:3 (= (shl v1:3 #3:1) v0:3))) (some v2:3 (all v3:3 (= (and v2:3 v3:3) #3:0))))":   0,
		"(all v0:3 (some v1:3 (and (not (= v0:3 v1:3)) (all v2:3 (or (= v2:3 v2:3) (= v2:3 (add v0:3 v1:3)))))))": 1,
		"(some v0:1 (all v1:1 (some v2:1 (all v3:1 (if v0:1 (= v1:1 v2:1) (= v1:1 v3:1))))))":                     1,
		"(all v0:1 (some v1:1 (all v2:1 (some v3:1 (if v0:1 (= v1:1 v2:1) (= v2:1 v3:1))))))":                     0,
	} {
		x := term(t, text)
		holds(t, text, x, asked)
		isTheWorth(t, text, x)
	}
}

func TestVerdictsOfDrawnSentences(t *testing.T) {
	d := dice(103)
	var counts [2]int
	for count := 0; count < 1500; {
		x := drawSentence(&d)
		if impl.Bits(x) > impl.MaxBits || impl.Bits(x) > 9 && d.below(4) > 0 {
			continue
		}
		count++
		y := isTheWorth(t, "drawn", x)
		v, _ := impl.Holds(x)
		counts[v] += one(impl.Known(y) < 0)
	}
	if slices.Min(counts[:]) < 100 {
		t.Errorf("%v verdicts are too few", counts)
	}
}

func TestChoices(t *testing.T) {
	for _, x := range []struct {
		row   string
		ones  string
		asked int
	}{
		// both halves have the verdict
		{"a", "11", 0}, {"s", "11", 0}, {"a", "00", 0}, {"s", "00", 0}, {"as", "0110", 0}, {"sa", "0110", 0}, {"ss", "0101", 0}, {"aa", "0110", 0}, {"sa", "1111", 0},
		// the first alone
		{"a", "01", 0}, {"s", "10", 0}, {"as", "0010", 0}, {"as", "0001", 0}, {"sa", "1101", 0}, {"sa", "1110", 0}, {"ss", "0100", 0}, {"ss", "1000", 0}, {"aa", "0111", 0}, {"aa", "1011", 0},
		// the second alone
		{"a", "10", 1}, {"s", "01", 1}, {"as", "0100", 1}, {"as", "1000", 1}, {"sa", "0111", 1}, {"sa", "1011", 1}, {"ss", "0001", 1}, {"ss", "0010", 1}, {"aa", "1101", 1}, {"aa", "1110", 1},
		{"asa", "00110110", 1}, {"asa", "01100011", 0}, {"asa", "01010101", 0}, {"sas", "00110110", 1}, {"sas", "01100011", 0}, {"sas", "00111100", 0},
	} {
		chooses(t, "as it stands", flags(x.row), tableOf(len(x.row), x.ones), x.asked)
	}
	// by how many and by which halves it is had, in deep tables too
	counts := map[[3]int]int{}
	eachRuled(104, func(row []bool, x table) {
		if x.N == 0 {
			return
		}
		half := len(x.Ones) / 2
		v := decided(row, x.Ones)
		values := []int{decided(row[1:], x.Ones[:half]), decided(row[1:], x.Ones[half:])}
		chooses(t, "the model", row, x, slices.Index(values, v))
		counts[[3]int{v, values[0], values[1]}]++
	})
	for _, kind := range [][3]int{{0, 0, 0}, {0, 0, 1}, {0, 1, 0}, {1, 0, 1}, {1, 1, 0}, {1, 1, 1}} {
		if counts[kind] < 100 {
			t.Errorf("the verdict and those of the halves are %v %d times, that is too few", kind, counts[kind])
		}
	}
}

// What is chosen at each bit of a row without All leads to a place with 1 where there is one, and the other way round.
func TestChoicesLeadToAPlace(t *testing.T) {
	for kind, place := range map[bool]func(ones string) int{
		false: func(ones string) int { return strings.IndexByte(ones, '1') },
		true:  func(ones string) int { return strings.IndexByte(ones, '0') },
	} {
		eachTable(105, func(x table) {
			asked := max(0, place(x.Ones))
			bits := []int{}
			for x.N > 0 {
				b, ok := impl.Choose(slices.Repeat([]bool{kind}, x.N), x)
				if !ok {
					t.Fatalf("Choose of %s is nothing", short(x))
				}
				bits = append(bits, b)
				x, _ = impl.Half(x, b)
			}
			want(t, "the place that is chosen", placeAt(bits), asked, bits...)
		})
	}
}

func isRow(t *testing.T, name string, got []bool, asked []bool) {
	t.Helper()
	if !slices.Equal(got, asked) {
		t.Fatalf("%s is %s, not %s", name, showRow(got[:min(len(got), 100)]), showRow(asked[:min(len(asked), 100)]))
	}
}

func TestOwners(t *testing.T) {
	isRow(t, "Owner of as for 1", impl.Owner(flags("as"), 1), []bool{false, true})
	isRow(t, "Owner of as for 0", impl.Owner(flags("as"), 0), []bool{true, false})
	isRow(t, "Owner of aas for 1", impl.Owner(flags("aas"), 1), []bool{false, false, true})
	isRow(t, "Owner of aas for 0", impl.Owner(flags("aas"), 0), []bool{true, true, false})
	isRow(t, "Turned of aas", impl.Turned(flags("aas")), []bool{false, false, true})
	isRow(t, "Turned of a", impl.Turned(flags("a")), flags("s"))
	isRow(t, "Turned of s", impl.Turned(flags("s")), flags("a"))
	d := dice(106)
	for n := range 40 {
		for range 30 {
			ownedAndTurned(t, drawRow(&d, n))
		}
		ownedAndTurned(t, make([]bool, n))
		ownedAndTurned(t, slices.Repeat([]bool{true}, n))
	}
	ownedAndTurned(t, nil)
	ownedAndTurned(t, []bool{})
}

// No table is asked for, so a row may have more flags than any table has bits.
func TestOwnersOfLongRows(t *testing.T) {
	d := dice(107)
	for _, n := range []int{impl.MaxBits, impl.MaxBits + 1, impl.MaxBits + 2, 63, 64, 65, 1000, 100000} {
		row := []bool{}
		for range n {
			row = append(row, d.below(2) == 1)
		}
		ownedAndTurned(t, row)
		if n > impl.MaxBits {
			isNotDecided(t, "a long row", row, constantTable(impl.MaxBits, 1))
			isNotDecided(t, "a long row", row, constantTable(impl.MaxBits+1, 1))
		}
	}
}

// ownedAndTurned: each bit is owned for just one of both verdicts.
func ownedAndTurned(t *testing.T, row []bool) {
	t.Helper()
	isRow(t, "Owner for 0", impl.Owner(row, 0), row)
	isRow(t, "Owner for 1", impl.Owner(row, 1), otherRow(row))
	isRow(t, "Turned", impl.Turned(row), otherRow(row))
	isRow(t, "Turned of Turned", impl.Turned(impl.Turned(row)), row)
	for _, v := range append(farNumbers(), 2, 3, 48, 49) {
		isRow(t, "Owner for another v", impl.Owner(row, v), nil)
	}
}

func TestIdleBits(t *testing.T) {
	for _, x := range []struct {
		x     table
		asked []int
	}{
		{tableOf(0, "0"), nil}, {tableOf(0, "1"), nil}, {tableOf(1, "00"), []int{0}}, {tableOf(1, "11"), []int{0}}, {tableOf(1, "01"), nil}, {tableOf(1, "10"), nil},
		{tableOf(2, "0011"), []int{1}}, {tableOf(2, "0101"), []int{0}}, {tableOf(2, "0110"), nil}, {tableOf(2, "0001"), nil}, {tableOf(2, "1111"), []int{0, 1}},
		{tableOf(3, "00001111"), []int{1, 2}}, {tableOf(3, "00110011"), []int{0, 2}}, {tableOf(3, "01010101"), []int{0, 1}}, {tableOf(3, "00111100"), []int{2}}, {tableOf(3, "01011010"), []int{1}}, {tableOf(3, "01100110"), []int{0}}, {tableOf(3, "00010111"), nil},
	} {
		for i := range power(x.x.N) {
			isList(t, "Idle of "+short(x.x), impl.Idle(rowAt(x.x.N, i), x.x), x.asked...)
		}
	}
	for n := 1; n <= impl.MaxBits; n++ {
		every := []int{}
		for bit := range n {
			every = append(every, bit)
		}
		row := make([]bool, n)
		isList(t, "Idle of what is known", impl.Idle(row, constantTable(n, 0)), every...)
		isList(t, "Idle of what is known", impl.Idle(row, constantTable(n, 1)), every...)
		isList(t, "Idle of none", impl.Idle(row, tableBy(n, func(bits []int) bool { return !slices.Contains(bits, 0) })))
		for bit := range n {
			others := slices.Delete(slices.Clone(every), bit, bit+1)
			isList(t, "Idle of all but one", impl.Idle(row, tableBy(n, func(bits []int) bool { return bits[bit] == 1 })), others...)
			isList(t, "Idle of one", impl.Idle(row, tableBy(n, func(bits []int) bool {
				return slices.Equal(slices.Delete(bits, bit, bit+1), make([]int, n-1))
			})), bit)
		}
	}
	eachRuled(108, func(row []bool, x table) {
		asked := []int{}
		for bit := range x.N {
			if !depends(x, bit) {
				asked = append(asked, bit)
			}
		}
		isList(t, "Idle of "+short(x), impl.Idle(row, x), asked...)
		both := slices.Sorted(slices.Values(append(impl.Needs(x), asked...)))
		want(t, "the bits that are needed and the idle ones", len(slices.Compact(both)), x.N)
	})
}

func TestMergedTables(t *testing.T) {
	for _, x := range []struct {
		row   string
		ones  string
		k     int
		asked string
	}{
		{"a", "01", 0, "0"}, {"a", "10", 0, "0"}, {"a", "11", 0, "1"}, {"a", "00", 0, "0"}, {"s", "01", 0, "1"}, {"s", "10", 0, "1"}, {"s", "00", 0, "0"}, {"s", "11", 0, "1"},
		{"as", "0110", 0, "00"}, {"as", "0110", 1, "11"}, {"sa", "0110", 0, "11"}, {"sa", "0110", 1, "00"},
		{"as", "0111", 0, "01"}, {"sa", "0111", 1, "01"}, {"as", "0010", 1, "01"}, {"sa", "0010", 0, "10"}, {"aa", "1101", 0, "01"}, {"aa", "1101", 1, "10"}, {"ss", "0001", 0, "01"}, {"ss", "0001", 1, "01"}, {"ss", "0100", 0, "01"}, {"ss", "0100", 1, "10"},
		// b0 b1 b2: the first, the middle one, the last
		{"aaa", "00010111", 0, "0001"}, {"aaa", "00010111", 1, "0001"}, {"aaa", "00010111", 2, "0001"}, {"sss", "00010111", 0, "0111"}, {"sss", "00010111", 1, "0111"}, {"sss", "00010111", 2, "0111"},
		{"aaa", "01110010", 0, "0010"}, {"aaa", "01110010", 1, "0100"}, {"aaa", "01110010", 2, "0100"}, {"sss", "01110010", 0, "0111"}, {"sss", "01110010", 1, "1110"}, {"sss", "01110010", 2, "1101"},
		{"ass", "01110010", 0, "0010"}, {"asa", "01110010", 1, "1110"}, {"sas", "01110010", 1, "0100"}, {"ssa", "01110010", 2, "0100"}, {"saa", "01110010", 0, "0111"}, {"aas", "01110010", 2, "1101"},
	} {
		n := len(x.row)
		merges(t, "as it stands", flags(x.row), tableOf(n, x.ones), x.k, tableOf(n-1, x.asked))
	}
}

func TestMergesAgainstModel(t *testing.T) {
	eachRuled(109, func(row []bool, x table) {
		for k := range x.N {
			if x.N > 9 && k%3 != 0 && k != x.N-1 {
				continue
			}
			merges(t, "the model", row, x, k, mergeModel(row, x, k))
			// of the others' flags there is none that counts
			others := otherRow(row)
			others[k] = row[k]
			merges(t, "the others turned", others, x, k, mergeModel(row, x, k))
		}
		for _, k := range append(farNumbers(), -3, x.N, x.N+1, 12, 13, 63, 64, 65) {
			if k < 0 || k >= x.N {
				hasNoMerge(t, "no such bit", row, x, k)
			}
		}
	})
}

func TestMergesOfTheFirstBit(t *testing.T) {
	eachRuled(110, func(row []bool, x table) {
		if x.N == 0 {
			return
		}
		low, _ := impl.Half(x, 0)
		high, _ := impl.Half(x, 1)
		both, _ := impl.TableAnd(low, high)
		either, _ := impl.TableAnd(impl.TableNot(low), impl.TableNot(high))
		if row[0] {
			merges(t, "both halves", row, x, 0, both)
		} else {
			merges(t, "one half at least", row, x, 0, impl.TableNot(either))
		}
	})
}

// The second part of promise 8.
func TestMergesThatLeaveTheVerdict(t *testing.T) {
	idle := 0
	eachRuled(111, func(row []bool, x table) {
		if x.N == 0 {
			return
		}
		v, _ := impl.Decide(row, x)
		taken := append(impl.Idle(row, x), x.N-1)
		for _, k := range taken {
			y, ok := impl.Merge(row, x, k)
			if !ok || y.N != x.N-1 || !impl.TableOk(y) {
				t.Fatalf("Merge of %s, %s, %d is %s, %v", showRow(row), short(x), k, short(y), ok)
			}
			decides(t, "without a bit", withoutFlag(row, k), y, v)
		}
		idle += one(len(taken) > 1 && len(taken) < x.N && x.N > 3)
		if len(slices.Compact(slices.Clone(row))) == 1 {
			for k := range x.N {
				y, _ := impl.Merge(row, x, k)
				decides(t, "a row of one kind without a bit", withoutFlag(row, k), y, v)
			}
		}
	})
	if idle < 15 {
		t.Errorf("%d tables with idle bits are too few", idle)
	}
	// another bit can change it
	x := tableOf(2, "0110")
	decides(t, "whole", flags("as"), x, 1)
	y, _ := impl.Merge(flags("as"), x, 0)
	decides(t, "without the first", flags("s"), y, 0)
}

// Bit by bit from the last on, what is left is the verdict.
func TestMergesOfAllBits(t *testing.T) {
	eachRuled(112, func(row []bool, x table) {
		asked := decided(row, x.Ones)
		for len(row) > 0 {
			y, ok := impl.Merge(row, x, x.N-1)
			if !ok {
				t.Fatalf("Merge of %s, %s is nothing", showRow(row), short(x))
			}
			row, x = row[:len(row)-1], y
		}
		if x != constantTable(0, asked) {
			t.Fatalf("what is left is %s, not %d", short(x), asked)
		}
	})
}

// The third part of promise 8, from no place with 1 to all of them.
func TestMoreOnesNeverLowerTheVerdict(t *testing.T) {
	d := dice(113)
	changes := 0
	for n := range impl.MaxBits + 1 {
		for range 12 {
			row := drawRow(&d, n)
			x := constantTable(n, 0)
			before := 0
			for strings.Contains(x.Ones, "0") {
				decides(t, "on the way", row, x, decided(row, x.Ones))
				signs := []byte(x.Ones)
				for range 1 + len(signs)/40 {
					signs[d.below(len(signs))] = '1'
				}
				if d.below(9) == 0 {
					signs[strings.IndexByte(x.Ones, '0')] = '1'
				}
				x = table{N: n, Ones: string(signs)}
				v, _ := impl.Decide(row, x)
				if v < before {
					t.Fatalf("Decide of %s, %s is %d", showRow(row), short(x), v)
				}
				changes += v - before
				before = v
			}
			want(t, "the verdict of ones alone", before, 1, n)
		}
	}
	want(t, "how many verdicts have come to 1", changes, 12*(impl.MaxBits+1))
	// a place more at a time, in each table of few bits
	for _, x := range smallTables() {
		for i := range power(x.N) {
			v, _ := impl.Decide(rowAt(x.N, i), x)
			for place := range x.Ones {
				y := table{N: x.N, Ones: x.Ones[:place] + "1" + x.Ones[place+1:]}
				if more, _ := impl.Decide(rowAt(x.N, i), y); more < v {
					t.Fatalf("Decide of %s, %s is %d, and of %s %d", showRow(rowAt(x.N, i)), short(x), v, short(y), more)
				}
			}
		}
	}
}

func TestVerdictsTurned(t *testing.T) {
	eachRuled(114, func(row []bool, x table) {
		v, _ := impl.Decide(row, x)
		other, y := impl.Turned(row), impl.TableNot(x)
		decides(t, "turned", other, y, 1-v)
		if x.N > 0 {
			b, _ := impl.Choose(row, x)
			chooses(t, "turned", other, y, b)
		}
		for k := range x.N {
			merged, _ := impl.Merge(row, x, k)
			merges(t, "turned", other, y, k, impl.TableNot(merged))
		}
	})
}

func TestNoBitsAtAll(t *testing.T) {
	for v := range 2 {
		x := constantTable(0, v)
		for _, row := range [][]bool{nil, {}, make([]bool, 0, 5), flags("asas")[:0]} {
			decides(t, "no bits", row, x, v)
			if b, ok := impl.Choose(row, x); ok || b != 0 {
				t.Errorf("Choose of no bits is %d, %v", b, ok)
			}
			isList(t, "Idle of no bits", impl.Idle(row, x))
			for _, k := range append(farNumbers(), 0, 1, 2) {
				hasNoMerge(t, "no bits", row, x, k)
			}
		}
		for _, row := range [][]bool{flags("a"), flags("s"), flags("as"), flags("ss")} {
			isNotDecided(t, "no bits, but flags", row, x)
		}
	}
	isRow(t, "Owner of nil", impl.Owner(nil, 0), nil)
	isRow(t, "Owner of nil", impl.Owner(nil, 1), nil)
	isRow(t, "Turned of nil", impl.Turned(nil), nil)
}

func TestRowsOfOtherLengths(t *testing.T) {
	d := dice(115)
	for n := range impl.MaxBits + 1 {
		for _, x := range []table{constantTable(n, 0), constantTable(n, 1), drawTable(&d, n)} {
			for count := range impl.MaxBits + 6 {
				if count == n {
					continue
				}
				for v := range 2 {
					isNotDecided(t, "so many flags", slices.Repeat([]bool{v == 1}, count), x)
				}
				isNotDecided(t, "so many flags", drawRow(&d, count), x)
				// spare room is no row
				isNotDecided(t, "so many flags", make([]bool, count, 30), x)
			}
			isRow(t, "Turned", impl.Turned(make([]bool, n)), slices.Repeat([]bool{true}, n))
			if n > 0 {
				isNotDecided(t, "no row", nil, x)
			}
		}
	}
}

// noTables are tables that are not right, each in its way.
func noTables() []table {
	list := []table{
		{}, tableOf(0, ""), tableOf(0, "2"), tableOf(0, "/"), tableOf(0, "01"), tableOf(1, ""), tableOf(1, "0"), tableOf(1, "011"), tableOf(1, "0a"), tableOf(1, "\u00e9"), tableOf(2, "011"), tableOf(2, "01101"), tableOf(2, "01 0"), tableOf(2, "0\x000\x01"),
		tableOf(2, "\u00e900"), tableOf(3, "0110"), tableOf(2, "01100110"), tableOf(3, "0110011:"), tableOf(-1, ""), tableOf(-1, "0"), tableOf(-1, "01"), tableOf(-64, "1"), tableOf(math.MinInt, "1"), tableOf(math.MaxInt, "1"), tableOf(64, "1"), tableOf(63, ""), tableOf(62, "01"),
		constantTable(impl.MaxBits+1, 0), constantTable(impl.MaxBits+1, 1), tableOf(impl.MaxBits+1, constantTable(12, 1).Ones), tableOf(impl.MaxBits, constantTable(11, 1).Ones), tableOf(impl.MaxBits, constantTable(12, 1).Ones+"1"),
	}
	for n := range impl.MaxBits + 1 {
		ones := constantTable(n, 1).Ones
		for _, sign := range []string{"2", "/", "\x00", "\x01", " ", "\xb1"} {
			list = append(list, tableOf(n, sign+ones[1:]), tableOf(n, ones[1:]+sign), tableOf(n, ones[:len(ones)/2]+sign+ones[len(ones)/2+1:]))
		}
		list = append(list, tableOf(n, ones[1:]), tableOf(n, ones+"1"))
	}
	return list
}

func TestVerdictsOfWhatIsNoTable(t *testing.T) {
	for _, x := range noTables() {
		for _, row := range [][]bool{nil, {}, flags("a"), flags("s"), flags("as"), flags("sas"), make([]bool, impl.MaxBits+1)} {
			isNotDecided(t, "no table", row, x)
		}
		if x.N > 0 && x.N < 70 {
			isNotDecided(t, "no table", make([]bool, x.N), x)
			isNotDecided(t, "no table", slices.Repeat([]bool{true}, x.N), x)
		}
	}
}

// spared is a row with spare room behind it, and all of that.
func spared(row []bool) ([]bool, []bool) {
	room := append(slices.Clone(row), true, false, true, true, false)
	return room[:len(row)], room
}

// rowsKeptApart calls f, which answers a row, and asks that nothing of row is
// written into, nor by what is done to the answer.
func rowsKeptApart(t *testing.T, name string, row []bool, f func(row []bool) []bool) {
	t.Helper()
	given, room := spared(row)
	before := slices.Clone(room)
	got := f(given)
	asked := slices.Clone(got)
	isRow(t, name+": the row and its spare room", room, before)
	got = got[:cap(got)]
	for i := range got {
		got[i] = !got[i]
	}
	isRow(t, name+": the row and its spare room", room, before)
	isRow(t, name+" a second time", f(given), asked)
}

func TestVerdictsWriteIntoNothing(t *testing.T) {
	keepsAll := func(row []bool, x table, k int) {
		for _, v := range []int{0, 1, 2, -1} {
			rowsKeptApart(t, "Owner", row, func(row []bool) []bool { return impl.Owner(row, v) })
		}
		rowsKeptApart(t, "Turned", row, impl.Turned)
		rowsKeptApart(t, "the others", row, func(row []bool) []bool {
			list := impl.Idle(row, x)
			asked := slices.Clone(list)
			clear(list[:cap(list)])
			isList(t, "Idle a second time", impl.Idle(row, x), asked...)
			v, decided := impl.Decide(row, x)
			b, chosen := impl.Choose(row, x)
			y, merged := impl.Merge(row, x, k)
			again, _ := impl.Merge(row, x, k)
			return []bool{v == 1, decided, b == 1, chosen, merged, y == again}
		})
	}
	d := dice(116)
	eachRuled(117, func(row []bool, x table) {
		keepsAll(row, x, d.below(x.N+2)-1)
		keepsAll(append(slices.Clone(row), true), x, 0)
		if x.N > 0 {
			keepsAll(row[1:], x, 0)
		}
	})
	for _, x := range noTables() {
		keepsAll(flags("as"), x, 0)
		keepsAll(make([]bool, impl.MaxBits), x, 3)
	}
	keepsAll(make([]bool, 1000), constantTable(impl.MaxBits, 1), 3)
}
