package tests

import (
	"fmt"
	"math"
	"slices"
	"strings"
	"testing"

	"loop.example/g00116/impl"
)

type pick = impl.Pick

const mostPicks = 5000

func showVals(vals []int) string {
	if len(vals) == 0 {
		return "-"
	}
	text := ""
	for _, b := range vals {
		text += fmt.Sprint(b)
	}
	return text
}

func showPicks(list []pick) string {
	texts := []string{}
	for _, p := range list[:min(len(list), 20)] {
		texts = append(texts, showVals(p.Vals)+" "+fmt.Sprint(p.Val))
	}
	return fmt.Sprint(len(list), " picks: ", strings.Join(texts, ", "))
}

// picks are told as VALS VAL, with one comma and a blank between two of them.
func picks(text string) []pick {
	list := []pick{}
	for _, part := range strings.Split(text, ", ") {
		vals, val, told := strings.Cut(part, " ")
		if !told {
			continue
		}
		list = append(list, pick{Vals: digits(strings.Trim(vals, "-")), Val: digits(val)[0]})
	}
	return list
}

func samePick(a, b pick) bool { return a.Val == b.Val && slices.Equal(a.Vals, b.Vals) }

func samePicks(a, b []pick) bool { return slices.EqualFunc(a, b, samePick) }

func clonedPicks(list []pick) []pick {
	out := []pick{}
	for _, p := range list {
		out = append(out, pick{Vals: slices.Clone(p.Vals), Val: p.Val})
	}
	return out
}

func owns(row []bool, bit, v int) bool { return row[bit] != (v == 1) }

// sameEverywhere is the value of a table that has but one, else -1.
func sameEverywhere(ones string) int {
	switch strings.Count(ones, "1") {
	case 0:
		return 0
	case len(ones):
		return 1
	}
	return -1
}

func halfOf(ones string, b int) string {
	half := len(ones) / 2
	return ones[b*half : (b+1)*half]
}

// winModel tells the strategy of who wants v, and can have it, from these values on.
func winModel(row []bool, ones string, v int, vals []int) []pick {
	if sameEverywhere(ones) >= 0 {
		return nil
	}
	bit := len(vals)
	with := func(b int) []pick {
		return winModel(row, halfOf(ones, b), v, append(slices.Clone(vals), b))
	}
	if !owns(row, bit, v) {
		return append(with(0), with(1)...)
	}
	b := one(decided(row[bit+1:], halfOf(ones, 0)) != v)
	return append([]pick{{Vals: slices.Clone(vals), Val: b}}, with(b)...)
}

func firstPick(list []pick, vals []int) int {
	return slices.IndexFunc(list, func(p pick) bool { return slices.Equal(p.Vals, vals) })
}

// checksModel is of what is left behind these values.
func checksModel(row []bool, ones string, v int, list []pick, vals []int) bool {
	if known := sameEverywhere(ones); known >= 0 {
		return known == v
	}
	with := func(b int) bool {
		return checksModel(row, halfOf(ones, b), v, list, append(slices.Clone(vals), b))
	}
	if !owns(row, len(vals), v) {
		return with(0) && with(1)
	}
	i := firstPick(list, vals)
	return i >= 0 && (list[i].Val == 0 || list[i].Val == 1) && with(list[i].Val)
}

// playModel is for a v that is a verdict; a bit that is given what is none has no value in any table.
func playModel(row []bool, x table, v int, list []pick, moves []int) int {
	vals := []int{}
	for bit := range row {
		b := 0
		if owns(row, bit, v) {
			if i := firstPick(list, vals); i >= 0 {
				b = list[i].Val
			}
		} else if len(moves) > 0 {
			b, moves = one(moves[0] != 0), moves[1:]
		}
		vals = append(vals, b)
	}
	if len(vals) > 0 && (slices.Min(vals) < 0 || slices.Max(vals) > 1) {
		return -1
	}
	return int(x.Ones[placeAt(vals)] - '0')
}

func bitsOfOthers(row []bool, v int) int {
	count := 0
	for bit := range row {
		count += one(!owns(row, bit, v))
	}
	return count
}

func wins(t *testing.T, name string, row []bool, x table, asked []pick, verdict int) []pick {
	t.Helper()
	list, v, ok := impl.Win(row, x)
	if !ok || v != verdict || !samePicks(list, asked) {
		t.Fatalf("%s: Win of %s, %s is %s; %d, %v, not %s; %d", name, showRow(row), short(x), showPicks(list), v, ok, showPicks(asked), verdict)
	}
	return list
}

func checks(t *testing.T, name string, row []bool, x table, v int, list []pick, asked bool) {
	t.Helper()
	if got := impl.Checks(row, x, v, list); got != asked {
		t.Fatalf("%s: Checks of %s, %s, %d, %s is %v", name, showRow(row), short(x), v, showPicks(list), got)
	}
}

func plays(t *testing.T, name string, row []bool, x table, v int, list []pick, moves []int, asked int) {
	t.Helper()
	if got := impl.Play(row, x, v, list, moves); got != asked {
		t.Fatalf("%s: Play of %s, %s, %d, %s, %v is %d, not %d", name, showRow(row), short(x), v, showPicks(list), moves[:min(len(moves), 30)], got, asked)
	}
}

// isNoGame is promise 16 for a row and a table that do not belong together.
func isNoGame(t *testing.T, name string, row []bool, x table) {
	t.Helper()
	if list, v, ok := impl.Win(row, x); ok || v != 0 || len(list) > 0 {
		t.Fatalf("%s: Win of %d flags, %s is %s; %d, %v, not nothing", name, len(row), short(x), showPicks(list), v, ok)
	}
	for _, list := range [][]pick{nil, picks("- 0, 0 0, 1 1"), picks("- 1, 1 1, 11 1")} {
		for _, v := range []int{0, 1, -1, 2} {
			checks(t, name, row, x, v, list, false)
			for _, moves := range [][]int{nil, {0}, {1, 1, 1}} {
				plays(t, name, row, x, v, list, moves, -1)
			}
		}
	}
}

func TestStrategies(t *testing.T) {
	for _, x := range []struct {
		row   string
		ones  string
		v     int
		asked string
	}{
		{"", "0", 0, ""}, {"", "1", 1, ""},
		{"a", "00", 0, ""}, {"a", "11", 1, ""}, {"s", "00", 0, ""}, {"s", "11", 1, ""},
		{"a", "01", 0, "- 0"}, {"a", "10", 0, "- 1"}, {"s", "01", 1, "- 1"}, {"s", "10", 1, "- 0"},
		// all of one who has none of the bits has nothing to pick
		{"aa", "1111", 1, ""}, {"ss", "0000", 0, ""},
		{"as", "0110", 1, "0 1, 1 0"}, {"as", "1001", 1, "0 0, 1 1"}, {"as", "0101", 1, "0 1, 1 1"}, {"sa", "0110", 0, "0 0, 1 1"}, {"sa", "1001", 0, "0 1, 1 0"},
		// one of the halves is known
		{"as", "1101", 1, "1 1"}, {"as", "0111", 1, "0 1"}, {"as", "0011", 0, "- 0"}, {"as", "1100", 0, "- 1"}, {"as", "1000", 0, "- 1"}, {"as", "0001", 0, "- 0"},
		{"sa", "0011", 1, "- 1"}, {"sa", "1101", 1, "- 0"}, {"sa", "0111", 1, "- 1"}, {"sa", "0100", 0, "0 0"}, {"sa", "0001", 0, "1 0"}, {"sa", "0010", 0, "1 1"},
		// both bits of one
		{"ss", "0001", 1, "- 1, 1 1"}, {"ss", "0010", 1, "- 1, 1 0"}, {"ss", "0110", 1, "- 0, 0 1"}, {"ss", "0011", 1, "- 1"}, {"ss", "1011", 1, "- 0, 0 0"},
		{"aa", "1110", 0, "- 1, 1 1"}, {"aa", "0111", 0, "- 0, 0 0"}, {"aa", "1100", 0, "- 1"}, {"aa", "1010", 0, "- 0, 0 1"},
		// the least of both, where each has the verdict
		{"sa", "1111", 1, ""}, {"sas", "01100110", 1, "- 0, 00 1, 01 0"}, {"asa", "01100110", 0, "- 0, 00 0, 01 1"}, {"sss", "00010001", 1, "- 0, 0 1, 01 1"},
		{"asa", "00111100", 1, "0 1, 1 0"}, {"asa", "11000011", 1, "0 0, 1 1"}, {"asa", "00110110", 0, "- 1, 10 0, 11 1"}, {"sas", "00001001", 1, "- 1, 10 0, 11 1"}, {"sas", "00100111", 1, "- 1, 10 1"},
		{"aas", "01101001", 1, "00 1, 01 0, 10 0, 11 1"}, {"aas", "01111101", 1, "00 1, 11 1"}, {"ass", "00010100", 1, "0 1, 01 1, 1 0, 10 1"}, {"ssa", "01101001", 0, "00 0, 01 1, 10 1, 11 0"}, {"saa", "01110001", 0, "0 0, 00 0, 1 0"}, {"saa", "01111110", 0, "0 0, 00 0, 1 1, 11 1"},
		{"asas", "0111011001101001", 1, "0 0, 000 1, 1 0, 100 1, 101 0"}, {"sasa", "1000100110010110", 0, "0 0, 000 1, 1 0, 100 1, 101 0"},
	} {
		row, y := flags(x.row), tableOf(len(x.row), x.ones)
		list := wins(t, "as it stands", row, y, picks(x.asked), x.v)
		checks(t, "as it stands", row, y, x.v, list, true)
		checks(t, "as it stands", row, y, 1-x.v, list, false)
	}
}

// winsWhateverTheOthersDo is promise 10 for the strategy of one row and table.
func winsWhateverTheOthersDo(t *testing.T, row []bool, x table) {
	t.Helper()
	v := decided(row, x.Ones)
	list := wins(t, "the model", row, x, winModel(row, x.Ones, v, nil), v)
	verdict, _ := impl.Decide(row, x)
	want(t, "Decide", verdict, v)
	checks(t, "its own verdict", row, x, v, list, true)
	checks(t, "the other verdict", row, x, 1-v, list, false)
	others := bitsOfOthers(row, v)
	step := max(1, power(others)/64-1)
	for number := 0; number < power(others); number += step {
		plays(t, "whatever they do", row, x, v, list, bitsAt(others, number), v)
	}
	plays(t, "no moves", row, x, v, list, nil, v)
	plays(t, "all of them", row, x, v, list, slices.Repeat([]int{1}, others+3), v)
}

func TestStrategiesOfVerdicts(t *testing.T) {
	counts := map[[2]int]int{}
	early := 0
	eachRuled(131, func(row []bool, x table) {
		winsWhateverTheOthersDo(t, row, x)
		list, v, _ := impl.Win(row, x)
		counts[[2]int{v, min(3, len(list))}]++
		early += one(v == 1 && x.N > 3 && len(list) > 0 && len(list) < 10)
	})
	for v := range 2 {
		for count := range 4 {
			if counts[[2]int{v, count}] < 30 {
				t.Errorf("%d strategies of %d picks for %d are too few", counts[[2]int{v, count}], count, v)
			}
		}
	}
	if early < 15 {
		t.Errorf("%d strategies that are known early are too few", early)
	}
}

// Every row of moves, in the tables of at most six bits.
func TestEveryRowOfMoves(t *testing.T) {
	d := dice(132)
	for n := range 7 {
		for range 40 {
			row, x := drawRow(&d, n), evenTable(&d, n)
			list, v, _ := impl.Win(row, x)
			others := bitsOfOthers(row, v)
			for number := range power(others) {
				plays(t, "every row of moves", row, x, v, list, bitsAt(others, number), v)
			}
		}
	}
}

func TestStrategiesOfSentences(t *testing.T) {
	d := dice(133)
	eachWorth(t, &d, func(row []bool, x table, v int) {
		list := wins(t, "drawn", row, x, winModel(row, x.Ones, v, nil), v)
		checks(t, "what a sentence is worth", row, x, v, list, true)
		checks(t, "what it is not worth", row, x, 1-v, list, false)
	})
}

// everyStrategy are all lists that say one value at each values that an owned bit can have ahead of it.
func everyStrategy(row []bool, v int) [][]pick {
	lists := [][]pick{nil}
	for bit := range row {
		if !owns(row, bit, v) {
			continue
		}
		for place := range power(bit) {
			more := [][]pick{}
			for _, list := range lists {
				for b := range 2 {
					more = append(more, append(slices.Clone(list), pick{Vals: bitsAt(bit, place), Val: b}))
				}
			}
			lists = more
		}
	}
	return lists
}

// The last part of promise 10: there is a list that checks for a verdict just when it is the one of Decide.
func TestWhatChecksIsOfThatVerdict(t *testing.T) {
	d := dice(134)
	for _, x := range smallTables() {
		for i := range power(x.N) {
			row := rowAt(x.N, i)
			verdict, _ := impl.Decide(row, x)
			for v := range 2 {
				found := false
				for _, list := range everyStrategy(row, v) {
					asked := checksModel(row, x.Ones, v, list, nil)
					checks(t, "every strategy", row, x, v, list, asked)
					if asked && impl.Play(row, x, v, list, []int{d.below(2), d.below(2), d.below(2)}) != v {
						t.Fatalf("%s checks for %d below %s, %s, and is lost", showPicks(list), v, showRow(row), short(x))
					}
					found = found || asked
				}
				if found != (v == verdict) {
					t.Fatalf("there is a strategy for %d below %s, %s: %v", v, showRow(row), short(x), found)
				}
			}
		}
	}
}

// otherVals are values of which some come about, some are too many and some are no bits.
func otherVals(d *dice, n int) []int {
	vals := []int{}
	for range d.below(n + 2) {
		vals = append(vals, d.below(2))
	}
	if len(vals) > 0 && d.below(6) == 0 {
		vals[d.below(len(vals))] = []int{2, -1, 3, 256, 257, 1 << 32, math.MinInt}[d.below(7)]
	}
	return vals
}

func drawVal(d *dice) int {
	if d.below(9) == 0 {
		return []int{2, -1, 3, 256, 257, math.MaxInt, 48, 49}[d.below(8)]
	}
	return d.below(2)
}

// wornList is list with one thing done to it that can spoil it, or not.
func wornList(d *dice, list []pick, n int) []pick {
	list = clonedPicks(list)
	other := pick{Vals: otherVals(d, n), Val: drawVal(d)}
	if len(list) > 0 && d.below(2) == 0 {
		other.Vals = slices.Clone(list[d.below(len(list))].Vals)
	}
	switch d.below(7) {
	case 0:
		return slices.Insert(list, 0, other)
	case 1:
		return append(list, other)
	case 2:
		return slices.Insert(list, d.below(len(list)+1), other)
	}
	if len(list) == 0 {
		return list
	}
	i, j := d.below(len(list)), d.below(len(list))
	switch d.below(5) {
	case 0:
		return slices.Delete(list, i, i+1)
	case 1:
		list[i].Val = drawVal(d)
	case 2:
		list[i].Vals = otherVals(d, n)
	case 3:
		list[i], list[j] = list[j], list[i]
	case 4:
		slices.Reverse(list)
	}
	return list
}

func TestWornStrategies(t *testing.T) {
	d := dice(135)
	counts := map[[3]int]int{}
	for range 20000 {
		n := d.below(6)
		row, x := drawRow(&d, n), evenTable(&d, n)
		verdict := decided(row, x.Ones)
		list := winModel(row, x.Ones, verdict, nil)
		for range 1 + d.below(3) {
			list = wornList(&d, list, n)
		}
		v := verdict
		if d.below(4) == 0 {
			v = 1 - verdict
		}
		asked := checksModel(row, x.Ones, v, list, nil)
		checks(t, "worn", row, x, v, list, asked)
		if asked && v != verdict {
			t.Fatalf("%s checks for %d below %s, %s", showPicks(list), v, showRow(row), short(x))
		}
		moves := []int{}
		for range d.below(n + 3) {
			moves = append(moves, []int{0, 1, 0, 1, 2, -1, 256, math.MinInt}[d.below(8)])
		}
		played := playModel(row, x, v, list, moves)
		plays(t, "worn", row, x, v, list, moves, played)
		if asked && n > 0 && played != v && played != -1 {
			t.Fatalf("%s checks for %d below %s, %s, and is lost", showPicks(list), v, showRow(row), short(x))
		}
		counts[[3]int{v, one(asked), played}]++
	}
	for v := range 2 {
		for _, kind := range [][2]int{{0, 0}, {0, 1}, {1, v}, {0, -1}} {
			if counts[[3]int{v, kind[0], kind[1]}] < 100 {
				t.Errorf("%v lists for %d are too few (%v)", kind, v, counts)
			}
		}
	}
}

func TestListsThatCheckOrNot(t *testing.T) {
	for _, x := range []struct {
		name  string
		row   string
		ones  string
		v     int
		list  string
		asked bool
	}{
		{"no bits", "", "1", 1, "", true}, {"no bits", "", "1", 0, "", false}, {"no bits", "", "0", 0, "", true}, {"no bits", "", "0", 1, "", false}, {"no bits, a pick", "", "1", 1, "- 0", true}, {"no bits, a pick", "", "1", 0, "- 0", false},
		{"known at once", "as", "1111", 1, "", true}, {"known at once", "as", "1111", 0, "", false}, {"known at once", "sa", "0000", 0, "", true}, {"known at once", "sa", "0000", 1, "", false}, {"known at once, wrong picks", "as", "1111", 1, "- 2, 0 7", true},
		{"one of its own", "s", "01", 1, "- 1", true}, {"the wrong one", "s", "01", 1, "- 0", false}, {"none", "s", "01", 1, "", false}, {"one of the others", "a", "01", 1, "", false}, {"one of the others", "s", "01", 0, "", false}, {"one of its own", "a", "01", 0, "- 0", true}, {"the wrong one", "a", "01", 0, "- 1", false},
		{"whole", "as", "0110", 1, "0 1, 1 0", true}, {"another order", "as", "0110", 1, "1 0, 0 1", true}, {"one less", "as", "0110", 1, "0 1", false}, {"one less", "as", "0110", 1, "1 0", false}, {"one wrong", "as", "0110", 1, "0 1, 1 1", false}, {"one wrong", "as", "0110", 1, "0 0, 1 0", false},
		{"not the least, but right", "ss", "0111", 1, "- 1, 1 0", true}, {"the least, one less", "ss", "0111", 1, "- 0", false}, {"not the least, but known", "ss", "0111", 1, "- 1", true}, {"not the least, but known", "ss", "0011", 1, "- 1", true},
		// the first of two
		{"the first counts", "s", "01", 1, "- 1, - 0", true}, {"the first counts", "s", "01", 1, "- 0, - 1", false}, {"the first counts", "as", "0110", 1, "0 1, 1 0, 0 0, 1 1", true}, {"the first counts", "as", "0110", 1, "0 1, 1 1, 1 0", false}, {"the first counts, no bit", "s", "01", 1, "- 2, - 1", false}, {"the second, no bit", "s", "01", 1, "- 1, - 2", true},
		// picks that no walk comes to
		{"what is not come to", "as", "0110", 1, "- 0, 0 1, 1 0, 01 1, 111 0, 0000000000000 1", true}, {"what is not come to", "ss", "0111", 1, "- 0, 0 1, 1 0, 10 0", true}, {"no bit where it is not come to", "ss", "0111", 1, "1 2, - 0, 0 1, 11 5", true}, {"no bit where it is come to", "ss", "0111", 1, "- 0, 0 2", false}, {"no bit where it is come to", "ss", "0111", 1, "- 3, 0 1, 1 1", false},
		// Vals that are told by the same number, or begin alike
		{"as many noughts", "as", "0110", 1, "00 1, 1 0", false}, {"as many noughts", "as", "0110", 1, "- 1, 1 0", false}, {"a nought ahead", "as", "0110", 1, "0 1, 01 0", false}, {"Vals that are no bits", "as", "0110", 1, "2 1, 1 0", false}, {"Vals that are no bits", "as", "0110", 1, "2 0, 3 1, 0 1, 1 0", true},
	} {
		checks(t, x.name, flags(x.row), tableOf(len(x.row), x.ones), x.v, picks(x.list), x.asked)
		if got := checksModel(flags(x.row), x.ones, x.v, picks(x.list), nil); got != x.asked {
			t.Fatalf("%s: the model says %v", x.name, got)
		}
	}
	// any number of a Val that is no bit, where it is come to and where it is not
	for _, b := range append(farNumbers(), 2, 3, 48, 49) {
		row, x := flags("ss"), tableOf(2, "0111")
		checks(t, "no bit", row, x, 1, []pick{{Val: 0}, {Vals: []int{0}, Val: b}}, false)
		checks(t, "no bit", row, x, 1, []pick{{Val: b}, {Vals: []int{0}, Val: 1}, {Vals: []int{1}, Val: 1}}, false)
		checks(t, "no bit, not come to", row, x, 1, []pick{{Val: 0}, {Vals: []int{0}, Val: 1}, {Vals: []int{1}, Val: b}}, true)
		checks(t, "no bit in Vals", row, x, 1, []pick{{Val: 0}, {Vals: []int{b}, Val: 1}}, false)
		checks(t, "no bit in Vals", row, x, 1, []pick{{Vals: []int{b}, Val: 0}, {Vals: []int{b, b}}, {Val: 0}, {Vals: []int{0}, Val: 1}}, true)
		// a value that is no bit leads on to no pick
		checks(t, "no bit leads on", row, x, 1, []pick{{Val: b}, {Vals: []int{b}, Val: 1}}, false)
		plays(t, "no bit", row, x, 1, []pick{{Val: b}, {Vals: []int{b}, Val: 1}}, nil, -1)
		plays(t, "no bit", row, x, 1, []pick{{Val: 1}, {Vals: []int{1}, Val: b}}, nil, -1)
		plays(t, "no bit, not come to", row, x, 1, []pick{{Val: 1}, {Vals: []int{0}, Val: b}}, nil, 1)
		plays(t, "no bit in Vals", row, x, 1, []pick{{Val: 1}, {Vals: []int{b}, Val: b}}, nil, 1)
		plays(t, "the first of two", row, x, 1, []pick{{Val: 0}, {Val: b}, {Vals: []int{0}, Val: 1}, {Vals: []int{0}, Val: b}}, nil, 1)
	}
}

func TestPlays(t *testing.T) {
	for _, x := range []struct {
		name  string
		row   string
		ones  string
		v     int
		list  string
		moves string
		asked int
	}{
		{"no bits", "", "1", 1, "", "", 1}, {"no bits", "", "1", 0, "", "", 1}, {"no bits", "", "0", 1, "- 1", "11", 0},
		{"its own", "s", "01", 1, "- 1", "", 1}, {"its own", "s", "01", 1, "- 0", "1", 0}, {"none is 0", "s", "01", 1, "", "1", 0}, {"none is 0", "s", "10", 1, "", "1", 1},
		{"of the others", "s", "01", 0, "- 0", "1", 1}, {"of the others", "s", "01", 0, "- 1", "0", 0}, {"no moves", "s", "01", 0, "- 1", "", 0}, {"of the others", "a", "01", 1, "- 0", "1", 1}, {"its own", "a", "01", 0, "- 1", "0", 1},
		{"both", "as", "0110", 1, "0 1, 1 0", "0", 1}, {"both", "as", "0110", 1, "0 1, 1 0", "1", 1}, {"both", "as", "0110", 1, "0 0, 1 1", "1", 0}, {"both", "as", "0110", 1, "0 1", "1", 1}, {"both", "as", "0110", 1, "1 0", "0", 0},
		{"the other's", "as", "0110", 0, "- 1", "1", 0}, {"the other's", "as", "0110", 0, "- 1", "0", 1}, {"the other's", "as", "0110", 0, "- 0", "1", 1}, {"too many moves", "as", "0110", 0, "- 1", "1010", 0}, {"too few moves", "as", "0010", 0, "- 1", "", 1},
		// moves are taken by the others' bits alone, in their order
		{"in order", "asa", "00000100", 1, "1 0", "11", 1}, {"in order", "asa", "00000100", 1, "1 0", "10", 0}, {"in order", "asa", "00000100", 1, "1 0", "01", 0}, {"in order", "asa", "00010000", 1, "0 1", "01", 1}, {"in order", "asa", "00010000", 1, "0 1", "011", 1}, {"in order", "asa", "00001000", 1, "", "1", 1},
		{"two of its own", "sas", "00000010", 1, "- 1, 11 0", "1", 1}, {"two of its own", "sas", "00000001", 1, "- 1, 11 1, 10 1", "2", 1}, {"two of its own", "sas", "00000100", 1, "- 1, 11 0, 10 1", "", 1},
		// not 0 is 1
		{"a move that is no bit", "a", "01", 1, "", "2", 1}, {"a move that is no bit", "a", "01", 1, "", "9", 1}, {"moves that are no bits", "aa", "0001", 1, "", "35", 1}, {"moves that are no bits", "aa", "0010", 1, "", "30", 1},
		// the first of two
		{"the first counts", "s", "01", 1, "- 1, - 0", "", 1}, {"the first counts", "s", "01", 1, "- 0, - 1", "", 0}, {"the first counts", "ss", "0010", 1, "- 1, 1 0, 1 1, - 0", "", 1}, {"the first counts, no bit", "s", "01", 1, "- 2, - 1", "", -1}, {"the second, no bit", "s", "01", 1, "- 1, - 2", "", 1},
		{"what is not come to", "as", "0110", 1, "- 1, 00 1, 01 1, 1 2, 0 1, 0000000000000 1", "", 1}, {"Vals that are no bits", "as", "0110", 1, "2 0, 3 0, 0 1", "", 1}, {"no bit where it is come to", "as", "0110", 1, "0 2", "", -1}, {"no bit where it is come to", "as", "0110", 1, "1 2, 0 1", "1", -1},
		// picks go on where the table is known already
		{"known early", "ss", "0011", 1, "- 1", "", 1}, {"known early", "ss", "0011", 1, "- 1, 1 1", "", 1}, {"known early", "ss", "0011", 1, "- 1, 1 2", "", -1}, {"known at once", "ss", "1111", 0, "", "11", 1},
	} {
		row, y := flags(x.row), tableOf(len(x.row), x.ones)
		plays(t, x.name, row, y, x.v, picks(x.list), digits(x.moves), x.asked)
		want(t, x.name+": the model", playModel(row, y, x.v, picks(x.list), digits(x.moves)), x.asked)
	}
	for _, b := range append(farNumbers(), 2, 3, 48, 49) {
		plays(t, "a move that is no bit", flags("as"), tableOf(2, "0010"), 1, picks("0 1, 1 0"), []int{b}, 1)
		plays(t, "moves that are no bits", flags("aa"), tableOf(2, "0001"), 1, nil, []int{b, b, b}, 1)
		plays(t, "moves behind the last", flags("as"), tableOf(2, "1000"), 1, nil, []int{0, b, b}, 1)
	}
}

// What comes about is the place that the moves tell, where nobody else has a bit, and the one of the picks where all are owned.
func TestPlaysToEachPlace(t *testing.T) {
	for n := range impl.MaxBits + 1 {
		for place := range power(n) {
			if n > 6 && place%7 != 0 && place != power(n)-1 {
				continue
			}
			bits := bitsAt(n, place)
			list := []pick{}
			for i := range bits {
				list = append(list, pick{Vals: bits[:i], Val: bits[i]})
			}
			for v := range 2 {
				signs := []byte(constantTable(n, 1-v).Ones)
				signs[place] = '0' + byte(v)
				x := table{N: n, Ones: string(signs)}
				others, own := slices.Repeat([]bool{v == 1}, n), slices.Repeat([]bool{v == 0}, n)
				plays(t, "moves alone", others, x, v, nil, bits, v)
				plays(t, "picks alone", own, x, v, list, nil, v)
				checks(t, "picks alone", own, x, v, list, true)
				if n > 0 {
					checks(t, "one pick less", own, x, v, list[1:], false)
					checks(t, "one pick less", own, x, v, list[:n-1], false)
					checks(t, "nobody's", others, x, v, list, false)
					want(t, "how many picks there are", len(wins(t, "one place", own, x, list, v)), n)
				}
			}
		}
	}
}

func oddTable(n int) table {
	return tableBy(n, func(bits []int) bool { return strings.Count(fmt.Sprint(bits), "1")%2 == 1 })
}

func TestStrategiesOfMostBits(t *testing.T) {
	d := dice(136)
	odd := oddTable(impl.MaxBits)
	for _, x := range []struct {
		row string
		v   int
		// how many picks there are: one for each row of the others' bits ahead of each owned one
		picks int
	}{
		{"aaaaaaaaaaas", 1, power(11)}, {"aaaaaaaaaass", 1, 2 * power(10)}, {"asasasasasas", 1, 2 + 4 + 8 + 16 + 32 + 64}, {"ssssssssssss", 1, 12}, {"sssssaaaaaas", 1, 5 + 64},
		{"sssssssssssa", 0, power(11)}, {"ssssssssssaa", 0, 2 * power(10)}, {"sasasasasasa", 0, 2 + 4 + 8 + 16 + 32 + 64}, {"aaaaaaaaaaaa", 0, 12}, {"aaaaassssssa", 0, 5 + 64},
	} {
		row := flags(x.row)
		list := wins(t, "odd", row, odd, winModel(row, odd.Ones, x.v, nil), x.v)
		want(t, "how many picks "+x.row+" has", len(list), x.picks)
		checks(t, "odd", row, odd, x.v, list, true)
		checks(t, "odd", row, odd, 1-x.v, list, false)
		// the last bit settles it, so each pick is needed
		for range 5 {
			i := d.below(len(list))
			checks(t, "one pick less", row, odd, x.v, slices.Delete(clonedPicks(list), i, i+1), false)
			other := clonedPicks(list)
			last := len(list) - 1
			other[last].Val = 1 - other[last].Val
			checks(t, "another pick", row, odd, x.v, other, false)
		}
		others := bitsOfOthers(row, x.v)
		for range 40 {
			plays(t, "odd", row, odd, x.v, list, bitsAt(others, d.below(power(others))), x.v)
		}
		for _, p := range list {
			if len(p.Vals) >= impl.MaxBits {
				t.Fatalf("a pick with all bits: %s", showPicks([]pick{p}))
			}
		}
	}
	for v := range 2 {
		for _, text := range []string{"a", "s", "as"} {
			row := flags(strings.Repeat(text, impl.MaxBits)[:impl.MaxBits])
			x := constantTable(impl.MaxBits, v)
			wins(t, "known at once", row, x, nil, v)
			checks(t, "known at once", row, x, v, nil, true)
			checks(t, "known at once", row, x, 1-v, nil, false)
		}
	}
}

func TestBoundOfPicks(t *testing.T) {
	for _, x := range []struct {
		row  string
		ones string
		list string
	}{{"", "1", ""}, {"as", "1111", ""}, {"as", "0110", "0 1, 1 0"}, {"ss", "0001", "- 1, 1 1"}} {
		row, y := flags(x.row), tableOf(len(x.row), x.ones)
		idle := func(count int, p pick) []pick {
			list := picks(x.list)
			return append(slices.Repeat([]pick{p}, count-len(list)), list...)
		}
		for _, p := range []pick{{Vals: digits("00000"), Val: 1}, {Vals: digits("27"), Val: 5}, {Vals: slices.Repeat([]int{1}, 70)}} {
			for _, count := range []int{mostPicks - 1, mostPicks} {
				checks(t, "so many picks", row, y, 1, idle(count, p), true)
			}
			for _, count := range []int{mostPicks + 1, mostPicks + 2, 10 * mostPicks} {
				checks(t, "too many picks", row, y, 1, idle(count, p), false)
			}
			// Play has no such bound
			for _, count := range []int{mostPicks, mostPicks + 1, 10 * mostPicks} {
				plays(t, "so many picks", row, y, 1, idle(count, p), nil, 1)
			}
			// the right ones first, and others behind
			list := append(picks(x.list), slices.Repeat([]pick{p}, mostPicks)...)
			checks(t, "the first of them", row, y, 1, list[:mostPicks], true)
			checks(t, "one more", row, y, 1, append(list[:mostPicks], p), false)
		}
	}
	// what is the same five thousand times is no more than what it is once
	checks(t, "one of them", flags("s"), tableOf(1, "01"), 1, slices.Repeat(picks("- 1"), mostPicks), true)
	checks(t, "one more", flags("s"), tableOf(1, "01"), 1, slices.Repeat(picks("- 1"), mostPicks+1), false)
	// a greater list, of a greater table, all in use
	row, x := flags("aaaaaaaaaaas"), oddTable(impl.MaxBits)
	list, _, _ := impl.Win(row, x)
	full := append(clonedPicks(list), slices.Repeat(picks("11 1"), mostPicks-len(list))...)
	checks(t, "all in use", row, x, 1, full, true)
	slices.Reverse(full)
	checks(t, "all in use", row, x, 1, full, true)
	checks(t, "one more", row, x, 1, append(full, pick{}), false)
}

func TestOtherVerdicts(t *testing.T) {
	eachRuled(137, func(row []bool, x table) {
		if x.N > 8 {
			return
		}
		list, verdict, _ := impl.Win(row, x)
		checks(t, "the verdict", row, x, verdict, list, true)
		for _, v := range append(farNumbers(), 2, 3, 48, 49) {
			checks(t, "no verdict", row, x, v, list, false)
			checks(t, "no verdict", row, x, v, nil, false)
			plays(t, "no verdict", row, x, v, list, nil, -1)
			plays(t, "no verdict", row, x, v, nil, []int{1, 1, 1}, -1)
		}
	})
}

func TestWhatIsNoGame(t *testing.T) {
	d := dice(138)
	for n := range impl.MaxBits + 1 {
		for _, x := range []table{constantTable(n, 0), constantTable(n, 1), drawTable(&d, n)} {
			for _, count := range []int{n - 1, n + 1, n + 2, 0, 30} {
				if count >= 0 && count != n {
					isNoGame(t, "so many flags", slices.Repeat([]bool{true}, count), x)
					isNoGame(t, "so many flags", make([]bool, count, 60), x)
				}
			}
			if n > 0 {
				isNoGame(t, "no row", nil, x)
			}
		}
	}
	for _, x := range noTables() {
		for _, row := range [][]bool{nil, {}, flags("a"), flags("s"), flags("as"), flags("sas"), make([]bool, impl.MaxBits), make([]bool, impl.MaxBits+1)} {
			isNoGame(t, "no table", row, x)
		}
		if x.N > 0 && x.N < 70 {
			isNoGame(t, "no table", make([]bool, x.N), x)
			isNoGame(t, "no table", slices.Repeat([]bool{true}, x.N), x)
		}
	}
}

func pickTextIs(t *testing.T, p pick, asked string) {
	t.Helper()
	if got := impl.PickText(p); got != asked {
		t.Fatalf("PickText of %v, %d is %q, not %q", p.Vals, p.Val, got, asked)
	}
}

func readsPick(t *testing.T, text string, asked pick) {
	t.Helper()
	if p, ok := impl.ReadPick(text); !ok || !samePick(p, asked) {
		t.Fatalf("ReadPick of %q is %v, %v, not %v", text, p, ok, asked)
	}
}

func readsNoPick(t *testing.T, text string) {
	t.Helper()
	if p, ok := impl.ReadPick(text); ok || len(p.Vals) > 0 || p.Val != 0 {
		t.Fatalf("ReadPick of %q is %v, %v, not nothing", text[:min(len(text), 100)], p, ok)
	}
}

func TestPicksAsTexts(t *testing.T) {
	pickTextIs(t, pick{}, "- 0")
	pickTextIs(t, pick{Vals: []int{}, Val: 1}, "- 1")
	pickTextIs(t, pick{Vals: []int{0}, Val: 1}, "0 1")
	pickTextIs(t, pick{Vals: []int{1}}, "1 0")
	pickTextIs(t, pick{Vals: []int{0, 0, 1}, Val: 1}, "001 1")
	pickTextIs(t, pick{Vals: []int{1, 0}}, "10 0")
	pickTextIs(t, pick{Vals: digits("011010011001"), Val: 1}, "011010011001 1")
	for n := range impl.MaxBits + 1 {
		for place := range power(n) {
			for val := range 2 {
				p := pick{Vals: bitsAt(n, place), Val: val}
				text := showVals(p.Vals) + " " + fmt.Sprint(val)
				pickTextIs(t, p, text)
				readsPick(t, text, p)
				if got, _ := impl.ReadPick(impl.PickText(p)); impl.PickText(got) != text {
					t.Fatalf("%q comes back as %v", text, got)
				}
			}
		}
	}
}

func TestPicksWithoutText(t *testing.T) {
	for _, b := range append(farNumbers(), 2, 3, 9, 10, 48, 49, 256-48) {
		pickTextIs(t, pick{Val: b}, "")
		pickTextIs(t, pick{Vals: []int{1, 0}, Val: b}, "")
		for n := 1; n <= impl.MaxBits; n++ {
			for i := range n {
				vals := make([]int, n)
				vals[i] = b
				pickTextIs(t, pick{Vals: vals, Val: i % 2}, "")
			}
		}
	}
	for _, n := range []int{impl.MaxBits + 1, impl.MaxBits + 2, 63, 64, 65, 128, 100000} {
		pickTextIs(t, pick{Vals: make([]int, n)}, "")
		pickTextIs(t, pick{Vals: slices.Repeat([]int{1}, n), Val: 1}, "")
	}
}

func TestTextsThatAreNoPick(t *testing.T) {
	for _, text := range []string{
		"", " ", "  ", "-", "0", "1", "01", "- ", " 1", "0 ", "-1", "01", "-0", "--", "0-", "- -", "0 -", "1 -1", "0 -0", " - 1", "- 1 ", "-  1", "0  1", " 0 1", "0 1 ", "0 1 1", "0 1 0 1", "- 1 1", "- - 1", "0 - 1", "- 0 1",
		"-0 1", "0- 1", "-- 1", "0-1 1", "-1 1", "1-", "+ 1", "+1 1", "0 +1", "0 2", "- 2", "2 1", "02 1", "20 1", "9 0", "0 9", "/ 0", "0 /", ": 1", "0 :", "a 1", "0 a", "0 10", "0 01", "0 11", "- 00", "- 01", "- 11", "0 1-", "0\t1", "0\n1", "0 1\n", "\n0 1", "0 1\x00", "\x000 1", "\x00 \x01", "0\x00 1", "0,1 1", "0:1", "0.1 1",
		"\u0660 1", "\u00b9 1", "1 \u00b9", "\u2013 1", "0\u00a01", "\xb0 \xb1", "\xff 1", "0 \xff", "0 \xb1", "\xb1 0", "o 1", "l 0", "0 true", "none 1",
		strings.Repeat("0", impl.MaxBits+1) + " 1", strings.Repeat("1", impl.MaxBits+1) + " 0", strings.Repeat("01", 40) + " 1", strings.Repeat("1", 64) + " 0", strings.Repeat("0", 100000) + " 1", "0 " + strings.Repeat("1", 100000), strings.Repeat(" ", 100000), "- " + strings.Repeat("0", impl.MaxBits) + "1",
	} {
		readsNoPick(t, text)
	}
	// one sign for another, one less and one more, in each place
	for _, text := range []string{"- 0", "- 1", "0 1", "10 0", "0101 1", "000000000000 0", "111111111111 1"} {
		for at := range len(text) + 1 {
			for sign := range 256 {
				if at < len(text) {
					readsAsItIs(t, text[:at]+string([]byte{byte(sign)})+text[at+1:])
				}
				readsAsItIs(t, text[:at]+string([]byte{byte(sign)})+text[at:])
			}
			if at < len(text) {
				readsAsItIs(t, text[:at]+text[at+1:])
			}
		}
	}
}

// readsAsItIs asks the form of a text sign by sign.
func readsAsItIs(t *testing.T, text string) {
	t.Helper()
	if len(text) < 3 || text[len(text)-2] != ' ' || !strings.Contains("01", text[len(text)-1:]) {
		readsNoPick(t, text)
		return
	}
	vals := text[:len(text)-2]
	p := pick{Val: int(text[len(text)-1] - '0')}
	if vals != "-" {
		if len(vals) > impl.MaxBits || strings.Trim(vals, "01") != "" {
			readsNoPick(t, text)
			return
		}
		p.Vals = digits(vals)
	}
	readsPick(t, text, p)
}

func TestWinningOfStrategiesAsTexts(t *testing.T) {
	eachRuled(139, func(row []bool, x table) {
		list, v, _ := impl.Win(row, x)
		back := []pick{}
		for _, p := range list {
			q, ok := impl.ReadPick(impl.PickText(p))
			if !ok {
				t.Fatalf("%s does not come back", showPicks([]pick{p}))
			}
			back = append(back, q)
		}
		if !samePicks(list, back) || !impl.Checks(row, x, v, back) {
			t.Fatalf("%s comes back as %s", showPicks(list), showPicks(back))
		}
	})
}

// sparedPicks is a list with spare room behind it and behind the Vals of each
// pick, and a test that nothing there has changed.
func sparedPicks(list []pick) ([]pick, func() bool) {
	room := []pick{}
	rooms := [][]int{}
	for _, p := range list {
		vals := append(slices.Clone(p.Vals), 7, 8, 9)
		rooms = append(rooms, vals)
		room = append(room, pick{Vals: vals[:len(p.Vals)], Val: p.Val})
	}
	spare := []int{4, 5}
	room = append(room, pick{Vals: spare, Val: 6}, pick{Val: 3})
	was := clonedPicks(room)
	roomsWere := [][]int{}
	for _, vals := range rooms {
		roomsWere = append(roomsWere, slices.Clone(vals))
	}
	return room[:len(list)], func() bool {
		return samePicks(room, was) && slices.EqualFunc(rooms, roomsWere, slices.Equal)
	}
}

// picksKeptApart asks that no two picks of a list share memory, and answers what it was; then it writes all over it.
func picksKeptApart(t *testing.T, name string, list []pick) []pick {
	t.Helper()
	asked := clonedPicks(list)
	for i := range list {
		vals := list[i].Vals[:cap(list[i].Vals)]
		for j := range vals {
			vals[j] += 100 + i
		}
	}
	for i, p := range list {
		for j, b := range p.Vals {
			if b != asked[i].Vals[j]+100+i {
				t.Fatalf("%s: pick %d of %s shares memory", name, i, showPicks(asked))
			}
		}
	}
	for i := range list[:cap(list)] {
		list[:cap(list)][i] = pick{Val: 100}
	}
	return asked
}

func keepsGames(t *testing.T, row []bool, x table, v int, list []pick, moves []int) {
	t.Helper()
	given, room := spared(row)
	rowWas := slices.Clone(room)
	told, kept := sparedPicks(list)
	movesRoom := append(slices.Clone(moves), 7, 8, 9)
	movesWere := slices.Clone(movesRoom)
	checked := impl.Checks(given, x, v, told)
	played := impl.Play(given, x, v, told, movesRoom[:len(moves)])
	won, verdict, ok := impl.Win(given, x)
	asked := picksKeptApart(t, "Win of "+showRow(row)+" "+short(x), won)
	if !slices.Equal(room, rowWas) || !kept() || !slices.Equal(movesRoom, movesWere) {
		t.Fatalf("%s, %s, %d, %s, %v is written into", showRow(row), short(x), v, showPicks(list), moves)
	}
	again, sameVerdict, sameOk := impl.Win(given, x)
	if !samePicks(again, asked) || sameVerdict != verdict || sameOk != ok {
		t.Fatalf("Win of %s, %s a second time is %s", showRow(row), short(x), showPicks(again))
	}
	checks(t, "a second time", given, x, v, told, checked)
	plays(t, "a second time", given, x, v, told, moves, played)
}

func TestGamesWriteIntoNothing(t *testing.T) {
	d := dice(140)
	eachRuled(141, func(row []bool, x table) {
		list, v, _ := impl.Win(row, x)
		moves := otherVals(&d, x.N)
		keepsGames(t, row, x, v, list, moves)
		keepsGames(t, row, x, 1-v, wornList(&d, list, x.N), moves)
		keepsGames(t, row, x, 2-3*v, list, moves)
		keepsGames(t, append(slices.Clone(row), true), x, v, list, moves)
	})
	for _, x := range noTables() {
		keepsGames(t, flags("as"), x, 1, picks("- 1, 0 1, 1 0"), digits("101"))
		keepsGames(t, make([]bool, impl.MaxBits), x, 1, picks("- 1, 0 1, 1 0"), digits("101"))
	}
	keepsGames(t, flags("as"), tableOf(2, "0110"), 1, slices.Repeat(picks("0 1, 1 0"), mostPicks), digits("101"))
	keepsGames(t, nil, tableOf(0, "1"), 1, nil, nil)
}

func TestPicksWriteIntoNothing(t *testing.T) {
	keepsPick := func(p pick) {
		told, kept := sparedPicks([]pick{p})
		text := impl.PickText(told[0])
		read, ok := impl.ReadPick(text)
		asked := picksKeptApart(t, "ReadPick", []pick{read})[0]
		if !kept() {
			t.Fatalf("PickText writes into %v", p)
		}
		if ok {
			readsPick(t, text, asked)
		}
		pickTextIs(t, told[0], text)
	}
	d := dice(142)
	for range 3000 {
		keepsPick(pick{Vals: otherVals(&d, impl.MaxBits), Val: drawVal(&d)})
	}
	keepsPick(pick{})
	keepsPick(pick{Vals: make([]int, 1000)})
}
