package tests

import (
	"fmt"
	"math"
	"slices"
	"strings"
	"testing"

	"loop.example/g00116/impl"
)

type machine = impl.Machine

type seen = impl.Seen

const (
	mostSteps = 1000000000
	longRun   = 100000
)

// digits are the values that a text tells, one a sign.
func digits(text string) []int {
	list := []int{}
	for _, sign := range text {
		list = append(list, int(sign-'0'))
	}
	return list
}

// machineAt is a machine on its way, nothing counted yet; a memory is told as KEY=RET.
func machineAt(row, ones string, room int, vals string, ret int, memo ...string) machine {
	m := machine{Row: flags(row), Table: tableOf(len(row), ones), Room: room, Vals: digits(vals), Ret: ret}
	for _, text := range memo {
		key, says, _ := strings.Cut(text, "=")
		m.Memo = append(m.Memo, seen{Key: key, Ret: digits(says)[0]})
	}
	return m
}

func showMachine(m machine) string {
	text := fmt.Sprint("row ", showRow(m.Row[:min(len(m.Row), 30)]), " table ", short(m.Table), " room ", m.Room, " vals ", m.Vals[:min(len(m.Vals), 30)], " ret ", m.Ret, " over ", m.Over, " counts ", m.Steps, m.Looks, m.Hits, " memo ", len(m.Memo))
	for _, x := range m.Memo[:min(len(m.Memo), 4)] {
		text += fmt.Sprintf(" %.60q=%d", x.Key, x.Ret)
	}
	return text
}

func sameMachine(a, b machine) bool {
	return slices.Equal(a.Row, b.Row) && a.Table == b.Table && a.Room == b.Room && slices.Equal(a.Vals, b.Vals) && a.Ret == b.Ret && a.Over == b.Over &&
		a.Steps == b.Steps && a.Looks == b.Looks && a.Hits == b.Hits && slices.Equal(a.Memo, b.Memo)
}

func isMachine(t *testing.T, name string, got, asked machine) {
	t.Helper()
	if !sameMachine(got, asked) {
		t.Fatalf("%s is\n%s\nnot\n%s", name, showMachine(got), showMachine(asked))
	}
}

func cloned(m machine) machine {
	m.Row, m.Vals, m.Memo = slices.Clone(m.Row), slices.Clone(m.Vals), slices.Clone(m.Memo)
	return m
}

func started(t *testing.T, row []bool, x table, room int) machine {
	t.Helper()
	m, ok := impl.MachineStart(row, x, room)
	if !ok || !impl.MachineOk(m) {
		t.Fatalf("MachineStart of %s, %s, %d is %s, %v", showRow(row), short(x), room, showMachine(m), ok)
	}
	return m
}

// leftModel halves the table once for each value.
func leftModel(m machine) table {
	x := m.Table
	for _, b := range m.Vals {
		half := len(x.Ones) / 2
		x = table{N: x.N - 1, Ones: x.Ones[b*half : (b+1)*half]}
	}
	return x
}

func keyModel(x table) string { return fmt.Sprint(x.N) + ":" + x.Ones }

func whereIs(memo []seen, key string) int {
	return slices.IndexFunc(memo, func(x seen) bool { return x.Key == key })
}

// upModel is the second rule of a step.
func upModel(m machine) machine {
	last := len(m.Vals) - 1
	if last < 0 {
		m.Over = true
		return m
	}
	all := m.Row[last]
	if !(all && m.Ret == 0 || !all && m.Ret == 1 || m.Vals[last] == 1) {
		m.Vals[last] = 1
		m.Ret = -1
		return m
	}
	m.Vals = m.Vals[:last]
	key := keyModel(leftModel(m))
	if m.Room > 0 && whereIs(m.Memo, key) < 0 {
		m.Memo = append(m.Memo, seen{Key: key, Ret: m.Ret})
		m.Memo = m.Memo[max(0, len(m.Memo)-m.Room):]
	}
	return m
}

// stepModel is for machines that are right.
func stepModel(m machine) machine {
	m = cloned(m)
	if m.Over || max(m.Steps, m.Looks, m.Hits) == mostSteps {
		return m
	}
	m.Steps++
	if m.Ret != -1 {
		return upModel(m)
	}
	left := leftModel(m)
	if ones := strings.Count(left.Ones, "1"); ones == 0 || ones == len(left.Ones) {
		m.Ret = one(ones > 0)
		m.Looks++
	} else if i := whereIs(m.Memo, keyModel(left)); i >= 0 {
		m.Ret = m.Memo[i].Ret
		m.Hits++
	} else {
		m.Vals = append(m.Vals, 0)
	}
	return m
}

// isNoMachine is promise 16 for a machine that is wrong: what it is stays.
func isNoMachine(t *testing.T, name string, m machine) {
	t.Helper()
	if impl.MachineOk(m) {
		t.Fatalf("%s: MachineOk of %s", name, showMachine(m))
	}
	isMachine(t, name+": MachineStep", impl.MachineStep(m), m)
	for _, n := range []int{0, 1, 2, 7, longRun, -1, longRun + 1, math.MinInt, math.MaxInt} {
		isMachine(t, name+": MachineRun", impl.MachineRun(m, n), m)
	}
	if v, ok := impl.MachineVerdict(m); ok || v != 0 {
		t.Fatalf("%s: MachineVerdict of %s is %d, %v", name, showMachine(m), v, ok)
	}
	if x, ok := impl.MachineLeft(m); ok || x != (table{}) {
		t.Fatalf("%s: MachineLeft of %s is %s, %v", name, showMachine(m), short(x), ok)
	}
}

// isRightMachine holds what there is to say of a machine that is right against the model, and answers its next step.
func isRightMachine(t *testing.T, name string, m machine) machine {
	t.Helper()
	if !impl.MachineOk(m) {
		t.Fatalf("%s: MachineOk of %s is false", name, showMachine(m))
	}
	if x, ok := impl.MachineLeft(m); !ok || x != leftModel(m) {
		t.Fatalf("%s: MachineLeft of %s is %s, %v", name, showMachine(m), short(x), ok)
	}
	v, ok := impl.MachineVerdict(m)
	if ok != m.Over || ok && v != m.Ret || !ok && v != 0 {
		t.Fatalf("%s: MachineVerdict of %s is %d, %v", name, showMachine(m), v, ok)
	}
	next := impl.MachineStep(m)
	isMachine(t, name+": MachineStep of "+showMachine(m), next, stepModel(m))
	return next
}

func isVerdict(t *testing.T, name string, m machine, asked int) {
	t.Helper()
	if v, ok := impl.MachineVerdict(m); !ok || v != asked {
		t.Fatalf("%s: MachineVerdict of %s is %d, %v, not %d", name, showMachine(m), v, ok, asked)
	}
}

// places is how many the tree of n bits has: one, two, four .. at its levels.
func places(n int) int { return 2*power(n) - 1 }

func rooms() []int { return []int{0, 1, 2, 3, 7, impl.MaxRoom} }

func TestMaxRoom(t *testing.T) {
	want(t, "MaxRoom", impl.MaxRoom, 40)
}

func hasNoStart(t *testing.T, name string, row []bool, x table, room int) {
	t.Helper()
	if m, ok := impl.MachineStart(row, x, room); ok || !sameMachine(m, machine{}) {
		t.Fatalf("%s: MachineStart of %d flags, %s, %d is %s, %v, not nothing", name, len(row), short(x), room, showMachine(m), ok)
	}
}

func TestMachineStarts(t *testing.T) {
	isMachine(t, "no bits", started(t, nil, tableOf(0, "1"), 0), machine{Table: tableOf(0, "1"), Ret: -1})
	isMachine(t, "no bits", started(t, []bool{}, tableOf(0, "0"), 40), machine{Table: tableOf(0, "0"), Ret: -1, Room: 40})
	isMachine(t, "one bit", started(t, flags("a"), tableOf(1, "01"), 1), machineAt("a", "01", 1, "", -1))
	isMachine(t, "two bits", started(t, flags("sa"), tableOf(2, "0111"), 2), machineAt("sa", "0111", 2, "", -1))
	isMachine(t, "three bits", started(t, flags("sas"), tableOf(3, "01100111"), 39), machineAt("sas", "01100111", 39, "", -1))
	eachRuled(121, func(row []bool, x table) {
		for _, room := range rooms() {
			isMachine(t, "MachineStart", started(t, row, x, room), machine{Row: row, Table: x, Room: room, Ret: -1})
		}
		for _, room := range append(farNumbers(), impl.MaxRoom+1, impl.MaxRoom+2, 64) {
			hasNoStart(t, "no room", row, x, room)
		}
		hasNoStart(t, "a flag too many", append(slices.Clone(row), true), x, 1)
		hasNoStart(t, "a flag too many", append(slices.Clone(row), false), x, 1)
		if len(row) > 0 {
			hasNoStart(t, "a flag too few", row[1:], x, 1)
			hasNoStart(t, "no row", nil, x, 1)
		}
	})
	for room := range impl.MaxRoom + 1 {
		want(t, "Room of a start", started(t, flags("as"), tableOf(2, "0110"), room).Room, room)
	}
	for _, x := range noTables() {
		for _, room := range []int{0, 1, impl.MaxRoom} {
			hasNoStart(t, "no table", nil, x, room)
			hasNoStart(t, "no table", flags("as"), x, room)
			if x.N > 0 && x.N < 70 {
				hasNoStart(t, "no table", make([]bool, x.N), x, room)
			}
		}
	}
}

type oneStep struct {
	name   string
	before machine
	vals   string
	ret    int
	looks  int
	hits   int
	memo   []seen
}

// steps asks for what is told, Steps one more, and all else as it was.
func (x oneStep) steps(t *testing.T) {
	t.Helper()
	asked := cloned(x.before)
	asked.Vals, asked.Ret, asked.Memo = digits(x.vals), x.ret, x.memo
	asked.Steps += 1
	asked.Looks += x.looks
	asked.Hits += x.hits
	isMachine(t, x.name+": MachineStep of "+showMachine(x.before), impl.MachineStep(x.before), asked)
	isMachine(t, x.name+": MachineRun of "+showMachine(x.before), impl.MachineRun(x.before, 1), asked)
}

func TestStepsOnTheWayDown(t *testing.T) {
	for _, x := range []oneStep{
		{"known at once", machineAt("", "0", 2, "", -1), "", 0, 1, 0, nil},
		{"known at once", machineAt("", "1", 0, "", -1), "", 1, 1, 0, nil},
		{"known at once", machineAt("as", "0000", 2, "", -1), "", 0, 1, 0, nil},
		{"known at once", machineAt("sa", "1111", 2, "", -1), "", 1, 1, 0, nil},
		{"known half", machineAt("as", "0011", 2, "0", -1), "0", 0, 1, 0, nil},
		{"known half", machineAt("as", "0011", 2, "1", -1), "1", 1, 1, 0, nil},
		{"known half", machineAt("as", "0100", 2, "1", -1), "1", 0, 1, 0, nil},
		{"all bits told", machineAt("as", "0110", 2, "00", -1), "00", 0, 1, 0, nil},
		{"all bits told", machineAt("as", "0110", 2, "01", -1), "01", 1, 1, 0, nil},
		{"all bits told", machineAt("as", "0100", 2, "01", -1), "01", 1, 1, 0, nil},
		{"all bits told", machineAt("as", "0100", 2, "10", -1), "10", 0, 1, 0, nil},
		{"one half of three bits", machineAt("sas", "01110000", 3, "1", -1), "1", 0, 1, 0, nil},
		{"a fourth of three bits", machineAt("sas", "01001101", 3, "10", -1), "10", 1, 1, 0, nil},
		{"not known", machineAt("a", "01", 0, "", -1), "0", -1, 0, 0, nil},
		{"not known", machineAt("as", "0110", 2, "", -1), "0", -1, 0, 0, nil},
		{"not known", machineAt("as", "0110", 2, "0", -1), "00", -1, 0, 0, nil},
		{"not known", machineAt("as", "0110", 2, "1", -1), "10", -1, 0, 0, nil},
		{"not known", machineAt("sas", "00010111", 2, "01", -1), "010", -1, 0, 0, nil},
		{"remembered", machineAt("as", "0110", 2, "0", -1, "1:01=1"), "0", 1, 0, 1, []seen{{Key: "1:01", Ret: 1}}},
		{"remembered", machineAt("as", "0110", 2, "1", -1, "1:01=1", "1:10=0"), "1", 0, 0, 1, []seen{{Key: "1:01", Ret: 1}, {Key: "1:10", Ret: 0}}},
		{"remembered as a whole", machineAt("as", "0110", 1, "", -1, "2:0110=0"), "", 0, 0, 1, []seen{{Key: "2:0110", Ret: 0}}},
		{"another key", machineAt("as", "0110", 2, "1", -1, "1:01=1"), "10", -1, 0, 0, []seen{{Key: "1:01", Ret: 1}}},
		{"no key, but Ones alone", machineAt("as", "0110", 4, "1", -1, "10=1", "1:1=0", ":10=1", "2:10=1"), "10", -1, 0, 0, []seen{{Key: "10", Ret: 1}, {Key: "1:1", Ret: 0}, {Key: ":10", Ret: 1}, {Key: "2:10", Ret: 1}}},
		// what is Known is not looked for in Memo
		{"known and remembered", machineAt("as", "0011", 2, "1", -1, "1:11=0"), "1", 1, 1, 0, []seen{{Key: "1:11", Ret: 0}}},
		{"known and remembered", machineAt("as", "0110", 2, "10", -1, "0:1=0"), "10", 1, 1, 0, []seen{{Key: "0:1", Ret: 0}}},
	} {
		x.steps(t)
	}
}

func TestStepsOnTheWayUp(t *testing.T) {
	for _, x := range []oneStep{
		// the flag of the last of Vals, Ret, and the last of Vals
		{"All, 0, 0", machineAt("sa", "0110", 0, "00", 0), "0", 0, 0, 0, nil},
		{"All, 0, 1", machineAt("sa", "0110", 0, "01", 0), "0", 0, 0, 0, nil},
		{"All, 1, 0", machineAt("sa", "0110", 0, "00", 1), "01", -1, 0, 0, nil},
		{"All, 1, 1", machineAt("sa", "0110", 0, "01", 1), "0", 1, 0, 0, nil},
		{"not All, 0, 0", machineAt("as", "0110", 0, "10", 0), "11", -1, 0, 0, nil},
		{"not All, 0, 1", machineAt("as", "0110", 0, "11", 0), "1", 0, 0, 0, nil},
		{"not All, 1, 0", machineAt("as", "0110", 0, "10", 1), "1", 1, 0, 0, nil},
		{"not All, 1, 1", machineAt("as", "0110", 0, "11", 1), "1", 1, 0, 0, nil},
		// the flag is that of the last of Vals, not that of the next bit, nor the first
		{"All first", machineAt("as", "0110", 0, "0", 0), "", 0, 0, 0, nil},
		{"All first", machineAt("as", "0110", 0, "0", 1), "1", -1, 0, 0, nil},
		{"not All first", machineAt("sa", "0110", 0, "0", 0), "1", -1, 0, 0, nil},
		{"not All first", machineAt("sa", "0110", 0, "0", 1), "", 1, 0, 0, nil},
		{"the second of three", machineAt("asa", "01100110", 0, "10", 0), "11", -1, 0, 0, nil},
		{"the second of three", machineAt("asa", "01100110", 0, "10", 1), "1", 1, 0, 0, nil},
		{"the second of three", machineAt("sas", "01100110", 0, "10", 0), "1", 0, 0, 0, nil},
		{"the second of three", machineAt("sas", "01100110", 0, "10", 1), "11", -1, 0, 0, nil},
		// the values ahead are as they were
		{"the last of three", machineAt("aas", "01100110", 0, "010", 0), "011", -1, 0, 0, nil},
		{"the last of three", machineAt("aas", "01100110", 0, "110", 1), "11", 1, 0, 0, nil},
		// what has come to its other value is not remembered
		{"turned", machineAt("sa", "0110", 2, "00", 1), "01", -1, 0, 0, nil},
		{"turned", machineAt("sa", "0110", 1, "00", 1, "1:10=0"), "01", -1, 0, 0, []seen{{Key: "1:10", Ret: 0}}},
	} {
		x.steps(t)
	}
	for _, m := range []machine{machineAt("", "0", 0, "", 0), machineAt("", "0", 2, "", 1), machineAt("as", "0110", 2, "", 1), machineAt("as", "0110", 2, "", 0, "2:0110=1"), machineAt("sas", "01100110", 0, "", 0)} {
		asked := cloned(m)
		asked.Over = true
		asked.Steps = 1
		isMachine(t, "no values any more", impl.MachineStep(m), asked)
		isMachine(t, "behind the end", impl.MachineStep(asked), asked)
		isMachine(t, "behind the end", impl.MachineRun(m, longRun), asked)
	}
}

func TestWhatIsRemembered(t *testing.T) {
	a, b, c := seen{Key: "1:01", Ret: 1}, seen{Key: "1:10", Ret: 0}, seen{Key: "x", Ret: 1}
	for _, x := range []oneStep{
		{"the first", machineAt("sa", "0110", 1, "00", 0), "0", 0, 0, 0, []seen{{Key: "1:01", Ret: 0}}},
		{"the first", machineAt("as", "0110", 1, "11", 1), "1", 1, 0, 0, []seen{{Key: "1:10", Ret: 1}}},
		{"as a whole", machineAt("as", "0110", 1, "1", 1), "", 1, 0, 0, []seen{{Key: "2:0110", Ret: 1}}},
		{"as a whole", machineAt("a", "01", 40, "0", 0), "", 0, 0, 0, []seen{{Key: "1:01", Ret: 0}}},
		{"of three bits", machineAt("sas", "01100011", 5, "11", 1), "1", 1, 0, 0, []seen{{Key: "2:0011", Ret: 1}}},
		{"no room", machineAt("sa", "0110", 0, "00", 0), "0", 0, 0, 0, nil},
		{"behind another", machineAt("as", "0110", 2, "11", 1, "1:01=1"), "1", 1, 0, 0, []seen{a, {Key: "1:10", Ret: 1}}},
		{"behind two", machineAt("as", "0110", 3, "1", 0, "1:01=1", "1:10=0"), "", 0, 0, 0, []seen{a, b, {Key: "2:0110", Ret: 0}}},
		{"the only one goes", machineAt("as", "0110", 1, "11", 1, "1:01=1"), "1", 1, 0, 0, []seen{{Key: "1:10", Ret: 1}}},
		{"the oldest goes", machineAt("as", "0110", 2, "1", 0, "1:01=1", "1:10=0"), "", 0, 0, 0, []seen{b, {Key: "2:0110", Ret: 0}}},
		{"the oldest goes", machineAt("as", "0110", 3, "1", 1, "x=1", "1:01=1", "1:10=0"), "", 1, 0, 0, []seen{a, b, {Key: "2:0110", Ret: 1}}},
		// a key that is there already stays where it is, and says what it said
		{"there already", machineAt("as", "0110", 2, "01", 1, "1:01=1"), "0", 1, 0, 0, []seen{a}},
		{"there already", machineAt("as", "0110", 2, "01", 0, "1:01=1"), "0", 0, 0, 0, []seen{a}},
		{"there already, full", machineAt("as", "0110", 2, "01", 0, "1:01=1", "1:10=0"), "0", 0, 0, 0, []seen{a, b}},
		{"there already, full", machineAt("as", "0110", 3, "11", 1, "1:01=1", "1:10=0", "x=1"), "1", 1, 0, 0, []seen{a, b, c}},
		// what is known is remembered like all else, where the way was begun there
		{"what is known", machineAt("as", "0111", 2, "11", 1), "1", 1, 0, 0, []seen{{Key: "1:11", Ret: 1}}},
		{"what is known", machineAt("aa", "0000", 2, "10", 0), "1", 0, 0, 0, []seen{{Key: "1:00", Ret: 0}}},
	} {
		x.steps(t)
	}
	// the room that is the greatest, full
	m := machineAt("as", "0110", impl.MaxRoom, "11", 0)
	for i := range impl.MaxRoom {
		m.Memo = append(m.Memo, seen{Key: fmt.Sprint("key ", i), Ret: i % 2})
	}
	next := isRightMachine(t, "forty", m)
	want(t, "how many are remembered", len(next.Memo), impl.MaxRoom)
	if next.Memo[0].Key != "key 1" || next.Memo[38].Key != "key 39" || next.Memo[39] != (seen{Key: "1:10", Ret: 0}) {
		t.Errorf("remembered are %v", next.Memo)
	}
	m.Memo = m.Memo[:39]
	next = isRightMachine(t, "thirty-nine", m)
	if len(next.Memo) != impl.MaxRoom || next.Memo[0].Key != "key 0" || next.Memo[39].Key != "1:10" {
		t.Errorf("remembered are %v", next.Memo)
	}
}

// goesSo runs a machine step by step and asks for VALS RET LOOKS HITS MEMO at each of them.
func goesSo(t *testing.T, row, ones string, room int, asked ...string) {
	t.Helper()
	m := started(t, flags(row), tableOf(len(row), ones), room)
	for i, line := range asked {
		m = impl.MachineStep(m)
		vals := ""
		for _, b := range m.Vals {
			vals += fmt.Sprint(b)
		}
		got := fmt.Sprintf("%q %d %d %d", vals, m.Ret, m.Looks, m.Hits)
		for _, x := range m.Memo {
			got += fmt.Sprintf(" %s=%d", x.Key, x.Ret)
		}
		if got != line || m.Steps != i+1 || m.Over != (i == len(asked)-1) {
			t.Fatalf("%s %s, room %d: step %d leads to %s, not %s (%s)", row, ones, room, i+1, got, line, showMachine(m))
		}
	}
}

func TestWholeWays(t *testing.T) {
	goesSo(t, "", "1", 3, `"" 1 1 0`, `"" 1 1 0`)
	goesSo(t, "", "0", 0, `"" 0 1 0`, `"" 0 1 0`)
	goesSo(t, "a", "11", 3, `"" 1 1 0`, `"" 1 1 0`)
	goesSo(t, "a", "01", 1, `"0" -1 0 0`, `"0" 0 1 0`, `"" 0 1 0 1:01=0`, `"" 0 1 0 1:01=0`)
	goesSo(t, "a", "10", 0, `"0" -1 0 0`, `"0" 1 1 0`, `"1" -1 1 0`, `"1" 0 2 0`, `"" 0 2 0`, `"" 0 2 0`)
	goesSo(t, "s", "01", 0, `"0" -1 0 0`, `"0" 0 1 0`, `"1" -1 1 0`, `"1" 1 2 0`, `"" 1 2 0`, `"" 1 2 0`)
	goesSo(t, "s", "10", 1, `"0" -1 0 0`, `"0" 1 1 0`, `"" 1 1 0 1:10=1`, `"" 1 1 0 1:10=1`)
	goesSo(t, "as", "0110", 2,
		`"0" -1 0 0`, `"00" -1 0 0`, `"00" 0 1 0`, `"01" -1 1 0`, `"01" 1 2 0`, `"0" 1 2 0 1:01=1`,
		`"1" -1 2 0 1:01=1`, `"10" -1 2 0 1:01=1`, `"10" 1 3 0 1:01=1`, `"1" 1 3 0 1:01=1 1:10=1`, `"" 1 3 0 1:10=1 2:0110=1`, `"" 1 3 0 1:10=1 2:0110=1`)
	goesSo(t, "as", "0101", 1,
		`"0" -1 0 0`, `"00" -1 0 0`, `"00" 0 1 0`, `"01" -1 1 0`, `"01" 1 2 0`, `"0" 1 2 0 1:01=1`,
		`"1" -1 2 0 1:01=1`, `"1" 1 2 1 1:01=1`, `"" 1 2 1 2:0101=1`, `"" 1 2 1 2:0101=1`)
	// without room both halves are gone through
	goesSo(t, "as", "0101", 0,
		`"0" -1 0 0`, `"00" -1 0 0`, `"00" 0 1 0`, `"01" -1 1 0`, `"01" 1 2 0`, `"0" 1 2 0`,
		`"1" -1 2 0`, `"10" -1 2 0`, `"10" 0 3 0`, `"11" -1 3 0`, `"11" 1 4 0`, `"1" 1 4 0`, `"" 1 4 0`, `"" 1 4 0`)
	goesSo(t, "sa", "0110", 40,
		`"0" -1 0 0`, `"00" -1 0 0`, `"00" 0 1 0`, `"0" 0 1 0 1:01=0`,
		`"1" -1 1 0 1:01=0`, `"10" -1 1 0 1:01=0`, `"10" 1 2 0 1:01=0`, `"11" -1 2 0 1:01=0`, `"11" 0 3 0 1:01=0`, `"1" 0 3 0 1:01=0 1:10=0`, `"" 0 3 0 1:01=0 1:10=0 2:0110=0`, `"" 0 3 0 1:01=0 1:10=0 2:0110=0`)
	// 01 is forgotten for 10 where there is room for one, and then for 0110
	goesSo(t, "ass", "01100111", 1,
		`"0" -1 0 0`, `"00" -1 0 0`, `"000" -1 0 0`, `"000" 0 1 0`, `"001" -1 1 0`, `"001" 1 2 0`, `"00" 1 2 0 1:01=1`, `"0" 1 2 0 2:0110=1`,
		`"1" -1 2 0 2:0110=1`, `"10" -1 2 0 2:0110=1`, `"100" -1 2 0 2:0110=1`, `"100" 0 3 0 2:0110=1`, `"101" -1 3 0 2:0110=1`, `"101" 1 4 0 2:0110=1`, `"10" 1 4 0 1:01=1`, `"1" 1 4 0 2:0111=1`, `"" 1 4 0 3:01100111=1`, `"" 1 4 0 3:01100111=1`)
	goesSo(t, "ass", "01100111", 2,
		`"0" -1 0 0`, `"00" -1 0 0`, `"000" -1 0 0`, `"000" 0 1 0`, `"001" -1 1 0`, `"001" 1 2 0`, `"00" 1 2 0 1:01=1`, `"0" 1 2 0 1:01=1 2:0110=1`,
		`"1" -1 2 0 1:01=1 2:0110=1`, `"10" -1 2 0 1:01=1 2:0110=1`, `"10" 1 2 1 1:01=1 2:0110=1`, `"1" 1 2 1 2:0110=1 2:0111=1`, `"" 1 2 1 2:0111=1 3:01100111=1`, `"" 1 2 1 2:0111=1 3:01100111=1`)
}

// comesToItsEnd is promise 9 for one machine, step by step.
func comesToItsEnd(t *testing.T, row []bool, x table, room int) machine {
	t.Helper()
	m := started(t, row, x, room)
	for !m.Over {
		if m.Steps >= 3*places(x.N) {
			t.Fatalf("three steps for each place, and no end: %s", showMachine(m))
		}
		steps := m.Steps
		m = isRightMachine(t, "on the way", m)
		want(t, "Steps", m.Steps, steps+1)
	}
	isVerdict(t, "at the end", m, decided(row, x.Ones))
	isMachine(t, "behind the end", isRightMachine(t, "at the end", m), m)
	return m
}

func TestMachinesOfFewBits(t *testing.T) {
	counts := [2]int{}
	hits := 0
	for _, x := range smallTables() {
		for i := range power(x.N) {
			row := rowAt(x.N, i)
			for _, room := range rooms() {
				m := comesToItsEnd(t, row, x, room)
				counts[m.Ret]++
				hits += m.Hits
				isMachine(t, "at once", impl.MachineRun(started(t, row, x, room), 3*places(x.N)), m)
				v, _ := impl.Decide(row, x)
				isVerdict(t, "Decide", m, v)
			}
		}
	}
	if slices.Min(counts[:]) < 1000 || hits < 100 {
		t.Errorf("%v verdicts or %d hits are too few", counts, hits)
	}
}

// Promise 9 for all numbers of bits, and what is remembered at the end is true.
func TestMachinesOfManyBits(t *testing.T) {
	hits, forgotten := 0, 0
	eachRuled(122, func(row []bool, x table) {
		if x.N < 4 {
			return
		}
		without := 0
		for _, room := range []int{0, 1, 2, impl.MaxRoom} {
			m := started(t, row, x, room)
			asked := cloned(m)
			for range 3 * places(x.N) {
				asked = stepModel(asked)
			}
			m = impl.MachineRun(m, 3*places(x.N))
			isMachine(t, "MachineRun of "+showRow(row)+" "+short(x), m, asked)
			isVerdict(t, "at the end", m, decided(row, x.Ones))
			v, _ := impl.Decide(row, x)
			isVerdict(t, "Decide", m, v)
			for _, y := range m.Memo {
				n, ones, _ := strings.Cut(y.Key, ":")
				bits := len(bitsOf(len(ones)))
				if n != fmt.Sprint(bits) || decided(row[len(row)-bits:], ones) != y.Ret {
					t.Fatalf("%s=%d is remembered below %s", y.Key, y.Ret, showRow(row))
				}
			}
			if room == 0 {
				without = m.Steps
				want(t, "Hits without room", m.Hits+len(m.Memo), 0)
			}
			hits += m.Hits
			forgotten += one(len(m.Memo) == room && room > 0)
			if m.Steps > without {
				t.Fatalf("with a room of %d there are %d steps, without %d", room, m.Steps, without)
			}
		}
	})
	if hits < 1000 || forgotten < 100 {
		t.Errorf("%d hits, %d full memories are too few", hits, forgotten)
	}
}

// bitsOf are the halvings that lead from a number of places to one.
func bitsOf(count int) []int {
	list := []int{}
	for ; count > 1; count /= 2 {
		list = append(list, count)
	}
	return list
}

func TestMachinesOfMostBits(t *testing.T) {
	d := dice(123)
	for _, text := range []string{"as", "sa", "a", "s", "aaas"} {
		row := flags(strings.Repeat(text, impl.MaxBits)[:impl.MaxBits])
		odd := tableBy(impl.MaxBits, func(bits []int) bool { return slices.Max(bits) == 1 && (placeAt(bits)*7+3)%5 < 3 })
		for _, x := range []table{odd, impl.TableNot(odd), evenTable(&d, impl.MaxBits)} {
			for _, room := range []int{0, 1, 2, impl.MaxRoom} {
				m := impl.MachineRun(started(t, row, x, room), longRun)
				isVerdict(t, "twelve bits", m, decided(row, x.Ones))
				if m.Steps > 3*places(x.N) {
					t.Errorf("%d steps are too many", m.Steps)
				}
			}
		}
	}
	// step by step, where both values of every bit are needed
	x := tableBy(impl.MaxBits, func(bits []int) bool { return !slices.Contains(bits, 0) })
	row := flags(strings.Repeat("s", impl.MaxBits))
	m := comesToItsEnd(t, row, x, 0)
	// down, known and turned at each 0, at the last bit a look more; up again, and the end
	want(t, "Steps to the last place", m.Steps, 12*3+1+12+1)
	want(t, "Looks to the last place", m.Looks, 13)
	checker := tableBy(6, func(bits []int) bool { return strings.Count(fmt.Sprint(bits), "1")%2 == 1 })
	for _, room := range rooms() {
		comesToItsEnd(t, flags("asasas"), checker, room)
		comesToItsEnd(t, flags("sasasa"), checker, room)
	}
	for range 6 {
		comesToItsEnd(t, drawRow(&d, 9), evenTable(&d, 9), 1+d.below(impl.MaxRoom))
	}
}

// eachWorth calls f for the rows and tables of drawn sentences, with what these are worth.
func eachWorth(t *testing.T, d *dice, f func(row []bool, x table, v int)) {
	for count := 0; count < 300; {
		x := drawSentence(d)
		if impl.Bits(x) > 9 {
			continue
		}
		count++
		y := isTheWorth(t, "drawn", x)
		q, _, _ := impl.Front(x)
		v, _ := impl.Holds(x)
		f(impl.Rows(q), y, v)
	}
}

func TestMachinesOfSentences(t *testing.T) {
	d := dice(124)
	eachWorth(t, &d, func(row []bool, x table, v int) {
		for _, room := range []int{0, 1 + d.below(5), impl.MaxRoom} {
			m := impl.MachineRun(started(t, row, x, room), 3*places(x.N))
			isVerdict(t, "what a sentence is worth", m, v)
		}
	})
}

// drawMachine is a right one, at a place that it need not have come to, with
// memories that need not be true.
func drawMachine(d *dice) machine {
	n := d.below(6)
	m := machine{Row: drawRow(d, n), Table: drawTable(d, n), Room: d.below(6), Ret: d.below(3) - 1, Steps: d.below(50), Looks: d.below(50), Hits: d.below(50)}
	for range d.below(n + 1) {
		m.Vals = append(m.Vals, d.below(2))
	}
	if d.below(8) == 0 && m.Ret != -1 {
		m.Vals, m.Over = nil, true
	}
	if d.below(12) == 0 {
		m.Room = impl.MaxRoom
	}
	for range d.below(m.Room + 1) {
		place := cloned(m)
		place.Vals = bitsAt(n, d.below(power(n)))[:d.below(n+1)]
		key := keyModel(leftModel(place))
		if d.below(5) == 0 {
			key = []string{"", "x", "0:", "1:1", "2:01", "\x00", "0:0"}[d.below(7)]
		}
		if whereIs(m.Memo, key) < 0 {
			m.Memo = append(m.Memo, seen{Key: key, Ret: d.below(2)})
		}
	}
	return m
}

func TestDrawnMachines(t *testing.T) {
	d := dice(125)
	for range 20000 {
		m := drawMachine(&d)
		asked := cloned(m)
		next := m
		for range d.below(6) {
			next = isRightMachine(t, "drawn", next)
			asked = stepModel(asked)
		}
		n := d.below(200)
		run := impl.MachineRun(next, n)
		for range n {
			asked = stepModel(asked)
		}
		isMachine(t, "MachineRun of "+showMachine(next), run, asked)
		if impl.MachineRun(m, longRun).Over != true {
			t.Fatalf("no end: %s", showMachine(m))
		}
	}
}

func TestRuns(t *testing.T) {
	eachRuled(126, func(row []bool, x table) {
		if x.N > 6 {
			return
		}
		m := started(t, row, x, x.N%4)
		stepped := m
		for n := range 12 {
			isMachine(t, "MachineRun", impl.MachineRun(m, n), stepped)
			for _, part := range []int{0, n / 3, n} {
				isMachine(t, "MachineRun in two parts", impl.MachineRun(impl.MachineRun(m, part), n-part), stepped)
			}
			stepped = impl.MachineStep(stepped)
		}
		for _, n := range append(farNumbers(), longRun+1, longRun+2, 10*longRun) {
			if n < 0 || n > longRun {
				isMachine(t, "MachineRun of no number", impl.MachineRun(m, n), m)
				isMachine(t, "MachineRun of no number", impl.MachineRun(stepped, n), stepped)
			}
		}
		isVerdict(t, "MachineRun of most steps", impl.MachineRun(m, longRun), decided(row, x.Ones))
		isVerdict(t, "MachineRun of one less", impl.MachineRun(m, longRun-1), decided(row, x.Ones))
	})
	// as many steps as are asked for, one by one
	checker := tableBy(impl.MaxBits, func(bits []int) bool { return strings.Count(fmt.Sprint(bits), "1")%2 == 1 })
	m := started(t, flags("aaaaaaaaaaas"), checker, 0)
	for n := 0; n < 5000; n += 61 {
		want(t, "Steps of MachineRun", impl.MachineRun(m, n).Steps, n)
	}
}

func TestBoundsOfCounts(t *testing.T) {
	known, remembered, fork := machineAt("as", "0011", 2, "1", -1), machineAt("as", "0110", 2, "1", -1, "1:10=1"), machineAt("as", "0110", 2, "1", -1)
	up, turn, top := machineAt("as", "0110", 2, "10", 1), machineAt("as", "0110", 2, "10", 0), machineAt("as", "0110", 2, "", 1)
	for i, m := range []machine{known, remembered, fork, up, turn, top} {
		for name, count := range map[string]func(m *machine) *int{
			"Steps": func(m *machine) *int { return &m.Steps }, "Looks": func(m *machine) *int { return &m.Looks }, "Hits": func(m *machine) *int { return &m.Hits },
		} {
			full := cloned(m)
			*count(&full) = mostSteps
			if !impl.MachineOk(full) {
				t.Errorf("MachineOk of %s is false", showMachine(full))
			}
			for _, n := range []int{0, 1, 2, longRun} {
				isMachine(t, name+" at the bound", impl.MachineRun(full, n), full)
			}
			isMachine(t, name+" at the bound", isRightMachine(t, name, full), full)
			almost := cloned(m)
			*count(&almost) = mostSteps - 1
			next := isRightMachine(t, name, almost)
			asked := *count(&almost) + one(name == "Steps" || name == "Looks" && i == 0 || name == "Hits" && i == 1)
			want(t, name+" below the bound", *count(&next), asked, i)
			if asked == mostSteps {
				isMachine(t, name+" has come to the bound", impl.MachineRun(almost, 100), next)
			}
			*count(&full) = mostSteps + 1
			isNoMachine(t, name+" above the bound", full)
			*count(&full) = -1
			isNoMachine(t, name+" of -1", full)
		}
	}
	// a machine that is over has its verdict though nothing more is counted
	over := machineAt("as", "0110", 2, "", 1)
	over.Over, over.Steps, over.Looks, over.Hits = true, mostSteps, mostSteps, mostSteps
	isVerdict(t, "all at the bound", over, 1)
	isMachine(t, "all at the bound", isRightMachine(t, "over", over), over)
}

// rightMachines are of each kind that there is.
func rightMachines() []machine {
	over := machineAt("as", "0110", 2, "", 1, "1:01=1", "2:0110=1")
	over.Over, over.Steps, over.Looks, over.Hits = true, 12, 3, 1
	still := machineAt("", "0", 0, "", 0)
	still.Over = true
	full := machineAt(strings.Repeat("a", impl.MaxBits), constantTable(impl.MaxBits, 1).Ones, impl.MaxRoom, strings.Repeat("01", impl.MaxBits/2), 1)
	for i := range impl.MaxRoom {
		full.Memo = append(full.Memo, seen{Key: strings.Repeat("k", i), Ret: i % 2})
	}
	return []machine{
		machineAt("", "1", 0, "", -1), machineAt("a", "01", 1, "", -1), machineAt("a", "01", 1, "1", 0), machineAt("as", "0110", 2, "1", -1, "1:01=1"), machineAt("as", "0110", 1, "10", 1, "1:01=1"),
		machineAt("sas", "01100110", 40, "101", 0, "1:01=1", "1:10=0", "=0", "2:0110=1"), over, still, full,
	}
}

// notOk are the ways in which the chapter wants a machine not to be.
func notOk() map[string]func(m *machine) {
	ways := map[string]func(m *machine){
		"a flag too many":    func(m *machine) { m.Row = append(m.Row, true) },
		"N one more":         func(m *machine) { m.Table.N++ },
		"N one less":         func(m *machine) { m.Table.N-- },
		"a sign too many":    func(m *machine) { m.Table.Ones += "1" },
		"a sign too few":     func(m *machine) { m.Table.Ones = m.Table.Ones[1:] },
		"another sign":       func(m *machine) { m.Table.Ones = "2" + m.Table.Ones[1:] },
		"no table":           func(m *machine) { m.Table = table{} },
		"two halves more":    func(m *machine) { m.Table.N, m.Table.Ones = m.Table.N+1, m.Table.Ones+m.Table.Ones },
		"more than Room":     func(m *machine) { m.Memo, m.Room = append(m.Memo, seen{Key: "more"}), len(m.Memo) },
		"Over with Vals":     func(m *machine) { m.Over, m.Ret, m.Vals = true, 1, append(m.Vals, 0) },
		"Over on its way":    func(m *machine) { m.Over, m.Ret = true, -1 },
		"no values, on way":  func(m *machine) { m.Over, m.Ret, m.Vals = true, -1, nil },
		"a value too many":   func(m *machine) { m.Over, m.Vals = false, make([]int, len(m.Row)+1) },
		"many values":        func(m *machine) { m.Over, m.Vals = false, make([]int, 100) },
		"a Ret of Memo of 2": func(m *machine) { m.Room, m.Memo = 40, append(m.Memo[:min(39, len(m.Memo))], seen{Key: "new", Ret: 2}) },
		"a Ret of Memo, -1": func(m *machine) {
			m.Room, m.Memo = 40, append([]seen{{Key: "new", Ret: -1}}, m.Memo[:min(39, len(m.Memo))]...)
		},
		"two Keys alike": func(m *machine) {
			m.Room, m.Memo = 40, append(append([]seen{{Key: "new"}}, m.Memo[:min(38, len(m.Memo))]...), seen{Key: "new"})
		},
		"two Keys, not Rets": func(m *machine) { m.Room, m.Memo = 40, []seen{{Key: "new"}, {Key: "new", Ret: 1}} },
		"two empty Keys":     func(m *machine) { m.Room, m.Memo = 40, []seen{{Ret: 1}, {Key: "x"}, {Ret: 1}} },
		"forty-one":          func(m *machine) { m.Room, m.Memo = impl.MaxRoom, manySeen(impl.MaxRoom+1) },
		"a thousand":         func(m *machine) { m.Room, m.Memo = impl.MaxRoom, manySeen(1000) },
		"forty-one twice":    func(m *machine) { m.Room, m.Memo = impl.MaxRoom+1, manySeen(impl.MaxRoom+1) },
	}
	for _, n := range append(farNumbers(), 2, 3) {
		ways[fmt.Sprint("Ret of ", n)] = func(m *machine) { m.Ret, m.Over = n, m.Over || n == -1 }
		ways[fmt.Sprint("a Ret of Memo of ", n)] = func(m *machine) { m.Room, m.Memo = 1, []seen{{Key: "new", Ret: n}} }
	}
	for _, n := range append(farNumbers(), impl.MaxRoom+1, 64) {
		ways[fmt.Sprint("Room of ", n)] = func(m *machine) { m.Room = n }
		ways[fmt.Sprint("Room of nothing, ", n)] = func(m *machine) { m.Room, m.Memo = n, nil }
	}
	for _, n := range []int{-1, -2, mostSteps + 1, mostSteps + 2, math.MinInt, math.MaxInt, 1 << 32} {
		ways[fmt.Sprint("Steps of ", n)] = func(m *machine) { m.Steps = n }
		ways[fmt.Sprint("Looks of ", n)] = func(m *machine) { m.Looks = n }
		ways[fmt.Sprint("Hits of ", n)] = func(m *machine) { m.Hits = n }
	}
	return ways
}

func manySeen(count int) []seen {
	list := []seen{}
	for i := range count {
		list = append(list, seen{Key: fmt.Sprint(i), Ret: 1})
	}
	return list
}

func TestMachinesThatAreNone(t *testing.T) {
	isNoMachine(t, "the zero value", machine{})
	isNoMachine(t, "no table", machine{Ret: -1})
	for i, m := range rightMachines() {
		isRightMachine(t, "right", m)
		for name, spoil := range notOk() {
			wrong := cloned(m)
			spoil(&wrong)
			isNoMachine(t, fmt.Sprint(name, " of machine ", i), wrong)
		}
		if len(m.Row) > 0 {
			wrong := cloned(m)
			wrong.Row = wrong.Row[1:]
			isNoMachine(t, "a flag too few", wrong)
			wrong.Row = nil
			isNoMachine(t, "no flags", wrong)
		}
		for place := range m.Vals {
			for _, b := range append(farNumbers(), 2, 3, 48, 49) {
				wrong := cloned(m)
				wrong.Vals[place] = b
				isNoMachine(t, "a value that is no bit", wrong)
			}
		}
	}
	for _, x := range noTables() {
		m := machine{Row: make([]bool, max(0, min(x.N, 100))), Table: x, Ret: -1}
		isNoMachine(t, "no table", m)
		m.Ret, m.Over = 1, true
		isNoMachine(t, "no table, over", m)
	}
	huge := machine{Row: make([]bool, 100000), Table: tableOf(2, "0110"), Vals: make([]int, 100000), Memo: manySeen(100000), Room: 40}
	isNoMachine(t, "very much", huge)
}

// Just what the chapter allows is right.
func TestMachinesAtTheirEdges(t *testing.T) {
	edges := map[string]func(m *machine){
		"Room of 0":           func(m *machine) { m.Room, m.Memo = 0, nil },
		"Room of MaxRoom":     func(m *machine) { m.Room = impl.MaxRoom },
		"as many as Room":     func(m *machine) { m.Room = len(m.Memo) },
		"forty":               func(m *machine) { m.Room, m.Memo = impl.MaxRoom, manySeen(impl.MaxRoom) },
		"all Vals, 1":         func(m *machine) { m.Over, m.Vals = false, slices.Repeat([]int{1}, len(m.Row)) },
		"all Vals, 0":         func(m *machine) { m.Over, m.Vals = false, make([]int, len(m.Row)) },
		"no Vals":             func(m *machine) { m.Over, m.Vals = false, nil },
		"Over with 0":         func(m *machine) { m.Over, m.Vals, m.Ret = true, nil, 0 },
		"Over with 1":         func(m *machine) { m.Over, m.Vals, m.Ret = true, nil, 1 },
		"counts of 0":         func(m *machine) { m.Steps, m.Looks, m.Hits = 0, 0, 0 },
		"counts at the bound": func(m *machine) { m.Steps, m.Looks, m.Hits = mostSteps, mostSteps, mostSteps },
		"an empty Key":        func(m *machine) { m.Room, m.Memo = 2, []seen{{Ret: 1}, {Key: "\x00"}} },
		"down":                func(m *machine) { m.Over, m.Ret = false, -1 },
	}
	for name, f := range edges {
		for _, m := range rightMachines() {
			right := cloned(m)
			f(&right)
			next := right
			for range 12 {
				next = isRightMachine(t, name, next)
			}
		}
	}
}

// spareRoom is a machine with spare room behind its slices, and a test that nothing there has changed.
func spareRoom(m machine) (machine, func() bool) {
	row := append(slices.Clone(m.Row), true, false, true)
	vals := append(slices.Clone(m.Vals), 7, 8, 9)
	memo := append(slices.Clone(m.Memo), seen{Key: "spare", Ret: 5}, seen{Key: "room", Ret: 6})
	rowWas, valsWas, memoWas := slices.Clone(row), slices.Clone(vals), slices.Clone(memo)
	given := m
	given.Row, given.Vals, given.Memo = row[:len(m.Row)], vals[:len(m.Vals)], memo[:len(m.Memo)]
	return given, func() bool {
		return slices.Equal(row, rowWas) && slices.Equal(vals, valsWas) && slices.Equal(memo, memoWas)
	}
}

func scribble(m machine) {
	for i := range m.Row[:cap(m.Row)] {
		m.Row[:cap(m.Row)][i] = !m.Row[:cap(m.Row)][i]
	}
	for i := range m.Vals[:cap(m.Vals)] {
		m.Vals[:cap(m.Vals)][i] += 100
	}
	for i := range m.Memo[:cap(m.Memo)] {
		m.Memo[:cap(m.Memo)][i] = seen{Key: "scribble", Ret: 100}
	}
}

// machineKeptApart calls f, and asks that nothing of m is written into, nor by what is done to the answer.
func machineKeptApart(t *testing.T, name string, m machine, f func(m machine) machine) {
	t.Helper()
	given, kept := spareRoom(m)
	got := f(given)
	asked := cloned(got)
	if !kept() || !sameMachine(given, m) {
		t.Fatalf("%s writes into %s", name, showMachine(m))
	}
	scribble(got)
	if !kept() {
		t.Fatalf("the answer of %s shares memory with %s", name, showMachine(m))
	}
	isMachine(t, name+" a second time", f(given), asked)
}

func TestMachinesWriteIntoNothing(t *testing.T) {
	keepsAll := func(m machine) {
		machineKeptApart(t, "MachineStep", m, impl.MachineStep)
		for _, n := range []int{0, 1, 2, 5, 100, longRun, -1, longRun + 1} {
			machineKeptApart(t, "MachineRun", m, func(m machine) machine { return impl.MachineRun(m, n) })
		}
		machineKeptApart(t, "MachineStart", m, func(m machine) machine {
			start, _ := impl.MachineStart(m.Row, m.Table, m.Room)
			return start
		})
		machineKeptApart(t, "the others", m, func(m machine) machine {
			v, over := impl.MachineVerdict(m)
			left, ok := impl.MachineLeft(m)
			return machine{Table: left, Ret: v, Steps: one(over), Looks: one(ok), Hits: one(impl.MachineOk(m))}
		})
	}
	for _, m := range rightMachines() {
		keepsAll(m)
		for _, spoil := range notOk() {
			wrong := cloned(m)
			spoil(&wrong)
			keepsAll(wrong)
		}
	}
	d := dice(128)
	for range 2000 {
		keepsAll(drawMachine(&d))
	}
	keepsAll(machine{})
	// on its way, where what is answered is handed in again
	m := started(t, flags("asasas"), evenTable(&d, 6), 2)
	for !m.Over {
		keepsAll(m)
		m = impl.MachineStep(m)
	}
}
