package tests

import (
	"fmt"
	"math"
	"regexp"
	"slices"
	"strconv"
	"strings"
	"testing"

	"loop.example/g00116/impl"
)

const mostBytes = 400000

// dashed is a text, '-' where it would be empty.
func dashed(text string) string {
	if text == "" {
		return "-"
	}
	return text
}

// saveModel is for machines that are right.
func saveModel(m machine) string {
	text := fmt.Sprintf("row %s\ntable %s\nroom %d\nvals %s\nret %d\nover %d\ncounts %d %d %d\n",
		dashed(showRow(m.Row)), keyModel(m.Table), m.Room, showVals(m.Vals), m.Ret, one(m.Over), m.Steps, m.Looks, m.Hits)
	for _, x := range m.Memo {
		text += fmt.Sprintf("seen %s %d\n", x.Key, x.Ret)
	}
	return text
}

// savedForm is what the text of any machine looks like, before its numbers are held against each other.
var savedForm = regexp.MustCompile(`\Arow (-|[as]+)\ntable (0|[1-9][0-9]?):([01]+)\nroom (0|[1-9][0-9]?)\nvals (-|[01]+)\nret (-1|0|1)\nover ([01])\n` +
	`counts (0|[1-9][0-9]{0,9}) (0|[1-9][0-9]{0,9}) (0|[1-9][0-9]{0,9})\n((?:seen [0-9:]+ [01]\n)*)\z`)

func numberIn(text string) int {
	n, _ := strconv.Atoi(text)
	return n
}

// loadModel asks a text for its form as a whole, and then what it tells for its bounds.
func loadModel(text string) (machine, bool) {
	p := savedForm.FindStringSubmatch(text)
	if p == nil || len(text) > mostBytes {
		return machine{}, false
	}
	m := machine{Row: flags(strings.Trim(p[1], "-")), Table: tableOf(numberIn(p[2]), p[3]), Room: numberIn(p[4]), Vals: digits(strings.Trim(p[5], "-")), Ret: numberIn(p[6]), Over: p[7] == "1",
		Steps: numberIn(p[8]), Looks: numberIn(p[9]), Hits: numberIn(p[10])}
	for _, line := range strings.Split(strings.TrimSuffix(p[11], "\n"), "\n") {
		if line == "" {
			continue
		}
		words := strings.Split(line, " ")
		if whereIs(m.Memo, words[1]) >= 0 {
			return machine{}, false
		}
		m.Memo = append(m.Memo, seen{Key: words[1], Ret: numberIn(words[2])})
	}
	right := m.Table.N <= 12 && len(m.Table.Ones) == power(m.Table.N) && len(m.Row) == m.Table.N && len(m.Vals) <= m.Table.N &&
		m.Room <= 40 && len(m.Memo) <= m.Room && !(m.Over && (m.Ret == -1 || len(m.Vals) > 0)) && max(m.Steps, m.Looks, m.Hits) <= mostSteps
	if !right {
		return machine{}, false
	}
	return m, true
}

func shortText(text string) string {
	if len(text) > 600 {
		return fmt.Sprintf("%q .. %q", text[:300], text[len(text)-200:])
	}
	return strconv.Quote(text)
}

func saves(t *testing.T, name string, m machine, asked string) {
	t.Helper()
	if text, ok := impl.SaveMachine(m); !ok || text != asked {
		t.Fatalf("%s: SaveMachine of %s is\n%s, %v, not\n%s", name, showMachine(m), shortText(text), ok, shortText(asked))
	}
}

func savesNot(t *testing.T, name string, m machine) {
	t.Helper()
	if text, ok := impl.SaveMachine(m); ok || text != "" {
		t.Fatalf("%s: SaveMachine of %s is\n%s, %v, not nothing", name, showMachine(m), shortText(text), ok)
	}
}

func loads(t *testing.T, name string, text string, asked machine) machine {
	t.Helper()
	m, ok := impl.LoadMachine(text)
	if !ok || !sameMachine(m, asked) {
		t.Fatalf("%s: LoadMachine of %s is\n%s, %v, not\n%s", name, shortText(text), showMachine(m), ok, showMachine(asked))
	}
	return m
}

func loadsNot(t *testing.T, name string, text string) {
	t.Helper()
	if m, ok := impl.LoadMachine(text); ok || !sameMachine(m, machine{}) {
		t.Fatalf("%s: LoadMachine of %s is\n%s, %v, not nothing", name, shortText(text), showMachine(m), ok)
	}
}

// loadsAsItIs holds any text against the model; what is read is just what SaveMachine writes.
func loadsAsItIs(t *testing.T, name string, text string) bool {
	t.Helper()
	asked, ok := loadModel(text)
	if !ok {
		loadsNot(t, name, text)
		return false
	}
	saves(t, name, loads(t, name, text, asked), text)
	return true
}

// comesBack is the first part of promise 11 for one machine that is right; it answers what came back.
func comesBack(t *testing.T, name string, m machine) machine {
	t.Helper()
	text := saveModel(m)
	saves(t, name, m, text)
	return loads(t, name, text, m)
}

func TestMaxSave(t *testing.T) {
	want(t, "MaxSave", impl.MaxSave, mostBytes)
}

func withCounts(m machine, steps, looks, hits int) machine {
	m.Steps, m.Looks, m.Hits = steps, looks, hits
	return m
}

func over(m machine) machine {
	m.Over = true
	return m
}

func TestMachinesAsTexts(t *testing.T) {
	for _, x := range []struct {
		m    machine
		text string
	}{
		{machineAt("", "0", 0, "", -1), "row -\ntable 0:0\nroom 0\nvals -\nret -1\nover 0\ncounts 0 0 0\n"},
		{machineAt("", "1", 40, "", -1), "row -\ntable 0:1\nroom 40\nvals -\nret -1\nover 0\ncounts 0 0 0\n"},
		{machineAt("a", "01", 1, "", -1), "row a\ntable 1:01\nroom 1\nvals -\nret -1\nover 0\ncounts 0 0 0\n"},
		{machineAt("s", "10", 0, "1", 0), "row s\ntable 1:10\nroom 0\nvals 1\nret 0\nover 0\ncounts 0 0 0\n"},
		{machineAt("as", "0110", 2, "", -1), "row as\ntable 2:0110\nroom 2\nvals -\nret -1\nover 0\ncounts 0 0 0\n"},
		{withCounts(machineAt("as", "0110", 2, "0", 1, "1:01=1"), 6, 2, 0), "row as\ntable 2:0110\nroom 2\nvals 0\nret 1\nover 0\ncounts 6 2 0\nseen 1:01 1\n"},
		{withCounts(machineAt("sa", "1001", 10, "01", -1, "1:10=0", "1:01=1", "2:1001=0"), 10, 200, 3000), "row sa\ntable 2:1001\nroom 10\nvals 01\nret -1\nover 0\ncounts 10 200 3000\nseen 1:10 0\nseen 1:01 1\nseen 2:1001 0\n"},
		{over(withCounts(machineAt("as", "0110", 2, "", 1, "1:10=1", "2:0110=1"), 12, 3, 0)), "row as\ntable 2:0110\nroom 2\nvals -\nret 1\nover 1\ncounts 12 3 0\nseen 1:10 1\nseen 2:0110 1\n"},
		{over(machineAt("", "0", 0, "", 0)), "row -\ntable 0:0\nroom 0\nvals -\nret 0\nover 1\ncounts 0 0 0\n"},
		{withCounts(machineAt("", "0", 40, "", 0), mostSteps, mostSteps, mostSteps), "row -\ntable 0:0\nroom 40\nvals -\nret 0\nover 0\ncounts 1000000000 1000000000 1000000000\n"},
		{withCounts(machineAt("", "0", 9, "", 1), 0, 999999999, 1), "row -\ntable 0:0\nroom 9\nvals -\nret 1\nover 0\ncounts 0 999999999 1\n"},
		{machineAt("sas", "01100110", 5, "110", 0, ":=1", "7=0", "0123456789:=1", "00:2=0", "::=0"), "row sas\ntable 3:01100110\nroom 5\nvals 110\nret 0\nover 0\ncounts 0 0 0\nseen : 1\nseen 7 0\nseen 0123456789: 1\nseen 00:2 0\nseen :: 0\n"},
		{machineAt("aaaa", "0111011101110111", 3, "0011", -1), "row aaaa\ntable 4:0111011101110111\nroom 3\nvals 0011\nret -1\nover 0\ncounts 0 0 0\n"},
	} {
		want(t, "the model", one(saveModel(x.m) == x.text), 1)
		saves(t, "as it stands", x.m, x.text)
		loads(t, "as it stands", x.text, x.m)
		want(t, "the model", one(loadsAsItIs(t, "as it stands", x.text)), 1)
	}
	// MaxBits bits, and as many values
	row, ones := "asasssaaasaa", strings.Repeat("0111010001101110", power(impl.MaxBits)/16)
	m := machineAt(row, ones, 7, "011010011001", 1, "12:"+ones+"=0", "11:"+ones[:power(11)]+"=1")
	text := "row " + row + "\ntable 12:" + ones + "\nroom 7\nvals 011010011001\nret 1\nover 0\ncounts 0 0 0\nseen 12:" + ones + " 0\nseen 11:" + ones[:power(11)] + " 1\n"
	saves(t, "twelve bits", m, text)
	loads(t, "twelve bits", text, m)
}

// goOnBeside runs what came back beside what was saved, step by step, so many steps or to the end.
func goOnBeside(t *testing.T, m, back machine, most int) {
	t.Helper()
	for range most {
		if m.Over {
			break
		}
		m, back = impl.MachineStep(m), impl.MachineStep(back)
		isMachine(t, "a step behind what came back", back, m)
	}
	isMachine(t, "at the end", impl.MachineRun(back, longRun), impl.MachineRun(m, longRun))
}

// Promise 11, step by step: every machine comes back at its start, on its way and at its end.
func TestMachinesOfFewBitsComeBack(t *testing.T) {
	full, values := 0, 0
	for i, x := range smallTables() {
		for k := range power(x.N) {
			row := rowAt(x.N, k)
			for _, room := range []int{0, 1, 3, impl.MaxRoom} {
				m := started(t, row, x, room)
				back := m
				// it is taken up from its text at each step
				for !m.Over {
					back = comesBack(t, "on its way", back)
					if (i+k+m.Steps)%11 == 0 {
						goOnBeside(t, m, back, 1000)
					}
					full += one(room > 0 && len(m.Memo) == room)
					values += one(len(m.Vals) == 3)
					m, back = impl.MachineStep(m), impl.MachineStep(back)
					isMachine(t, "taken up at each step", back, m)
				}
				back = comesBack(t, "at its end", back)
				isVerdict(t, "taken up at each step", back, decided(row, x.Ones))
				isMachine(t, "behind the end", impl.MachineStep(back), m)
			}
		}
	}
	if full < 1000 || values < 1000 {
		t.Errorf("%d full memories, %d machines with three values are too few", full, values)
	}
}

func TestMachinesOfManyBitsComeBack(t *testing.T) {
	d := dice(143)
	hits := 0
	eachRuled(144, func(row []bool, x table) {
		if x.N < 4 {
			return
		}
		for _, room := range []int{0, 1, 1 + d.below(10), impl.MaxRoom} {
			m := started(t, row, x, room)
			end := impl.MachineRun(m, longRun)
			part := max(1, end.Steps/5)
			for !m.Over {
				back := comesBack(t, "on its way", m)
				goOnBeside(t, m, back, 3)
				m = impl.MachineRun(back, 1+d.below(part))
			}
			isMachine(t, "taken up now and then", comesBack(t, "at its end", m), end)
			hits += m.Hits
		}
	})
	if hits < 1000 {
		t.Errorf("%d hits are too few", hits)
	}
}

// What was forgotten of a machine would change its way though not its verdict: beside each other to the end.
func TestMachinesGoOnAsIfNothingHadBeen(t *testing.T) {
	d := dice(145)
	for _, n := range []int{5, 7, 8} {
		for _, room := range []int{1, 2, 5, impl.MaxRoom} {
			m := started(t, drawRow(&d, n), evenTable(&d, n), room)
			end := impl.MachineRun(m, longRun)
			for _, steps := range []int{0, 1, 2, end.Steps / 3, end.Steps / 2, end.Steps - 1, end.Steps} {
				x := impl.MachineRun(m, steps)
				goOnBeside(t, x, comesBack(t, "on its way", x), longRun)
			}
		}
	}
	row, x := flags(strings.Repeat("as", 6)), evenTable(&d, impl.MaxBits)
	m := impl.MachineRun(started(t, row, x, impl.MaxRoom), 300)
	goOnBeside(t, m, comesBack(t, "twelve bits", m), 200)
}

func TestStepsInTwoParts(t *testing.T) {
	d := dice(146)
	inTwoParts := func(m machine, a, b int) {
		asked := impl.MachineRun(m, a+b)
		first := impl.MachineRun(m, a)
		isMachine(t, fmt.Sprint(a, " and ", b, " steps"), impl.MachineRun(first, b), asked)
		isMachine(t, fmt.Sprint(a, " and ", b, " steps, with a text between"), impl.MachineRun(comesBack(t, "between", first), b), asked)
	}
	eachRuled(147, func(row []bool, x table) {
		m := started(t, row, x, []int{0, 1, 2, impl.MaxRoom}[d.below(4)])
		steps := impl.MachineRun(m, longRun).Steps
		for _, part := range [][2]int{{0, 0}, {0, 1}, {1, 0}, {1, 1}, {0, 7}, {7, 0}, {1, 6}, {6, 1}, {3, 4}, {d.below(steps), d.below(steps)}, {steps, 1}, {steps - 1, 1}, {steps - 1, 5}, {steps + 3, 2}} {
			if x.N < 9 || d.below(4) == 0 {
				inTwoParts(m, part[0], part[1])
			}
		}
	})
	m := started(t, flags("asasasas"), evenTable(&d, 8), 3)
	for a := range 40 {
		for b := range 20 {
			inTwoParts(m, a, b)
		}
	}
	inTwoParts(m, longRun, 0)
	inTwoParts(m, 0, longRun)
	inTwoParts(m, 1, longRun-1)
}

// remembersWhatIsTrue is the last part of promise 11: each Key is that of a table of the row's last bits, with its verdict.
func remembersWhatIsTrue(t *testing.T, m machine) {
	t.Helper()
	for _, x := range m.Memo {
		left, ok := impl.ReadKey(x.Key)
		if !ok || left.N > m.Table.N || impl.TableKey(left) != x.Key {
			t.Fatalf("%.100q is remembered, but no table's key: %s", x.Key, showMachine(m))
		}
		row := m.Row[len(m.Row)-left.N:]
		decides(t, "what is remembered", row, left, x.Ret)
		want(t, "what is remembered", decided(row, left.Ones), x.Ret)
	}
}

func TestWhatIsRememberedIsTrue(t *testing.T) {
	d := dice(148)
	count := 0
	eachRuled(149, func(row []bool, x table) {
		for _, room := range []int{1, 1 + d.below(6), impl.MaxRoom} {
			m := started(t, row, x, room)
			for !m.Over {
				m = impl.MachineRun(m, 1+x.N*x.N*d.below(3))
				if d.below(2) == 0 {
					m = comesBack(t, "now and then", m)
				}
				remembersWhatIsTrue(t, m)
				count += len(m.Memo)
				if x.N > 9 {
					m = impl.MachineRun(m, 200)
				}
			}
			remembersWhatIsTrue(t, m)
		}
	})
	if count < 20000 {
		t.Errorf("%d memories are too few", count)
	}
}

func TestSentencesOutliveTheirTexts(t *testing.T) {
	d := dice(150)
	eachWorth(t, &d, func(row []bool, x table, v int) {
		m := started(t, row, x, d.below(impl.MaxRoom+1))
		end := impl.MachineRun(m, longRun)
		for !m.Over {
			m = comesBack(t, "a sentence", impl.MachineRun(m, 1+d.below(60)))
		}
		isVerdict(t, "what a sentence is worth", m, v)
		isMachine(t, "a sentence", m, end)
	})
}

// savable are machines that have a text, of each kind that there is.
func savable() []machine {
	full := machineAt("as", "0110", impl.MaxRoom, "10", 1)
	for i := range impl.MaxRoom {
		full.Memo = append(full.Memo, seen{Key: fmt.Sprint(i) + strings.Repeat(":", i%3), Ret: i % 2})
	}
	wide := machineAt(strings.Repeat("as", impl.MaxBits/2), constantTable(impl.MaxBits, 1).Ones, 3, strings.Repeat("01", impl.MaxBits/2), 0, "2:0110=1", "1:01=0")
	return []machine{
		machineAt("", "1", 0, "", -1), machineAt("", "0", 0, "", 1), machineAt("a", "01", 1, "", -1), machineAt("s", "01", 1, "1", 0), machineAt("as", "0110", 2, "1", -1, "1:01=1"), machineAt("as", "0110", 1, "10", 1, "1:01=1"),
		machineAt("sas", "01100110", 40, "101", 0, "1:01=1", "1:10=0", ":=0", "2:0110=1"), over(machineAt("as", "0110", 3, "", 1, "1:01=1", "2:0110=1")), over(machineAt("", "0", 0, "", 0)),
		withCounts(machineAt("aass", "0111011101110111", 12, "0110", 1, "0:0=0", "9=1"), 1234567, 890, 10), full, wide,
	}
}

func TestSavedMachinesAtTheirEdges(t *testing.T) {
	edges := map[string]func(m *machine){
		"as it is":            func(m *machine) {},
		"Room of 0":           func(m *machine) { m.Room, m.Memo = 0, nil },
		"Room of MaxRoom":     func(m *machine) { m.Room = impl.MaxRoom },
		"as many as Room":     func(m *machine) { m.Room = len(m.Memo) },
		"forty":               func(m *machine) { m.Room, m.Memo = impl.MaxRoom, manySeen(impl.MaxRoom) },
		"one, with room":      func(m *machine) { m.Room, m.Memo = 1, []seen{{Key: ":", Ret: 1}} },
		"all Vals, 1":         func(m *machine) { m.Over, m.Vals = false, slices.Repeat([]int{1}, len(m.Row)) },
		"all Vals, 0":         func(m *machine) { m.Over, m.Vals = false, make([]int, len(m.Row)) },
		"no Vals":             func(m *machine) { m.Over, m.Vals = false, nil },
		"empty lists":         func(m *machine) { m.Vals, m.Memo = []int{}, []seen{} },
		"Over with 0":         func(m *machine) { m.Over, m.Vals, m.Ret = true, nil, 0 },
		"Over with 1":         func(m *machine) { m.Over, m.Vals, m.Ret = true, nil, 1 },
		"a Ret of 0":          func(m *machine) { m.Ret = 0 },
		"a Ret of 1":          func(m *machine) { m.Ret = 1 },
		"a Ret of -1":         func(m *machine) { m.Over, m.Ret = false, -1 },
		"counts of 0":         func(m *machine) { m.Steps, m.Looks, m.Hits = 0, 0, 0 },
		"counts at the bound": func(m *machine) { m.Steps, m.Looks, m.Hits = mostSteps, mostSteps, mostSteps },
		"Steps at the bound":  func(m *machine) { m.Steps = mostSteps },
		"Looks at the bound":  func(m *machine) { m.Looks = mostSteps },
		"Hits at the bound":   func(m *machine) { m.Hits = mostSteps },
		"below the bound":     func(m *machine) { m.Steps, m.Looks, m.Hits = mostSteps-1, mostSteps-1, mostSteps-1 },
		"no tables' keys": func(m *machine) {
			m.Room, m.Memo = 12, []seen{{Key: "0"}, {Key: "00"}, {Key: ":"}, {Key: "::"}, {Key: "1:0", Ret: 1}, {Key: "01:01"}, {Key: "13:1"}, {Key: "2:2222"}, {Key: ":0110"}, {Key: "9:9:9"}, {Key: strings.Repeat("1", 5000)}, {Key: strings.Repeat(":", 5000)}}
		},
	}
	for name, f := range edges {
		for _, m := range savable() {
			right := cloned(m)
			f(&right)
			back := comesBack(t, name, right)
			for range 9 {
				right, back = impl.MachineStep(right), impl.MachineStep(back)
				isMachine(t, name, back, right)
				back = comesBack(t, name, right)
			}
		}
	}
	for room := range impl.MaxRoom + 1 {
		m := machineAt("as", "0110", room, "1", 0)
		m.Memo = manySeen(room)
		comesBack(t, "each room", m)
	}
	for digit := range 10 {
		for _, n := range []int{digit, 10 * digit, 10*digit + 9, 100 * digit, 123456780 + digit, 100000000 * digit} {
			comesBack(t, "each digit", withCounts(machineAt("as", "0110", 4, "1", 0), n, 0, 0))
			comesBack(t, "each digit", withCounts(machineAt("as", "0110", 4, "1", 0), 0, n, 7))
			comesBack(t, "each digit", withCounts(machineAt("as", "0110", 4, "1", 0), 3, 0, n))
		}
	}
}

func TestDrawnMachinesComeBack(t *testing.T) {
	d := dice(151)
	counts := [2]int{}
	for range 20000 {
		m := drawMachine(&d)
		right := true
		for _, x := range m.Memo {
			right = right && x.Key != "" && strings.Trim(x.Key, "0123456789:") == ""
		}
		counts[one(right)]++
		if !right {
			savesNot(t, "drawn", m)
			loadsNot(t, "drawn", saveModel(m))
			continue
		}
		goOnBeside(t, m, comesBack(t, "drawn", m), d.below(8))
	}
	if slices.Min(counts[:]) < 1000 {
		t.Errorf("%v machines are too few", counts)
	}
}

// longMachine has a text of just so many bytes: the last of its keys is as long as that takes.
func longMachine(t *testing.T, m machine, bytes int, sign string) machine {
	t.Helper()
	m = cloned(m)
	m.Memo = append(m.Memo, seen{Ret: 1})
	m.Room = max(m.Room, len(m.Memo))
	m.Memo[len(m.Memo)-1].Key = strings.Repeat(sign, bytes-len(saveModel(m)))
	want(t, "bytes", len(saveModel(m)), bytes)
	return m
}

func TestTextsOfMaxSaveBytes(t *testing.T) {
	thirty := machineAt(strings.Repeat("a", impl.MaxBits), constantTable(impl.MaxBits, 0).Ones, impl.MaxRoom, "0101", 1)
	for i := range 39 {
		thirty.Memo = append(thirty.Memo, seen{Key: fmt.Sprint(i) + strings.Repeat(":", 9000), Ret: i % 2})
	}
	for _, m := range []machine{machineAt("", "1", 1, "", -1), machineAt("as", "0110", 5, "1", 0, "1:01=1"), over(machineAt("as", "0110", 5, "", 0, "1:01=1", "0=1")), thirty} {
		for _, sign := range []string{"0", "9", ":"} {
			for _, bytes := range []int{mostBytes - 1, mostBytes} {
				x := longMachine(t, m, bytes, sign)
				goOnBeside(t, x, comesBack(t, "almost too long", x), 4)
			}
			for _, bytes := range []int{mostBytes + 1, mostBytes + 2, mostBytes + 11, 2 * mostBytes} {
				x := longMachine(t, m, bytes, sign)
				want(t, "MachineOk of a machine that is too long", one(impl.MachineOk(x)), 1)
				savesNot(t, "too long", x)
				loadsNot(t, "too long", saveModel(x))
			}
		}
	}
	// a machine that has come to be too long by a step, and one that has not by forgetting
	m := longMachine(t, machineAt("as", "0110", 2, "11", 1), mostBytes, "7")
	comesBack(t, "ahead of the step", m)
	savesNot(t, "behind the step", impl.MachineStep(m))
	m.Room = 1
	comesBack(t, "behind the step, with less room", impl.MachineStep(m))
	// what else is of so many bytes
	right := "row as\ntable 2:0110\nroom 2\nvals 0\nret 1\nover 0\ncounts 6 2 0\n"
	for _, sign := range []string{"\n", " ", "0", "a", ":", "-", "\x00", "seen 1:01 1\n", "seen  1\n", "row as\n", "1 ", " 1", "9\n"} {
		for _, bytes := range []int{mostBytes, mostBytes + 1, 10 * mostBytes} {
			many := strings.Repeat(sign, bytes/len(sign)+1)
			loadsNot(t, "very long", many[:bytes])
			for at := range len(right) + 1 {
				if at == len(right) || right[at] == ' ' || right[at] == '\n' || at == 0 {
					loadsNot(t, "very long", (right[:at] + many + right[at:])[:bytes])
				}
			}
		}
	}
}

func TestMachinesWithoutText(t *testing.T) {
	savesNot(t, "the zero value", machine{})
	savesNot(t, "no table", machine{Ret: -1})
	for i, m := range savable() {
		comesBack(t, "right", m)
		for name, spoil := range notOk() {
			wrong := cloned(m)
			spoil(&wrong)
			savesNot(t, fmt.Sprint(name, " of machine ", i), wrong)
		}
		if len(m.Row) > 0 {
			wrong := cloned(m)
			wrong.Row = wrong.Row[1:]
			savesNot(t, "a flag too few", wrong)
			wrong.Row = nil
			savesNot(t, "no flags", wrong)
		}
		for place := range m.Vals {
			for _, b := range append(farNumbers(), 2, 3, 48, 49) {
				wrong := cloned(m)
				wrong.Vals[place] = b
				savesNot(t, "a value that is no bit", wrong)
			}
		}
	}
	for _, x := range noTables() {
		m := machine{Row: make([]bool, max(0, min(x.N, 100))), Table: x, Ret: -1}
		savesNot(t, "no table", m)
		savesNot(t, "no table", machine{Table: x, Ret: -1})
		loadsNot(t, "no table", saveModel(m))
	}
	savesNot(t, "very much", machine{Row: make([]bool, 100000), Table: tableOf(2, "0110"), Vals: make([]int, 100000), Memo: manySeen(100000), Room: 40})
}

func TestKeysWithoutText(t *testing.T) {
	keyed := func(keys ...string) machine {
		m := machineAt("as", "0110", impl.MaxRoom, "1", 0)
		for i, key := range keys {
			m.Memo = append(m.Memo, seen{Key: key, Ret: i % 2})
		}
		return m
	}
	hasNone := func(m machine) {
		t.Helper()
		want(t, "MachineOk of "+showMachine(m), one(impl.MachineOk(m)), 1)
		savesNot(t, "another key", m)
		loadsNot(t, "another key", saveModel(m))
	}
	hasNone(keyed(""))
	hasNone(keyed("", "1:01"))
	hasNone(keyed("1:01", ""))
	hasNone(keyed("1:01", "", "1:10"))
	for sign := range 256 {
		other := string([]byte{byte(sign)})
		for _, key := range []string{other, other + "1:01", "1:" + other + "01", "1:01" + other, other + other, strings.Repeat("0", 3000) + other} {
			for _, m := range []machine{keyed(key), keyed("1:01", key), keyed(key, "1:01"), keyed("5", key, "1:01")} {
				if len(m.Memo) == len(saysAll(m.Memo)) {
					if sign >= '0' && sign <= ':' {
						comesBack(t, "a right key", m)
					} else {
						hasNone(m)
					}
				}
			}
		}
	}
	for _, key := range []string{"1:01 1", "1:01 1\nseen 1:10 0", "1:01\n", "\n", " ", "-", "-1", "+1", "1.5", "1:O1", "\u0661:01", "\u00b9", "\xff", "\x00", "key", "1:01\r", "\t1:01", "\uff10"} {
		hasNone(keyed(key))
		hasNone(keyed("1:01", key, "2:0110"))
	}
}

// saysAll has each Key once.
func saysAll(memo []seen) map[string]int {
	all := map[string]int{}
	for _, x := range memo {
		all[x.Key] = x.Ret
	}
	return all
}

// rightText tells four lines of Memo, room for one more, and a machine on its way.
const rightText = "row asa\ntable 3:01100111\nroom 5\nvals 10\nret 0\nover 0\ncounts 60 21 3\nseen 1:01 1\nseen 2:0110 0\nseen 7 1\nseen 12: 0\n"

func TestTextsWithLinesAmiss(t *testing.T) {
	for _, text := range []string{rightText, "row -\ntable 0:1\nroom 0\nvals -\nret 1\nover 1\ncounts 5 1 0\n", "row as\ntable 2:0110\nroom 1\nvals -\nret -1\nover 0\ncounts 0 0 0\nseen 0:0 0\n"} {
		want(t, "a right text", one(loadsAsItIs(t, "right", text)), 1)
		lines := strings.SplitAfter(strings.TrimSuffix(text, "\n"), "\n")
		lines[len(lines)-1] += "\n"
		for i, line := range lines {
			without := slices.Delete(slices.Clone(lines), i, i+1)
			// without a line of Memo there is still a machine, one that has forgotten it
			want(t, "a line too few", one(loadsAsItIs(t, "a line too few", strings.Join(without, ""))), one(i >= 7))
			loadsNot(t, "a line doubled", strings.Join(slices.Insert(slices.Clone(lines), i, line), ""))
			loadsNot(t, "cut off", strings.Join(lines[:min(i, 6)], ""))
			for at := range len(lines) {
				moved := strings.Join(slices.Insert(slices.Clone(without), at, line), "")
				want(t, "a line elsewhere", one(loadsAsItIs(t, "a line elsewhere", moved)), one(at == i || min(at, i) >= 7))
				loadsNot(t, "a line that comes again", strings.Join(slices.Insert(slices.Clone(lines), at, line), ""))
			}
			for _, more := range []string{"\n", " \n", "seen\n", "seen \n", "seen 1:11\n", "seen 1:11 \n", "seen  1\n", "seen 1:11 2\n", "seen 1:11 -1\n", "seen 1:11 01\n", "seen 1:11 1 1\n", "unseen 1:11 1\n", "Seen 1:11 1\n", "end\n", "row\n", "seen 1:11 1", "\r\n", "\x00\n"} {
				loadsNot(t, "a line put in", strings.Join(slices.Insert(slices.Clone(lines), i, more), ""))
				loadsNot(t, "a line put behind", text+more)
				loadsNot(t, "a line in the place of another", strings.Join(slices.Replace(slices.Clone(lines), i, i+1, more), ""))
			}
			for _, other := range []string{strings.ReplaceAll(line, " ", "  "), strings.ReplaceAll(line, " ", "\t"), strings.ReplaceAll(line, " ", ""), strings.Replace(line, " ", "  ", 1), " " + line, strings.TrimSuffix(line, "\n") + " \n", strings.TrimSuffix(line, "\n"), strings.TrimSuffix(line, "\n") + "\r\n", line + "\n", "\n" + line, strings.ToUpper(line), line[1:]} {
				loadsNot(t, "a line amiss", strings.Join(slices.Replace(slices.Clone(lines), i, i+1, other), ""))
			}
		}
		loadsNot(t, "without the last newline", text[:len(text)-1])
		loadsNot(t, "twice", text+text)
		loadsNot(t, "a byte ahead", "\ufeff"+text)
	}
	for _, text := range []string{"", " ", "\n", "\n\n", "-", "row", "row ", "row\n", "row -", "row -\n", "row as\n", "seen 1:01 1\n", "\n\n\n\n\n\n\n", "row \ntable \nroom \nvals \nret \nover \ncounts \n", "row\ntable\nroom\nvals\nret\nover\ncounts\n", "row -\ntable -\nroom -\nvals -\nret -\nover -\ncounts - - -\n", "\x00", "\xff\xfe", "row FLAGS\ntable KEY\nroom R\nvals VALS\nret RET\nover 0\ncounts STEPS LOOKS HITS\n"} {
		loadsNot(t, "no such text", text)
	}
}

// told is one line of rightText with another text behind its word.
func told(t *testing.T, word, behind string) string {
	t.Helper()
	lines := strings.Split(rightText, "\n")
	i := slices.IndexFunc(lines, func(line string) bool { return strings.HasPrefix(line, word+" ") })
	if i < 0 {
		t.Fatalf("no line of %s", word)
	}
	lines[i] = word + " " + behind
	return strings.Join(lines, "\n")
}

func TestTextsWithWordsAmiss(t *testing.T) {
	for word, behinds := range map[string][]string{
		"row":    {"asa", "aaa", "sss", "sas"},
		"table":  {"3:01100111", "3:00000000", "3:11111111", "3:10000001"},
		"room":   {"4", "5", "9", "10", "39", "40"},
		"vals":   {"-", "0", "1", "00", "11", "01", "000", "111", "101"},
		"ret":    {"-1", "0", "1"},
		"over":   {"0"},
		"counts": {"0 0 0", "1 0 0", "0 1 0", "0 0 1", "9 10 99", "1000000000 1000000000 1000000000", "999999999 0 1000000000", "0 1000000000 0"},
		"seen":   {"1:01 0", "1:01 1", "0 0", ": 1", ":: 0", "1:1 0", "0123456789 1", "99999999999999999999999999 1", "01:01 0", "00 0"},
	} {
		for _, behind := range behinds {
			want(t, word+" "+behind, one(loadsAsItIs(t, word, told(t, word, behind))), 1)
		}
	}
	noNumbers := []string{"", " ", "-", "--1", "-0", "+0", "+1", "-1 ", " 1", "1 ", "00", "01", "001", "-01", "0x1", "1e0", "1.0", "1_0", "0b1", "one", "true", "false", "a", "\u0661", "\u00b9", "1\x00", "-2", "2147483648 0", "4294967296", "4294967297", "9223372036854775807", "9223372036854775808", "-9223372036854775808", "-9223372036854775809", "18446744073709551616", "18446744073709551617", "99999999999999999999999999999", "-99999999999999999999999999999", strings.Repeat("0", 5000) + "1", strings.Repeat("9", 5000)}
	for _, n := range append(noNumbers, "41", "42", "100", "3", "2", "1", "0", "-1") {
		loadsNot(t, "room", told(t, "room", n))
	}
	for _, n := range append(noNumbers, "2", "3", "10", "11", "-10", "-11") {
		loadsNot(t, "ret", told(t, "ret", n))
		loadsNot(t, "over", told(t, "over", n))
		loadsNot(t, "seen", told(t, "seen", "1:01 "+n))
	}
	loadsNot(t, "over", told(t, "over", "-1"))
	loadsNot(t, "over with values", told(t, "over", "1"))
	loadsNot(t, "seen", told(t, "seen", "1:01 -1"))
	for _, n := range append(noNumbers, "-1", "1000000001", "1000000002", "2000000000", "10000000000") {
		for _, counts := range []string{n + " 0 0", "0 " + n + " 0", "0 0 " + n, n + " " + n + " " + n} {
			loadsNot(t, "counts", told(t, "counts", counts))
		}
	}
	for _, counts := range []string{"0", "0 0", "0 0 0 0", "0 0 0 1", "1 2", "000", "0,0,0", "0  0 0", "0 0  0", "0 0 0 ", " 0 0 0", "0:0:0", "- - -", "0 0 -", "0\t0\t0"} {
		loadsNot(t, "counts", told(t, "counts", counts))
	}
	for _, row := range []string{"", " ", "-", "a", "as", "asas", "aaaa", "as-", "-as", "a-a", "--", "---", "asb", "ASA", "as ", " as", "a s a", "a a", "as\x00", "as1", "101", "\u0430sa", "sa\u017f", strings.Repeat("a", 12), strings.Repeat("a", 13), strings.Repeat("s", 5000)} {
		loadsNot(t, "row", told(t, "row", row))
	}
	for _, vals := range []string{"", " ", "--", "-0", "0-", "-1", "+1", "2", "02", "20", "0a", "0 1", "1 ", " 1", "0000", "1111", "10101", "0\x00", "\u0661", "true", strings.Repeat("0", 12), strings.Repeat("1", 13), strings.Repeat("0", 64), strings.Repeat("1", 5000)} {
		loadsNot(t, "vals", told(t, "vals", vals))
	}
	for _, key := range wrongKeys() {
		loadsNot(t, "table", told(t, "table", key))
	}
	for _, key := range []string{"2:0110", "4:0110011101100111", "0:0", "1:01"} {
		loadsNot(t, "a table of other bits", told(t, "table", key))
	}
	for _, behind := range []string{"", " ", "1", " 1", "1:01", "1:01 ", "1:01  1", "1:01 1 ", "1:01 1 1", "- 1", "-1 1", "a 1", "1:0a 1", "1;01 1", "1:01,1", "2:0110 1", "7 0", "12: 1", "1/01 1", "\u0661 1"} {
		loadsNot(t, "seen", told(t, "seen", behind))
	}
}

// Just what the chapter allows together.
func TestTextsWhoseLinesDoNotFit(t *testing.T) {
	counts := [2]int{}
	for n := range 4 {
		for _, row := range []string{"-", "a", "sa", "sas"} {
			for _, vals := range []string{"-", "0", "10", "110", "0110"} {
				for _, ret := range []string{"-1", "0", "1"} {
					for _, over := range []string{"0", "1"} {
						for room := range 3 {
							text := fmt.Sprintf("row %s\ntable %d:%s\nroom %d\nvals %s\nret %s\nover %s\ncounts 1 2 3\n", row, n, constantTable(n, 1).Ones, room, vals, ret, over)
							for _, memo := range []string{"", "seen 1 1\n", "seen 1 1\nseen 0 1\n", "seen 1 1\nseen 1 1\n", "seen 1 1\nseen 1 0\n", "seen 1 1\nseen 2 0\nseen 3 0\n"} {
								counts[one(loadsAsItIs(t, "lines together", text+memo))]++
							}
						}
					}
				}
			}
		}
	}
	if slices.Min(counts[:]) < 200 {
		t.Errorf("%v texts are too few", counts)
	}
	for count := range impl.MaxRoom + 3 {
		text := "row -\ntable 0:0\nroom 40\nvals -\nret 1\nover 1\ncounts 5 1 0\n"
		for i := range count {
			text += fmt.Sprintf("seen %d 1\n", i)
		}
		want(t, fmt.Sprint(count, " lines of Memo"), one(loadsAsItIs(t, "so many", text)), one(count <= impl.MaxRoom))
	}
}

// oneByteOther calls f for text with each byte in turn changed, left out, put in, or turned with the next one.
func oneByteOther(text string, f func(text string)) {
	for at := range len(text) + 1 {
		for sign := range 256 {
			if at < len(text) {
				f(text[:at] + string([]byte{byte(sign)}) + text[at+1:])
			}
			f(text[:at] + string([]byte{byte(sign)}) + text[at:])
		}
		if at < len(text) {
			f(text[:at] + text[at+1:])
		}
		if at+1 < len(text) {
			f(text[:at] + text[at+1:at+2] + text[at:at+1] + text[at+2:])
		}
		f(text[:at])
		f(text[at:])
	}
}

func TestTextsWithOneByteOther(t *testing.T) {
	counts := [2]int{}
	texts := []string{
		rightText,
		"row -\ntable 0:1\nroom 0\nvals -\nret -1\nover 0\ncounts 0 0 0\n",
		"row as\ntable 2:0110\nroom 40\nvals 0\nret 1\nover 0\ncounts 1000000000 99 1000000000\nseen 1:01 1\n",
		"row s\ntable 1:10\nroom 4\nvals -\nret 0\nover 1\ncounts 4 10 100\nseen 1 0\nseen 10 0\nseen 11 1\nseen : 0\n",
	}
	for _, m := range savable() {
		if text := saveModel(m); len(text) < 1000 {
			texts = append(texts, text)
		}
	}
	for _, text := range texts {
		want(t, "a right text", one(loadsAsItIs(t, "right", text)), 1)
		oneByteOther(text, func(text string) { counts[one(loadsAsItIs(t, "one byte other", text))]++ })
	}
	if slices.Min(counts[:]) < 100 {
		t.Errorf("%v texts are too few", counts)
	}
	// a text with a table of twelve bits, at some of its places
	d := dice(152)
	text := saveModel(savable()[len(savable())-1])
	for range 3000 {
		at, sign := d.below(len(text)), string([]byte{byte(d.below(256))})
		loadsAsItIs(t, "one byte other", text[:at]+sign+text[at+1:])
		loadsAsItIs(t, "one byte more", text[:at]+sign+text[at:])
		loadsAsItIs(t, "one byte less", text[:at]+text[at+1:])
	}
}

// wornLines is a text with some of its bytes, words or lines gone, doubled, moved or turned into others.
func wornLines(d *dice, text string) string {
	const bytes = " \n-0123456789:asrowtablemvcunih"
	for range 1 + d.below(2) {
		lines := strings.SplitAfter(text, "\n")
		i, j, at := d.below(len(lines)), d.below(len(lines)), d.below(len(text)+1)
		switch k := d.below(len(bytes)); d.below(6) {
		case 0:
			lines[i], lines[j] = lines[j], lines[i]
			text = strings.Join(lines, "")
		case 1:
			text = strings.Join(slices.Delete(lines, i, i+1), "")
		case 2:
			text = strings.Join(slices.Insert(lines, i, lines[j]), "")
		case 3:
			text = text[:at] + bytes[k:k+1] + text[at:]
		case 4:
			text = text[:at] + bytes[k:k+1] + text[min(at+1, len(text)):]
		case 5:
			text = text[:at] + text[min(at+1+d.below(2), len(text)):]
		}
	}
	return text
}

func TestWornTextsOfMachines(t *testing.T) {
	d := dice(153)
	counts := [2]int{}
	for range 60000 {
		m := drawMachine(&d)
		counts[one(loadsAsItIs(t, "worn", wornLines(&d, saveModel(m))))]++
	}
	if slices.Min(counts[:]) < 3000 {
		t.Errorf("%v texts are too few", counts)
	}
}

func rowTextIs(t *testing.T, row []bool, asked string) {
	t.Helper()
	if got := impl.RowText(row); got != asked {
		t.Fatalf("RowText of %d flags, %.100s is %.100q, not %.100q", len(row), showRow(row[:min(len(row), 100)]), got, asked)
	}
}

func readsRow(t *testing.T, text string, asked []bool) {
	t.Helper()
	if row, ok := impl.ReadRow(text); !ok || !slices.Equal(row, asked) {
		t.Fatalf("ReadRow of %q is %v, %v, not %v", text, row, ok, asked)
	}
}

func readsNoRow(t *testing.T, text string) {
	t.Helper()
	if row, ok := impl.ReadRow(text); ok || len(row) > 0 {
		t.Fatalf("ReadRow of %.100q is %v, %v, not nothing", text, row, ok)
	}
}

// readsRowAsItIs asks the form of a text sign by sign.
func readsRowAsItIs(t *testing.T, text string) {
	t.Helper()
	if text == "-" {
		readsRow(t, text, nil)
	} else if text != "" && len(text) <= 12 && strings.Trim(text, "as") == "" {
		readsRow(t, text, flags(text))
	} else {
		readsNoRow(t, text)
	}
}

func TestRowsAsTexts(t *testing.T) {
	rowTextIs(t, nil, "-")
	rowTextIs(t, []bool{}, "-")
	rowTextIs(t, []bool{true}, "a")
	rowTextIs(t, []bool{false}, "s")
	rowTextIs(t, []bool{true, false}, "as")
	rowTextIs(t, []bool{false, true}, "sa")
	rowTextIs(t, []bool{false, false, true}, "ssa")
	readsRow(t, "-", nil)
	readsRow(t, "a", []bool{true})
	readsRow(t, "s", []bool{false})
	readsRow(t, "as", []bool{true, false})
	readsRow(t, "assa", []bool{true, false, false, true})
	for n := range impl.MaxBits + 1 {
		for i := range power(n) {
			row := rowAt(n, i)
			rowTextIs(t, row, dashed(showRow(row)))
			readsRow(t, dashed(showRow(row)), row)
		}
	}
	// a row of more flags has a text, but no text of so many is read
	for _, n := range []int{impl.MaxBits + 1, impl.MaxBits + 2, 24, 64, 65, 256, 100000} {
		for _, sign := range []string{"a", "s", "as", "saa"} {
			text := strings.Repeat(sign, n)[:n]
			rowTextIs(t, flags(text), text)
			readsNoRow(t, text)
		}
	}
}

func TestTextsThatAreNoRow(t *testing.T) {
	for _, text := range []string{
		"", " ", "--", "-a", "a-", "s-s", "- ", " -", "-\n", "a ", " a", "a s", "a\n", "\na", "A", "S", "As", "b", "t", "0", "1", "01", "true", "all", "as\x00", "\x00", "\x00as", "\u0430", "\u017f", "\xe1", "\xf3", "\xff", "a,s", "row as", "\u2013", "\u2212",
		strings.Repeat("a", impl.MaxBits) + "-", "-" + strings.Repeat("a", impl.MaxBits), strings.Repeat("a", impl.MaxBits) + " ", strings.Repeat("-", 100000), strings.Repeat(" ", 100000),
	} {
		readsNoRow(t, text)
	}
	for _, text := range []string{"-", "a", "s", "sa", "asas", "aaaaaaaaaaa", "asasasasasas", "ssssssssssss"} {
		oneByteOther(text, func(text string) { readsRowAsItIs(t, text) })
	}
	signs := []string{"a", "s", "-", "b", " ", "0"}
	for _, x := range signs {
		for _, y := range signs {
			for _, z := range signs {
				readsRowAsItIs(t, x+y)
				readsRowAsItIs(t, x+y+z)
			}
		}
	}
}

func readsKey(t *testing.T, text string, asked table) {
	t.Helper()
	if x, ok := impl.ReadKey(text); !ok || x != asked {
		t.Fatalf("ReadKey of %.100q is %s, %v, not %s", text, short(x), ok, short(asked))
	}
}

func readsNoKey(t *testing.T, text string) {
	t.Helper()
	if x, ok := impl.ReadKey(text); ok || x != (table{}) {
		t.Fatalf("ReadKey of %.100q is %s, %v, not nothing", text, short(x), ok)
	}
}

// readsKeyAsItIs looks for the text among the keys of as many bits.
func readsKeyAsItIs(t *testing.T, text string) {
	t.Helper()
	for n := range 13 {
		prefix := fmt.Sprint(n) + ":"
		ones, begins := strings.CutPrefix(text, prefix)
		if begins && len(ones) == power(n) && strings.Trim(ones, "01") == "" {
			readsKey(t, text, tableOf(n, ones))
			return
		}
	}
	readsNoKey(t, text)
}

func TestKeysAsTables(t *testing.T) {
	readsKey(t, "0:0", tableOf(0, "0"))
	readsKey(t, "0:1", tableOf(0, "1"))
	readsKey(t, "1:01", tableOf(1, "01"))
	readsKey(t, "2:0110", tableOf(2, "0110"))
	readsKey(t, "3:10000001", tableOf(3, "10000001"))
	readsKey(t, "10:"+constantTable(10, 1).Ones, constantTable(10, 1))
	readsKey(t, "12:"+constantTable(12, 0).Ones, constantTable(12, 0))
	eachTable(154, func(x table) {
		readsKey(t, keyModel(x), x)
		readsKey(t, impl.TableKey(x), x)
		back, _ := impl.ReadKey(impl.TableKey(x))
		if impl.TableKey(back) != impl.TableKey(x) {
			t.Fatalf("%s comes back as %s", short(x), short(back))
		}
	})
}

func wrongKeys() []string {
	list := []string{
		"", ":", "::", " ", "0", "1", "01", "0:", "1:", "2:", ":0", ":1", ":01", "1:0", "1:1", "1:011", "0:00", "0:01", "2:01", "2:011", "2:01100", "3:0110", "01:01", "00:0", "00:1", "002:0110", "02:0110", "+1:01", "-1:01", "-0:0", "+0:1", "--1:01", " 1:01", "1 :01", "1: 01", "1:01 ", "1:0 1", "1:01\n", "\n1:01", "1\n:01", "1::01", "1:01:", ":1:01", "1:0:1", "1;01", "1.01", "101", "1:02", "1:21", "1:0a", "1:O1", "1:\x00\x01", "x:01", "a", "-", "-:-", "1:-", "1:--", "0x1:01", "1e0:01", "1_0:01", "0b1:01", "\u0661:01", "1:\u0660\u0661", "\u00b9:01", "1\uff1a01", "1:\u00e9", "\xb1:01", "1:\xb0\xb1",
		"-1:", "-1:0", "-1:1", "13:0", "63:0", "64:1", "62:01", "65:01", "4294967296:1", "4294967297:01", "9223372036854775807:1", "9223372036854775808:1", "-9223372036854775808:1", "18446744073709551616:1", "18446744073709551617:01", "99999999999999999999999999:01", strings.Repeat("0", 5000) + "1:01", strings.Repeat("1", 5000) + ":01", strings.Repeat("1", 5000), strings.Repeat(":", 5000),
	}
	for n := range impl.MaxBits + 1 {
		ones := constantTable(n, 1).Ones
		for _, key := range []string{ones, ":" + ones, fmt.Sprint(n) + ones, fmt.Sprint(n) + ":" + ones + "1", fmt.Sprint(n) + ":" + ones[1:], "0" + fmt.Sprint(n) + ":" + ones, "+" + fmt.Sprint(n) + ":" + ones, "-" + fmt.Sprint(n) + ":" + ones, fmt.Sprint(n+1) + ":" + ones, fmt.Sprint(n-1) + ":" + ones, fmt.Sprint(n) + ":2" + ones[1:], fmt.Sprint(n) + ":" + ones[1:] + "/"} {
			list = append(list, key)
		}
	}
	return append(list, keyModel(constantTable(impl.MaxBits+1, 0)), keyModel(constantTable(impl.MaxBits+1, 1)), keyModel(constantTable(16, 1)))
}

func TestTextsThatAreNoKey(t *testing.T) {
	for _, text := range wrongKeys() {
		readsNoKey(t, text)
	}
	for _, x := range noTables() {
		if x.N != math.MinInt {
			readsNoKey(t, keyModel(x))
		}
	}
	for _, text := range []string{"0:0", "0:1", "1:01", "2:0110", "3:01100111", "4:0110011101100111"} {
		oneByteOther(text, func(text string) { readsKeyAsItIs(t, text) })
	}
	long := keyModel(constantTable(10, 1))
	for at := range 12 {
		for _, sign := range []string{"", "0", "1", "2", ":", "00", "a", "\n"} {
			readsKeyAsItIs(t, long[:at]+sign+long[at:])
			readsKeyAsItIs(t, long[:at]+sign+long[at+1:])
		}
	}
}

func TestSavingWritesIntoNothing(t *testing.T) {
	keepsAll := func(m machine) {
		t.Helper()
		machineKeptApart(t, "SaveMachine", m, func(m machine) machine {
			text, ok := impl.SaveMachine(m)
			again, _ := impl.SaveMachine(m)
			return machine{Table: tableOf(0, text), Over: ok, Steps: one(text == again)}
		})
		machineKeptApart(t, "LoadMachine of SaveMachine", m, func(m machine) machine {
			text, _ := impl.SaveMachine(m)
			back, _ := impl.LoadMachine(text)
			// what is written into one answer is not to be seen in the next
			scribble(back)
			back, _ = impl.LoadMachine(text)
			return back
		})
		rowsKeptApart(t, "RowText", m.Row, func(row []bool) []bool {
			text := impl.RowText(row)
			back, _ := impl.ReadRow(text)
			return back
		})
		for _, x := range m.Memo {
			table, ok := impl.ReadKey(x.Key)
			if ok && impl.TableKey(table) != x.Key {
				t.Fatalf("ReadKey of %.100q is %s", x.Key, short(table))
			}
		}
	}
	for _, m := range append(savable(), rightMachines()...) {
		keepsAll(m)
		for _, spoil := range notOk() {
			wrong := cloned(m)
			spoil(&wrong)
			keepsAll(wrong)
		}
	}
	d := dice(155)
	for range 2000 {
		keepsAll(drawMachine(&d))
	}
	keepsAll(machine{})
	// on its way, where what is answered is handed in again
	m := started(t, flags("asasas"), evenTable(&d, 6), 2)
	for !m.Over {
		keepsAll(m)
		m = impl.MachineStep(comesBack(t, "on its way", m))
	}
}
