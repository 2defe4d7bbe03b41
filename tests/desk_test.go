package tests

import (
	"fmt"
	"math"
	"regexp"
	"slices"
	"strconv"
	"strings"
	"sync"
	"testing"

	"loop.example/g00116/impl"
)

const (
	mostScript = 30000
	mostLines  = 300
)

const long = "long\n"

// script is its lines, each with a newline.
func script(lines ...string) string {
	text := ""
	for _, line := range lines {
		text += line + "\n"
	}
	return text
}

// linesOf is what stands ahead of each newline of a text that ends with one, or is empty.
func linesOf(t *testing.T, text string) []string {
	t.Helper()
	if text != "" && !strings.HasSuffix(text, "\n") {
		t.Fatalf("no newline ends %s", shortText(text))
	}
	lines := strings.Split(text, "\n")
	return lines[:len(lines)-1]
}

// answers asks for the job and the text that a line is answered by.
func answers(t *testing.T, name string, j job, line string, asked job, text string) job {
	t.Helper()
	got, said := impl.DeskLine(j, line)
	if said != text {
		t.Fatalf("%s: DeskLine of %s, %.200q says %.200q, not %.200q", name, showJob(j), line, said, text)
	}
	isJob(t, fmt.Sprintf("%s: DeskLine of %s, %.200q", name, showJob(j), line), got, asked)
	return got
}

// asks asks that j stays as it is.
func asks(t *testing.T, name string, j job, line string, text string) {
	t.Helper()
	answers(t, name, j, line, j, text)
}

func deskSays(t *testing.T, name string, text string, asked string) {
	t.Helper()
	if got := impl.Desk(text); got != asked {
		t.Fatalf("%s: Desk of %.2000q is %.2000q, not %.2000q", name, text, got, asked)
	}
}

// beginsAsItsBeginnings is the first half of promise 14, with as many answers as lines.
func beginsAsItsBeginnings(t *testing.T, text string) {
	t.Helper()
	whole := impl.Desk(text)
	lines, told := linesOf(t, text), linesOf(t, whole)
	want(t, "how many answers", len(told), len(lines))
	for i := range len(lines) + 1 {
		deskSays(t, fmt.Sprint("the first ", i, " lines"), script(lines[:i]...), script(told[:i]...))
	}
}

// session asks for the answer of each line: line, answer, line, answer ..
func session(t *testing.T, name string, talk ...string) job {
	t.Helper()
	lines, told := []string{}, []string{}
	j := job{}
	for i := 0; i < len(talk); i += 2 {
		lines, told = append(lines, talk[i]), append(told, talk[i+1])
		next, said := impl.DeskLine(j, talk[i])
		if said != talk[i+1] {
			t.Fatalf("%s: line %d, %.200q, says %.200q, not %.200q", name, i/2+1, talk[i], said, talk[i+1])
		}
		if !impl.JobOk(next) {
			t.Fatalf("%s: not JobOk behind line %d is %s", name, i/2+1, showJob(next))
		}
		j = next
	}
	deskSays(t, name, script(lines...), script(told...))
	beginsAsItsBeginnings(t, script(lines...))
	return j
}

var (
	submitLine = regexp.MustCompile(`\Asubmit (0|[1-9][0-9]{0,8}) ((?s:.*))\z`)
	numberLine = regexp.MustCompile(`\A(step|crash) (0|[1-9][0-9]{0,8})\z`)
)

// opModel is the op of a line, where it has one.
func opModel(line string) (jobOp, bool) {
	switch line {
	case "save":
		return save(), true
	case "sync":
		return syncs(), true
	case "clear":
		return wipe(), true
	}
	if p := submitLine.FindStringSubmatch(line); p != nil {
		n, _ := strconv.Atoi(p[1])
		return submit(n, p[2]), true
	}
	if p := numberLine.FindStringSubmatch(line); p != nil {
		n, _ := strconv.Atoi(p[2])
		return jobOp{Kind: map[string]int{"step": 1, "crash": 4}[p[1]], N: n}, true
	}
	return jobOp{}, false
}

// lineOf is the line of an op whose number is 0 .. 999999999.
func lineOf(op jobOp) string {
	switch op.Kind {
	case impl.JobSubmit:
		return fmt.Sprintf("submit %d %s", op.N, op.Text)
	case impl.JobStep:
		return fmt.Sprintf("step %d", op.N)
	case impl.JobCrash:
		return fmt.Sprintf("crash %d", op.N)
	}
	return map[int]string{impl.JobSave: "save", impl.JobSync: "sync", impl.JobClear: "clear"}[op.Kind]
}

// lineModel does ops by do.
func lineModel(j job, line string, do func(j job, op jobOp) (job, int)) (job, string) {
	m := j.Machine
	op, isOp := opModel(line)
	isAsk := line == "status" || line == "left" || line == "win"
	switch {
	case !jobOkModel(j) || !isOp && !isAsk:
		return j, "what"
	case isOp:
		next, code := do(j, op)
		return next, fmt.Sprint("said ", code)
	case j.State == 0:
		return j, "none"
	case line == "left":
		return j, keyModel(leftModel(m))
	case line == "win":
		v := decided(m.Row, m.Table.Ones)
		return j, fmt.Sprintf("%d %d", len(winModel(m.Row, m.Table.Ones, v, nil)), v)
	case m.Over:
		return j, fmt.Sprintf("done %d %d %d %d", m.Ret, m.Steps, m.Looks, m.Hits)
	}
	return j, fmt.Sprintf("runs %d %d %d", m.Steps, m.Looks, m.Hits)
}

func deskModel(text string, do func(j job, op jobOp) (job, int)) string {
	parts := strings.SplitAfter(text, "\n")
	if len(text) > mostScript || parts[len(parts)-1] != "" || len(parts)-1 > mostLines {
		return long
	}
	j, told, said := job{}, "", ""
	for _, line := range parts[:len(parts)-1] {
		j, said = lineModel(j, strings.TrimSuffix(line, "\n"), do)
		told += said + "\n"
	}
	return told
}

// answersAsModel holds any line against the model, on a job with a short journal.
func answersAsModel(t *testing.T, name string, j job, line string) (job, string) {
	t.Helper()
	asked, text := lineModel(j, line, doModel)
	return answers(t, name, j, line, asked, text), text
}

func TestNumbersOfTheDesk(t *testing.T) {
	want(t, "MaxScript", impl.MaxScript, mostScript)
}

func TestSessionsAtTheDesk(t *testing.T) {
	j := session(t, "a sentence that is true",
		"status", "none", "left", "none", "win", "none", "step 1", "said 5", "save", "said 5", "clear", "said 5", "sync", "said 0", "crash 7", "said 0", "status", "none",
		"submit 2 "+sameBits, "said 0", "status", "runs 0 0 0", "left", "2:1001", "win", "2 1", "clear", "said 5", "submit 2 "+sameBits, "said 1",
		"step 1", "said 0", "status", "runs 1 0 0", "left", "1:10", "step 1", "said 0", "left", "0:1", "step 2", "said 0", "status", "runs 4 1 0", "left", "1:10", "win", "2 1",
		"save", "said 0", "crash 0", "said 0", "status", "runs 0 0 0", "left", "2:1001",
		"step 4", "said 0", "save", "said 0", "crash 71", "said 0", "status", "runs 0 0 0",
		"step 4", "said 0", "save", "said 0", "crash 76", "said 0", "status", "runs 4 1 0",
		"step 3", "said 0", "status", "runs 7 2 0", "crash 1000", "said 0", "status", "runs 4 1 0",
		"step 3", "said 0", "save", "said 0", "sync", "said 0", "step 1", "said 0", "crash 0", "said 0", "status", "runs 7 2 0",
		"step 100", "said 0", "status", "done 1 12 3 0", "left", "2:1001", "win", "2 1", "step 1", "said 5", "submit 2 "+sameBits, "said 1",
		"crash 0", "said 0", "status", "runs 7 2 0", "step 5", "said 0", "save", "said 0", "sync", "said 0", "crash 0", "said 0", "status", "done 1 12 3 0",
		"clear", "said 0", "status", "none", "left", "none", "win", "none", "crash 999999999", "said 0", "status", "none")
	isJob(t, "at the end", j, job{})
	j = session(t, "a sentence that is false",
		"submit 0 (some v0:1 (all v1:1 (= v0:1 v1:1)))", "said 0", "win", "2 0", "step 100000", "said 0", "status", "done 0 12 3 0", "left", "2:1001", "win", "2 0", "clear", "said 0", "status", "none",
		"submit 40 "+halving, "said 0", "left", "6:1000100000000000010001000000000000100010000000000001000100000000", "win", "3 0", "step 100000", "said 0", "clear", "said 0", "status", "none")
	isJob(t, "at the end", j, job{})
	session(t, "sentences without bits",
		"submit 1 #1:1", "said 0", "status", "runs 0 0 0", "left", "0:1", "win", "0 1", "step 0", "said 0", "status", "runs 0 0 0", "step 1", "said 0", "status", "runs 1 1 0", "step 1", "said 0", "status", "done 1 2 1 0", "left", "0:1", "win", "0 1", "clear", "said 0",
		"submit 1 #1:0", "said 0", "left", "0:0", "win", "0 0", "step 3", "said 0", "status", "done 0 2 1 0", "left", "0:0", "win", "0 0")
	session(t, "what is not taken",
		"submit 2 x", "said 2", "status", "none", "submit 2 v0:1", "said 3", "submit 41 "+sameBits, "said 4", "submit 2 (all v0:8 (some v1:5 #1:1))", "said 4", "status", "none", "what", "what", "", "what", "submit 40 "+sameBits, "said 0", "status", "runs 0 0 0", "submit 41 x", "said 1", "step 100001", "said 5", "what", "what", "status", "runs 0 0 0")
}

// A machine that finds what it has seen counts its Hits too.
func TestEachNumberOfAStatus(t *testing.T) {
	session(t, "hits",
		"submit 5 (all v0:1 (all v1:1 (some v2:1 (= v1:1 v2:1))))", "said 0", "left", "3:10011001", "step 100000", "said 0", "status", "done 1 16 3 1", "win", "4 1")
	for _, m := range append(savable(), rightMachines()...) {
		for _, counts := range [][3]int{{0, 0, 0}, {1, 2, 3}, {3, 2, 1}, {9, 10, 11}, {0, 0, 7}, {100000, 99999, 1}, {999999999, 1000000000, 1000000000}, {1000000000, 0, 0}} {
			counted := withCounts(m, counts[0], counts[1], counts[2])
			runs := fmt.Sprintf("runs %d %d %d", counts[0], counts[1], counts[2])
			if !m.Over {
				asks(t, "counts", job{State: 1, Machine: counted}, "status", runs)
			}
			ended := over(counted)
			ended.Vals = nil
			for v := range 2 {
				ended.Ret = v
				asks(t, "counts", job{State: 2, Machine: ended}, "status", fmt.Sprintf("done %d %d %d %d", v, counts[0], counts[1], counts[2]))
			}
		}
	}
	for _, j := range []job{{}, {Journal: "2:ab;x", Synced: 5}} {
		asks(t, "no job", j, "status", "none")
	}
}

// What is left, and how it is won, hang on the machine as it stands.
func TestLeftAndWinOnTheWay(t *testing.T) {
	for _, text := range []string{sameBits, undoing, halving, "#1:0", "(some v0:2 (all v1:2 (< v1:2 v0:2)))", "(all v0:1 (not v0:1))"} {
		for _, room := range []int{0, 2, impl.MaxRoom} {
			v, _ := impl.Holds(term(t, text))
			j := done(t, job{}, submit(room, text))
			list, _, _ := impl.Win(j.Machine.Row, j.Machine.Table)
			won := fmt.Sprintf("%d %d", len(list), v)
			checks(t, text, j.Machine.Row, j.Machine.Table, v, list, true)
			asks(t, "ahead of its first step", j, "left", keyModel(j.Machine.Table))
			for j.State != impl.JobDone {
				asks(t, "on its way", j, "left", keyModel(leftModel(j.Machine)))
				asks(t, "on its way", j, "win", won)
				j = done(t, j, step(1))
			}
			asks(t, "at its end", j, "left", keyModel(j.Machine.Table))
			asks(t, "at its end", j, "win", won)
		}
	}
	// the verdict of win is that of the table, that of a status the machine's
	wrong := job{State: 2, Machine: over(machineAt("as", "0110", 0, "", 0))}
	asks(t, "another Ret", wrong, "win", "2 1")
	asks(t, "another Ret", wrong, "status", "done 0 0 0 0")
	wrong.Machine = over(machineAt("sa", "0110", 0, "", 1))
	asks(t, "another Ret", wrong, "win", "2 0")
	asks(t, "another Ret", wrong, "status", "done 1 0 0 0")
	// Vals that no search comes to
	asks(t, "any Vals", job{State: 1, Machine: machineAt("asas", "0110100110010110", 3, "101", 1)}, "left", "1:01")
	asks(t, "any Vals", job{State: 1, Machine: machineAt("asas", "0110100110010110", 3, "1111", -1)}, "left", "0:0")
	asks(t, "any Vals", job{State: 1, Machine: machineAt("aaaa", "1111111111111111", 3, "", -1)}, "win", "0 1")
}

// isDoneAs asks for a status that tells the verdict v.
func isDoneAs(t *testing.T, name, status string, v int) {
	t.Helper()
	if !strings.HasPrefix(status, fmt.Sprintf("done %d ", v)) {
		t.Fatalf("%s is told to be %q, not %d", name, status, v)
	}
}

// isToldToBe is the second half of promise 14: the sentence is typed, given steps enough, and asked for.
func isToldToBe(t *testing.T, text string, room int, v int) {
	t.Helper()
	told := linesOf(t, impl.Desk(script(fmt.Sprintf("submit %d %s", room, text), "win", "step 100000", "status", "win")))
	want(t, "answers", len(told), 5)
	if told[0] != "said 0" || told[2] != "said 0" || told[1] != told[4] {
		t.Fatalf("typed as %s it is answered by %q", text, told)
	}
	isDoneAs(t, text, told[3], v)
	if !strings.HasSuffix(told[4], fmt.Sprint(" ", v)) {
		t.Fatalf("%s is won by %q, not %d", text, told[4], v)
	}
}

func TestSentencesTypedAtTheDesk(t *testing.T) {
	for text, v := range map[string]int{
		"#1:0": 0, "#1:1": 1, "(not #1:1)": 0, "(all v0:1 v0:1)": 0, "(some v0:1 v0:1)": 1, sameBits: 1, undoing: 1, halving: 0,
		"(some v0:1 (all v1:1 (= v0:1 v1:1)))":                                0,
		"(all v0:6 (some v1:6 (= (add v0:6 v1:6) #6:0)))":                     1,
		"(some v1:6 (all v0:6 (= (add v0:6 v1:6) #6:0)))":                     0,
		"(all v0:8 (some v1:4 (= (slice 4 4 v0:8) v1:4)))":                    1,
		"(all v0:4 (all v1:4 (some v2:4 (= (xor v0:4 v2:4) v1:4))))":          1,
		"(and (all v0:8 (= v0:8 v0:8)) (not (some v1:4 (< #4:15 v1:4))))":     1,
		"(all v0:3 (or (= v0:3 #3:0) (some v1:3 (= (mul v0:3 v1:3) #3:1))))":  0,
		"(some v7:5 (and (< v7:5 #5:9) (all v3:5 (= (div v3:5 v7:5) v3:5))))": 1,
		"(not (some v1:3 (all v0:3 (s< v1:3 (sub v0:3 v1:3)))))":              1,
	} {
		worth, _ := impl.Holds(term(t, text))
		want(t, "Holds of "+text, worth, v)
		for _, room := range rooms() {
			isToldToBe(t, text, room, v)
		}
	}
	d := dice(170)
	counts := [2]int{}
	for range 500 {
		text, v := drawnSentence(&d, impl.MaxBits)
		isToldToBe(t, text, d.below(impl.MaxRoom+1), v)
		counts[v]++
	}
	if slices.Min(counts[:]) < 50 {
		t.Errorf("%v verdicts are too few", counts)
	}
}

func drawDeskOp(d *dice, text string, part int) jobOp {
	op := drawOp(d, text, part)
	op.N = min(max(op.N, 0), 999999999)
	return op
}

// Interrupted as often as one likes, a typed sentence is told to be what it is worth.
func TestTypedSentencesThatAreInterrupted(t *testing.T) {
	d := dice(171)
	ends := [2]int{}
	for range 300 {
		text, v := drawnSentence(&d, 8)
		lines := []string{fmt.Sprintf("submit %d %s", d.below(impl.MaxRoom+1), text)}
		for range d.below(40) {
			line := lineOf(drawDeskOp(&d, text, 30))
			if line == "clear" || d.below(4) == 0 {
				line = []string{"status", "left", "win", "what now"}[d.below(4)]
			}
			if len(script(append(lines, line)...)) < mostScript-100 {
				lines = append(lines, line)
			}
		}
		lines = append(lines, "step 100000", "status", "win")
		told := linesOf(t, impl.Desk(script(lines...)))
		want(t, "how many answers", len(told), len(lines))
		for i, line := range lines {
			// on the way too, where it is done
			if line == "status" && strings.HasPrefix(told[i], "done") {
				isDoneAs(t, text, told[i], v)
				ends[one(i < len(lines)-2)]++
			}
			if line == "win" && !strings.HasSuffix(told[i], fmt.Sprint(" ", v)) {
				t.Fatalf("%s is won by %q, not %d", text, told[i], v)
			}
		}
		isDoneAs(t, text, told[len(told)-2], v)
	}
	if slices.Min(ends[:]) < 50 {
		t.Errorf("%v ends are too few", ends)
	}
}

func TestLinesAnswerAsTheirOps(t *testing.T) {
	ops := []jobOp{
		submit(0, sameBits), submit(40, undoing), submit(41, sameBits), submit(999999999, sameBits), submit(3, ""), submit(3, "x"), submit(3, " "), submit(3, "v0:1"), submit(3, textOf(t, nest(impl.OpAll, 8, 8))),
		step(0), step(1), step(5), step(100000), step(100001), step(999999999), save(), syncs(), crash(0), crash(1), crash(70), crash(1000), crash(999999999), wipe(),
	}
	same := func(j job) {
		t.Helper()
		for _, op := range ops {
			asked, code := impl.JobDo(j, op)
			answers(t, "an op", j, lineOf(op), asked, fmt.Sprint("said ", code))
		}
	}
	for _, j := range jobsOfEachState(t) {
		same(j)
		for _, op := range ops {
			next, _ := impl.JobDo(j, op)
			same(next)
		}
	}
	d := dice(172)
	for range 400 {
		if j := drawJob(&d); impl.JobOk(j) {
			same(j)
		}
	}
}

// A script of ops alone is JobRun of them.
func TestScriptsOfOps(t *testing.T) {
	d := dice(173)
	counts := [7]int{}
	for range 150 {
		text, _ := drawnSentence(&d, 7)
		ops, lines, said := []jobOp{}, []string{}, []string{}
		for range d.below(mostLines + 1) {
			op := drawDeskOp(&d, text, 20)
			if len(script(append(lines, lineOf(op))...)) > mostScript {
				break
			}
			ops, lines = append(ops, op), append(lines, lineOf(op))
		}
		_, codes := impl.JobRun(ops)
		for _, code := range codes {
			said = append(said, fmt.Sprint("said ", code))
			counts[code]++
		}
		deskSays(t, "ops", script(lines...), script(said...))
	}
	if min(counts[impl.SaidOk], counts[impl.SaidBusy], counts[impl.SaidNone]) < 300 {
		t.Errorf("%v codes are too few", counts)
	}
}

// answersAsItsLines asks that a script is told what its lines are, one by one.
func answersAsItsLines(t *testing.T, name string, lines ...string) {
	t.Helper()
	j, told := job{}, []string{}
	for _, line := range lines {
		next, said := impl.DeskLine(j, line)
		j, told = next, append(told, said)
	}
	deskSays(t, name, script(lines...), script(told...))
}

// Words stand in two places, for lines and for scripts: each of them is known in both.
func TestScriptsAnswerAsTheirLines(t *testing.T) {
	for _, line := range append(rightLines(), wrongLines()...) {
		if strings.Contains(line, "\n") || 3*len(line) > mostScript-1000 {
			continue
		}
		answersAsItsLines(t, "on no job", line, "status")
		answersAsItsLines(t, "on one that runs", "submit 2 "+sameBits, "step 4", line, "status", line, "left")
		answersAsItsLines(t, "on one that is done", "submit 2 "+sameBits, "step 100", line, "status", line, "win")
	}
	d := dice(192)
	for range 300 {
		text, _ := drawnSentence(&d, 5)
		lines := []string{}
		for range d.below(60) {
			lines = append(lines, drawLine(&d, text, 20))
		}
		if len(script(lines...)) <= mostScript {
			answersAsItsLines(t, "drawn", lines...)
		}
	}
}

func TestAJournalThatIsFullAtTheDesk(t *testing.T) {
	lines := []string{fmt.Sprintf("submit %d %s", impl.MaxRoom, "(all v0:6 (some v1:6 (= (add v0:6 v1:6) #6:0)))"), "step 100000"}
	for len(lines) < mostLines-8 {
		lines = append(lines, "save")
	}
	lines = append(lines, "status", "sync", "save", "crash 0", "save", "status", "clear", "status")
	text := script(lines...)
	told := linesOf(t, impl.Desk(text))
	deskSays(t, "a journal that is full", text, deskModel(text, impl.JobDo))
	full := slices.Index(told, "said 6")
	if full < 100 {
		t.Fatalf("full from line %d on", full)
	}
	for i, said := range told[:mostLines-8] {
		if said != fmt.Sprint("said ", 6*one(i >= full)) {
			t.Fatalf("line %d says %s", i+1, said)
		}
	}
	last := told[mostLines-8:]
	isDoneAs(t, "full", last[0], 1)
	isDoneAs(t, "full", last[5], 1)
	if !slices.Equal(slices.Delete(last, 5, 6)[1:], []string{"said 0", "said 6", "said 0", "said 6", "said 0", "none"}) {
		t.Fatalf("behind a full journal: %q", last)
	}
}

func TestTheEmptyScript(t *testing.T) {
	deskSays(t, "the empty script", "", "")
	deskSays(t, "an empty line", "\n", "what\n")
	deskSays(t, "two empty lines", "\n\n", "what\nwhat\n")
	deskSays(t, "an empty line between", "status\n\nstatus\n", "none\nwhat\nnone\n")
	deskSays(t, "an empty line ahead", "\nstatus\n", "what\nnone\n")
	deskSays(t, "an empty line behind", "status\n\n", "none\nwhat\n")
	asks(t, "an empty line", job{}, "", "what")
}

func TestTextsWithoutANewlineAtTheirEnd(t *testing.T) {
	for _, text := range []string{"status", "x", " ", "\r", "\x00", "submit 1 #1:1", "status\nstatus", "\nstatus", "\n ", "status\n\nx", "status\r", "status\n\r", "status\n\x00", "long", "what", "submit 1 " + sameBits + "\nstep 100000\nstatus", "status\n\n\n\n\n\n\nwin", "\v", "\u0085", "\u2028", strings.Repeat("x", mostScript), strings.Repeat("\n", 299) + "x", strings.Repeat("\n", 300) + "x"} {
		deskSays(t, "no newline at its end", text, long)
		if len(text) < 1000 && strings.Count(text, "\n") < 300 {
			lines := linesOf(t, impl.Desk(text+"\n"))
			want(t, "answers with a newline", len(lines), strings.Count(text, "\n")+1)
		}
	}
}

func TestBoundsOfTheScript(t *testing.T) {
	for _, ahead := range [][]string{{}, {"status"}, {"submit 2 " + sameBits, "step 4", "left"}, slices.Repeat([]string{"status"}, 299), slices.Repeat([]string{""}, 150)} {
		text := script(ahead...)
		told := impl.Desk(text)
		for pad, asked := range map[string]string{
			"x": "what\n", "0": "what\n", " ": "what\n", "\x00": "what\n", "\xff": "what\n",
			"submit 2 " + strings.Repeat("x", 4000): "said 2\n", "submit 2 " + strings.Repeat(" ", 4000): "said 2\n", "submit 2 #1:1": "said 2\n", "step 1": "what\n", "status ": "what\n",
		} {
			if strings.HasPrefix(pad, "submit") && len(ahead) == 3 {
				asked = "said 1\n"
			}
			// just so, one less and one more; of one line, it fills what is left
			line := func(size int) string {
				room := size - len(text) - 1
				return pad[:min(len(pad), room)] + strings.Repeat(pad[len(pad)-1:], max(0, room-len(pad))) + "\n"
			}
			for _, size := range []int{mostScript - 2, mostScript - 1, mostScript} {
				want(t, "bytes", len(text+line(size)), size)
				deskSays(t, "MaxScript", text+line(size), told+asked)
			}
			for _, size := range []int{mostScript + 1, mostScript + 2, 2 * mostScript, 1000000} {
				want(t, "bytes", len(text+line(size)), size)
				deskSays(t, "beyond MaxScript", text+line(size), long)
				deskSays(t, "beyond MaxScript, without a newline", strings.TrimSuffix(text+line(size), "\n"), long)
			}
		}
	}
	// of many lines
	sentence := "submit 2 " + sameBits + "\n"
	text := strings.Repeat(sentence, 299)
	for _, more := range []int{0, 1} {
		last := strings.Repeat("y", mostScript-len(text)-1+more) + "\n"
		asked := "said 0\n" + strings.Repeat("said 1\n", 298) + "what\n"
		if more == 1 {
			asked = long
		}
		deskSays(t, "many lines", text+last, asked)
	}
}

func TestBoundsOfTheLines(t *testing.T) {
	for line, asked := range map[string]string{"": "what", "status": "none", "x": "what", "sync": "said 0", "crash 3": "said 0", "win": "none", "submit 1 x": "said 2", "step 1": "said 5", " ": "what"} {
		for _, count := range []int{1, 2, 299, 300} {
			deskSays(t, "so many lines", strings.Repeat(line+"\n", count), strings.Repeat(asked+"\n", count))
		}
		for _, count := range []int{301, 302, 600, 30000} {
			deskSays(t, "too many lines", strings.Repeat(line+"\n", count), long)
			deskSays(t, "too many lines, without a newline", strings.Repeat("\n", count)+line+"x", long)
		}
	}
	// of three hundred lines that each do something, and one more
	lines := slices.Repeat([]string{"submit 2 " + sameBits, "step 100000", "clear"}, 100)
	deskSays(t, "a hundred sentences", script(lines...), strings.Repeat("said 0\n", 300))
	deskSays(t, "a hundred sentences, one line more", script(append(lines, "status")...), long)
	deskSays(t, "a hundred sentences, an empty line more", script(append(lines, "")...), long)
	deskSays(t, "a hundred sentences, a byte more", script(lines...)+"x", long)
}

// goodNumbers are of one digit up to nine.
func goodNumbers() []string {
	return []string{"0", "1", "2", "7", "9", "10", "40", "41", "99", "100", "1000", "99999", "100000", "100001", "12345678", "99999999", "100000000", "123456789", "999999999"}
}

func badNumbers() []string {
	return []string{
		"", "00", "01", "007", "000000000", "000000001", "0000000000", "00999999999", "1000000000", "1234567890", "9999999999", "2147483648", "4294967296", "4294967297", "9223372036854775807", "9223372036854775808", "18446744073709551616", "18446744073709551617", strings.Repeat("9", 100), "1" + strings.Repeat("0", 20000), strings.Repeat("0", 1000) + "1",
		"-1", "-0", "+1", "+0", "--1", "1-", "-", "+", "- 1", "1.0", "1.", ".1", "1e3", "1e0", "0x1", "0b1", "0o1", "1_0", "1_000", "1,000", "x", "1x", "x1", "one", "N", "R", "\t1", "1\t", "1\r", "\x001", "1\x00", "\xff", "１", "١", "1\u00a0", "#1", "1;", "(1)", "\"1\"", "NaN", "Inf", "1/1", ":1", "/", ":",
	}
}

func TestNumbersAtTheDesk(t *testing.T) {
	for _, j := range jobsOfEachState(t) {
		for _, digits := range goodNumbers() {
			n, _ := strconv.Atoi(digits)
			for _, op := range []jobOp{step(n), crash(n), submit(n, sameBits), submit(n, ""), submit(n, "x")} {
				asked, code := impl.JobDo(j, op)
				answers(t, "a number", j, lineOf(op), asked, fmt.Sprint("said ", code))
			}
		}
		for _, digits := range badNumbers() {
			for _, line := range []string{"step " + digits, "crash " + digits, "submit " + digits + " " + sameBits, "submit " + digits + " ", "submit " + digits + " x"} {
				asks(t, "no number", j, line, "what")
			}
		}
	}
	asks(t, "nine digits", job{}, "step 999999999", "said 5")
	asks(t, "ten digits", job{}, "step 1000000000", "what")
	asks(t, "nine digits", job{}, "submit 999999999 #1:1", "said 4")
	asks(t, "ten digits", job{}, "submit 1000000000 #1:1", "what")
	asks(t, "nine digits", job{}, "crash 999999999", "said 0")
	asks(t, "ten digits", job{}, "crash 1000000000", "what")
	session(t, "numbers of steps",
		"submit 9 "+sameBits, "said 0", "step 0", "said 0", "status", "runs 0 0 0", "step 00", "what", "step 01", "what", "status", "runs 0 0 0", "step 3", "said 0", "status", "runs 3 1 0", "step 100001", "said 5", "step 123456789", "said 5", "step 0000000003", "what", "status", "runs 3 1 0", "step 100000", "said 0", "status", "done 1 12 3 0")
}

// What stands behind the one blank behind the number is the text, whatever it is.
func TestTheRestOfALine(t *testing.T) {
	odd := []string{
		"", " ", "  ", "   ", " #1:1", "#1:1 ", " #1:1 ", "  #1:1", "#1:1  ", " " + sameBits, sameBits + " ", "#1:1 #1:1", "1 #1:1", "x", "x y", "x y z", "0", "00", "-1", "submit 1 #1:1", "status", "\t", "\t#1:1", "#1:1\t", "#1:1\r", "\r", "\x00", "#1:1\x00", "\x00#1:1", "\xff", "\xff\xfe", "é", "\u00a0", "\u00a0#1:1", "\ufeff#1:1", "(all v0:1  v0:1)", "( all v0:1 v0:1)", "(all v0:1 v0:1 )", "(all\tv0:1 v0:1)", "()", "(", ")", ";", "\"#1:1\"", "#1:1;", "#1:1,", sameBits[1:], sameBits[:len(sameBits)-1], strings.Repeat(" ", 5000), strings.Repeat("x", 5000), strings.Repeat("(not ", 1000), strings.Repeat("y", 1000000),
	}
	for _, rest := range odd {
		asks(t, "an odd rest", job{}, "submit 3 "+rest, "said 2")
		asks(t, "an odd rest", job{}, "submit 0 "+rest, "said 2")
		asks(t, "an odd rest, and too much room", job{}, "submit 41 "+rest, "said 2")
		for _, j := range jobsOfEachState(t)[2:] {
			asks(t, "an odd rest", j, "submit 3 "+rest, "said 1")
		}
		if len(rest) < mostScript-100 {
			deskSays(t, "an odd rest", script("submit 3 "+rest, "status", "submit 3 "+sameBits, "submit 3 "+rest, "status"), script("said 2", "none", "said 0", "said 1", "runs 0 0 0"))
		}
	}
	for _, rest := range []string{"v0:1", "#2:1", "(all v0:1 v1:1)", "(xor (all v0:1 v0:1) #1:1)"} {
		asks(t, "no sentence", job{}, "submit 3 "+rest, "said 3")
	}
	// without the blank there is no rest
	for _, line := range []string{"submit", "submit ", "submit  ", "submit   ", "submit 3", "submit  3", "submit  3 ", "submit #1:1", "submit #1:1 ", "submit  #1:1", "submit 3#1:1", "submit 3\t#1:1", "submit\t3 #1:1", "submit\t3\t#1:1", "submit3 #1:1", "submit  3 #1:1", " submit 3 #1:1", "submit 3(all v0:1 v0:1)", "submit #1:1 3", "submit \x003 #1:1", "submit 3\x00 #1:1", "submit\u00a03 #1:1"} {
		for _, j := range jobsOfEachState(t) {
			asks(t, "no rest", j, line, "what")
		}
	}
	// a sentence whose text is as long as one can be
	longest := longTerm()
	text := textModel(longest, len(longest)-1)
	_, code := impl.JobDo(job{}, submit(1, text))
	_, said := impl.DeskLine(job{}, "submit 1 "+text)
	if said != fmt.Sprint("said ", code) || len(text) < 3900 {
		t.Fatalf("a text of %d bytes: %s, not %d", len(text), said, code)
	}
}

func deskWords() []string {
	return []string{"submit", "step", "save", "sync", "crash", "clear", "status", "left", "win"}
}

func rightLines() []string {
	return []string{"submit 1 " + sameBits, "submit 2 x", "submit 41 " + undoing, "submit 3 ", "step 0", "step 5", "step 100000", "step 100001", "save", "sync", "crash 0", "crash 80", "crash 999999999", "clear", "status", "left", "win"}
}

// wrongLines are answered by what, on any job.
func wrongLines() []string {
	list := []string{
		"", " ", "  ", "\t", "\r", "\x00", "\xff", "what", "long", "none", "said", "said 0", "runs", "runs 0 0 0", "done", "done 1 2 3 4", "help", "quit", "exit", "x", "0", "1", "-", "#1:1", sameBits, "v0:1", "job", "run", "end", "verdict", "state", "load", "start", "go", "7 step", "3 submit #1:1", "step five", "stepp 5", "ste 5", "step5", "step-5", "status?", "status!", "status;", "status\r", "statusstatus", "status status", "status left", "left win", "win win", "save save", "save;sync", "wins", "lefts", "synced", "saved", "cleared", "clears", "clear all", "submits 1 #1:1", "submi 1 #1:1", "crashed 1", "crash1", "clear 0", "save 1", "sync 0", "status 0", "left 0", "win 1", "step 1 1", "step 1 x", "crash 1 1", "crash 1 0", "crash 0 x y", "step", "crash", "submit", "submit 1", strings.Repeat("status", 5000), strings.Repeat("status ", 5000), strings.Repeat(" ", 29999), "\ufeffstatus", "\u00a0status", "status\u00a0", "stаtus",
	}
	for _, word := range deskWords() {
		for _, behind := range []string{"", " 3", " 3 #1:1"} {
			line := word + behind
			list = append(list, " "+line, "  "+line, "\t"+line, "x "+line, "0 "+line, strings.ToUpper(word)+behind, strings.ToUpper(word[:1])+word[1:]+behind, word[1:]+behind, word[:len(word)-1]+behind, word+word+behind, word+"s"+behind, "\x00"+line, word+"\x00"+behind, word+"\t"+strings.TrimPrefix(behind, " "), word+" "+behind, word+"\n"+behind)
			// behind the number of a submit any rest may stand
			if word != "submit" {
				list = append(list, line+" ", line+"  ", line+"\t", line+"\r", line+"\x00", line+" x", line+" 3 x", line+"\u00a0")
			}
		}
	}
	return list
}

func TestLinesThatAreNone(t *testing.T) {
	for _, line := range wrongLines() {
		for _, j := range jobsOfEachState(t) {
			asks(t, "no line", j, line, "what")
		}
		if !strings.Contains(line, "\n") && 3*len(line) < mostScript-1000 {
			deskSays(t, "no line", script(line, "status", "submit 2 "+sameBits, "step 4", line, "status", "step 8", line, "status"), script("what", "none", "said 0", "said 0", "what", "runs 4 1 0", "said 0", "what", "done 1 12 3 0"))
		}
	}
	// words with what each of them does not take
	for _, word := range []string{"save", "sync", "clear", "status", "left", "win"} {
		for _, behind := range []string{" ", "  ", " 0", " 1", " 7 ", " x", " " + word, " 1 " + sameBits, "\t", "\r", "0"} {
			for _, j := range jobsOfEachState(t) {
				asks(t, "more than it takes", j, word+behind, "what")
			}
		}
	}
	for _, word := range []string{"step", "crash"} {
		for _, behind := range []string{"", " ", "  ", "  1", " 1 ", " 1  ", " 1 1", " 1 x", " x 1", " 1 " + sameBits, "  1 ", "1", "\t1"} {
			for _, j := range jobsOfEachState(t) {
				asks(t, "not what it takes", j, word+behind, "what")
			}
		}
	}
}

// A line that holds a newline is no line of a script: the newline is a byte like others in it.
func TestLinesThatHoldANewline(t *testing.T) {
	for _, j := range jobsOfEachState(t) {
		for _, line := range []string{"\n", "\n\n", "status\n", "\nstatus", "status\nstatus", "sta\ntus", "left\n", "win\n", "save\n", "sync\n", "clear\n", "save\nsync", "step 1\n", "step\n1", "step 1\nstep 1", "step \n1", "step\n 1", "crash 1\n", "crash\n1", "crash 0\nstatus", "submit\n1 #1:1", "submit 1\n#1:1", "submit 1\n", "submit\n", "submit 1\n #1:1", "submit \n1 #1:1", "status\r\n", " \n", "\n submit 1 #1:1", "step 5\n\n"} {
			asks(t, "a newline", j, line, "what")
		}
		for _, rest := range []string{"\n", "#1:1\n", "\n#1:1", "#1:1\nstatus", "x\ny", " \n ", sameBits + "\n", sameBits + "\nstep 5\n", "(all v0:1\nv0:1)", "(not\n#1:1)"} {
			code := impl.SaidText
			if j.State != impl.JobNone {
				code = impl.SaidBusy
			}
			asks(t, "a newline in the rest", j, "submit 2 "+rest, fmt.Sprint("said ", code))
		}
	}
}

// saysWhat asks that no line does anything to a job that is wrong.
func saysWhat(t *testing.T, name string, j job, lines []string) {
	t.Helper()
	if impl.JobOk(j) {
		t.Fatalf("%s: JobOk of %s", name, showJob(j))
	}
	for _, line := range lines {
		asks(t, name, j, line, "what")
	}
}

func TestJobsThatAreNoneAtTheDesk(t *testing.T) {
	lines := append(rightLines(), "", "x", "step", "status now", "submit 1", "\n")
	for _, j := range jobsOfEachState(t) {
		for _, state := range append(farNumbers(), -1, 3, 4, 7, 64, 0, 1, 2) {
			if state == j.State {
				continue
			}
			wrong := j
			wrong.State = state
			saysWhat(t, fmt.Sprint("a State of ", state), wrong, lines)
		}
		for _, synced := range []int{-1, math.MinInt, len(j.Journal) + 1, math.MaxInt} {
			wrong := j
			wrong.Synced = synced
			saysWhat(t, fmt.Sprint("Synced ", synced), wrong, lines)
		}
		wrong := j
		wrong.Journal = strings.Repeat("x", mostJournal+1)
		saysWhat(t, "beyond MaxJournal", wrong, lines)
	}
	for i, m := range append(savable(), rightMachines()...) {
		j := job{State: 1 + one(m.Over), Machine: m, Journal: "2:ab;", Synced: 3}
		for name, spoil := range notOk() {
			wrong := j
			wrong.Machine = cloned(m)
			spoil(&wrong.Machine)
			saysWhat(t, fmt.Sprint(name, " of machine ", i), wrong, []string{"status", "left", "win", "save", "step 3", "crash 9", "clear", "submit 1 #1:1", "sync", "", "x"})
		}
	}
	for name, m := range map[string]machine{"Row": {Row: []bool{true}}, "Steps": {Steps: 1}, "Over": {Over: true}, "Memo": {Memo: []seen{{}}}, "a table": {Table: tableOf(0, "0")}} {
		saysWhat(t, name, job{Machine: m}, lines)
	}
	saysWhat(t, "no machine", job{State: 1}, lines)
	saysWhat(t, "no machine", job{State: 2}, lines)
}

// drawLine is right more often than not.
func drawLine(d *dice, text string, part int) string {
	line := lineOf(drawDeskOp(d, text, part))
	if d.below(3) == 0 {
		line = deskWords()[d.below(9)]
	}
	switch d.below(16) {
	case 0:
		line = strings.ReplaceAll(worn(d, line), "\n", " ")
	case 1:
		line = wrongLines()[d.below(60)]
	case 2:
		line = []string{"step ", "crash ", "submit "}[d.below(3)] + []string{"0", "1", "00", "41", "999999999", "1000000000", "-1", ""}[d.below(8)] + []string{"", " ", " x", " #1:1", "  #1:1"}[d.below(5)]
	}
	return line
}

func TestDrawnLines(t *testing.T) {
	d := dice(174)
	texts := []string{sameBits, undoing, halving, "#1:1", "v0:1", "", "(all v0:8 (some v1:8 #1:1))"}
	counts := map[string]int{}
	for range 6000 {
		j := drawJob(&d)
		for range 1 + d.below(8) {
			line := drawLine(&d, texts[d.below(len(texts))], 30)
			said := ""
			j, said = answersAsModel(t, "drawn", j, line)
			word, _, _ := strings.Cut(said, " ")
			if word == "said" {
				word = said
			} else if strings.Contains(word, ":") || strings.Trim(word, "0123456789") == "" {
				word = "a key or picks"
			}
			counts[word]++
		}
	}
	for _, word := range []string{"said 0", "said 1", "said 2", "said 3", "said 4", "said 5", "none", "runs", "done", "what", "a key or picks"} {
		if counts[word] < 50 {
			t.Errorf("%d times %s is too few: %v", counts[word], word, counts)
		}
	}
}

func TestDrawnScripts(t *testing.T) {
	d := dice(175)
	longs, scripts := 0, 0
	for range 400 {
		text, _ := drawnSentence(&d, 5)
		lines := []string{}
		for range d.below(60) {
			lines = append(lines, drawLine(&d, text, 20))
		}
		drawn := script(lines...)
		if d.below(20) == 0 {
			drawn += "x"
		}
		asked := deskModel(drawn, doModel)
		deskSays(t, "drawn", drawn, asked)
		if asked == long {
			longs++
			continue
		}
		scripts++
		beginsAsItsBeginnings(t, drawn)
		// a line more changes none of the answers ahead of it
		if got := impl.Desk(drawn + "status\n"); len(drawn) < mostScript-10 && !strings.HasPrefix(got, asked) {
			t.Fatalf("with a line more, %.2000q is told by %.2000q", drawn, got)
		}
	}
	if longs < 10 || scripts < 200 {
		t.Errorf("%d scripts, %d that are none, are too few", scripts, longs)
	}
}

// Scripts of up to three hundred lines, with what is told of some beginnings.
func TestDrawnScriptsOfManyLines(t *testing.T) {
	d := dice(176)
	for range 60 {
		text, _ := drawnSentence(&d, 6)
		lines := []string{}
		for range 200 + d.below(120) {
			lines = append(lines, drawLine(&d, text, 10))
		}
		drawn := script(lines...)
		asked := deskModel(drawn, impl.JobDo)
		deskSays(t, "drawn", drawn, asked)
		want(t, "no script", one(asked == long), one(len(lines) > mostLines || len(drawn) > mostScript))
		if asked == long {
			continue
		}
		told := linesOf(t, asked)
		for range 10 {
			i := d.below(len(lines) + 1)
			deskSays(t, "a beginning", script(lines[:i]...), script(told[:i]...))
		}
	}
}

// Any bytes are a script or are not; whatever they are, they are answered.
func TestAnyBytesAtTheDesk(t *testing.T) {
	d := dice(177)
	for range 3000 {
		text := drawBytes(&d)
		if d.below(2) == 0 {
			text += "\n"
		}
		deskSays(t, "any bytes", text, deskModel(text, doModel))
		line := drawBytes(&d)
		answersAsModel(t, "any bytes", job{}, line)
		answersAsModel(t, "any bytes", job{}, "submit 1 "+line)
	}
	for b := range 256 {
		text := string([]byte{byte(b)})
		for _, drawn := range []string{text, text + "\n", "status" + text + "\n", text + "status\n", "sta" + text + "tus\n", "step" + text + "1\n", "submit 1 #1:1" + text + "\nstatus\n", "submit 1" + text + "#1:1\nstatus\n", "submit" + text + "1 #1:1\nstatus\n", "submit 1 #1:1\nstep " + text + "\nstatus\n", "submit 1 #1:1\nstep 1" + text + "\nstatus\n", "submit 1 #1:1\nstep " + text + "1\nstatus\n"} {
			deskSays(t, "any byte", drawn, deskModel(drawn, doModel))
		}
	}
}

func TestSentencesOfMostBitsAtTheDesk(t *testing.T) {
	const text = "(all v0:6 (some v1:6 (= (add v0:6 v1:6) #6:0)))"
	lines := []string{"submit 40 " + text}
	for range 20 {
		lines = append(lines, "left", "step 37", "status", "win", "save", "crash 5000")
	}
	lines = append(lines, "step 100000", "status", "left", "win", "clear", "status")
	told := linesOf(t, impl.Desk(script(lines...)))
	deskSays(t, "most bits", script(lines...), deskModel(script(lines...), impl.JobDo))
	want(t, "bytes of a key", len(told[1]), 3+power(impl.MaxBits))
	isDoneAs(t, text, told[len(told)-5], 1)
	// each of 64 values is answered by six bits
	for _, i := range []int{4, len(told) - 3} {
		if told[i] != "384 1" {
			t.Errorf("won by %s", told[i])
		}
	}
}

func TestTheDeskWritesIntoNothing(t *testing.T) {
	lines := append(rightLines(), "", "x", "step", "status now", "submit 1 "+undoing, "submit 1\n")
	keepsAll := func(j job) {
		t.Helper()
		for _, line := range lines {
			said := ""
			jobKeptApart(t, "DeskLine of "+line, j, func(j job) job {
				got, text := impl.DeskLine(j, line)
				if said != "" && said != text {
					t.Fatalf("DeskLine of %s, %q says %q, and then %q", showJob(j), line, said, text)
				}
				said = text
				return got
			})
		}
	}
	for _, j := range jobsOfEachState(t) {
		keepsAll(j)
		j.State++
		keepsAll(j)
		j.Synced = -1
		keepsAll(j)
	}
	for _, m := range append(savable(), rightMachines()...) {
		keepsAll(job{State: 1 + one(m.Over), Machine: m, Journal: journalOf("ab", rightText)})
		keepsAll(job{State: 2 - one(m.Over), Machine: m, Journal: journalOf("ab", rightText)})
	}
	d := dice(178)
	for range 200 {
		keepsAll(drawJob(&d))
	}
}

// What was answered stays as it was, whatever is done with it later.
func TestEarlierJobsOfTheDeskStayAsTheyWere(t *testing.T) {
	d := dice(179)
	for range 60 {
		text, _ := drawnSentence(&d, 6)
		jobs, were := []job{{}}, []job{{}}
		for range 40 {
			next, _ := impl.DeskLine(jobs[d.below(len(jobs))], drawLine(&d, text, 20))
			was := next
			was.Machine = cloned(next.Machine)
			jobs, were = append(jobs, next), append(were, was)
			if next.State == impl.JobDone {
				answers(t, "clear", next, "clear", job{}, "said 0")
			}
		}
		for i := range jobs {
			isJob(t, "a job of before", jobs[i], were[i])
		}
	}
}

// Nothing is kept from one script to another, nor between scripts at the same time.
func TestDesksSideBySide(t *testing.T) {
	d := dice(180)
	scripts, asked := []string{}, []string{}
	for range 24 {
		text, _ := drawnSentence(&d, 6)
		lines := []string{}
		for range 40 {
			lines = append(lines, drawLine(&d, text, 15))
		}
		scripts = append(scripts, script(lines...))
		asked = append(asked, deskModel(script(lines...), impl.JobDo))
	}
	got := make([][]string, len(scripts))
	var tellers sync.WaitGroup
	for i := range scripts {
		tellers.Go(func() {
			for k := range scripts {
				got[i] = append(got[i], impl.Desk(scripts[(i+k)%len(scripts)]))
			}
		})
	}
	tellers.Wait()
	for i := range scripts {
		for k := range scripts {
			if n := (i + k) % len(scripts); got[i][k] != asked[n] {
				t.Fatalf("beside others, Desk of %.2000q is %.2000q, not %.2000q", scripts[n], got[i][k], asked[n])
			}
		}
	}
}
