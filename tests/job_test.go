package tests

import (
	"fmt"
	"math"
	"slices"
	"strings"
	"testing"

	"loop.example/g00116/impl"
)

type job = impl.Job

type jobOp = impl.JobOp

const mostOps = 300

func submit(room int, text string) jobOp { return jobOp{Kind: impl.JobSubmit, N: room, Text: text} }

func step(n int) jobOp { return jobOp{Kind: impl.JobStep, N: n} }

func save() jobOp { return jobOp{Kind: impl.JobSave} }

func syncs() jobOp { return jobOp{Kind: impl.JobSync} }

func crash(n int) jobOp { return jobOp{Kind: impl.JobCrash, N: n} }

func wipe() jobOp { return jobOp{Kind: impl.JobClear} }

// sameBits is true, and its machine has a way to go: row as, table 1001.
const sameBits = "(all v0:1 (some v1:1 (= v0:1 v1:1)))"

// undoing is true, of four bits.
const undoing = "(all v0:2 (some v1:2 (= (add v0:2 v1:2) #2:0)))"

// halving is false, of six bits.
const halving = "(all v0:3 (some v1:3 (= (shl v1:3 #3:1) v0:3)))"

func showJob(j job) string {
	return fmt.Sprintf("state %d, synced %d of %d: %s, machine %s", j.State, j.Synced, len(j.Journal), shortText(j.Journal), showMachine(j.Machine))
}

func showOp(op jobOp) string { return fmt.Sprintf("{%d %d %.100q}", op.Kind, op.N, op.Text) }

func sameJob(a, b job) bool {
	return a.State == b.State && a.Journal == b.Journal && a.Synced == b.Synced && sameMachine(a.Machine, b.Machine)
}

func isJob(t *testing.T, name string, got, asked job) {
	t.Helper()
	if !sameJob(got, asked) {
		t.Fatalf("%s is\n%s\nnot\n%s", name, showJob(got), showJob(asked))
	}
}

// does asks for the job and the code that an op makes of j.
func does(t *testing.T, name string, j job, op jobOp, asked job, code int) job {
	t.Helper()
	got, said := impl.JobDo(j, op)
	if said != code {
		t.Fatalf("%s: JobDo of %s, %s says %d, not %d", name, showJob(j), showOp(op), said, code)
	}
	isJob(t, name+": JobDo of "+showJob(j)+", "+showOp(op), got, asked)
	return got
}

// refuses asks that j stays as it is.
func refuses(t *testing.T, name string, j job, op jobOp, code int) {
	t.Helper()
	does(t, name, j, op, j, code)
}

// done asks for SaidOk alone, and answers the job.
func done(t *testing.T, j job, ops ...jobOp) job {
	t.Helper()
	for _, op := range ops {
		next, said := impl.JobDo(j, op)
		if said != impl.SaidOk {
			t.Fatalf("JobDo of %s, %s says %d", showJob(j), showOp(op), said)
		}
		if !impl.JobOk(next) {
			t.Fatalf("JobDo of %s, %s is not JobOk: %s", showJob(j), showOp(op), showJob(next))
		}
		j = next
	}
	return j
}

func hasVerdict(t *testing.T, name string, j job, asked int) {
	t.Helper()
	if v, ok := impl.JobVerdict(j); !ok || v != asked {
		t.Fatalf("%s: JobVerdict of %s is %d, %v, not %d", name, showJob(j), v, ok, asked)
	}
}

func hasNoVerdict(t *testing.T, name string, j job) {
	t.Helper()
	if v, ok := impl.JobVerdict(j); ok || v != 0 {
		t.Fatalf("%s: JobVerdict of %s is %d, %v, not nothing", name, showJob(j), v, ok)
	}
}

// comesToVerdict ends a job that has a machine, and asks for its verdict.
func comesToVerdict(t *testing.T, name string, j job, asked int) job {
	t.Helper()
	end, said := impl.JobEnd(j)
	if j.State == impl.JobDone {
		want(t, name+": the code of JobEnd", said, impl.SaidNone)
		isJob(t, name+": JobEnd", end, j)
	} else {
		want(t, name+": the code of JobEnd", said, impl.SaidOk)
		isMachine(t, name+": JobEnd", end.Machine, impl.MachineRun(j.Machine, longRun))
	}
	want(t, name+": the State of JobEnd", end.State, impl.JobDone)
	hasVerdict(t, name, end, asked)
	return end
}

func jobOkModel(j job) bool {
	right := len(j.Journal) <= mostJournal && j.Synced >= 0 && j.Synced <= len(j.Journal)
	switch j.State {
	case 0:
		return right && sameMachine(j.Machine, machine{})
	case 1, 2:
		return right && impl.MachineOk(j.Machine) && j.Machine.Over == (j.State == 2)
	}
	return false
}

// firstModel is the machine that a submitted text makes, and a code.
func firstModel(text string, room int) (machine, int) {
	x, code, _ := readModel(text)
	if code != 0 {
		return machine{}, 2
	}
	if !sentenceModel(x) {
		return machine{}, 3
	}
	if bitsModel(x) > 12 || room < 0 || room > 40 {
		return machine{}, 4
	}
	q, rest := quantsModel(x, len(x)-1, 0), restModel(x)
	m := machine{Room: room, Ret: -1}
	for _, y := range q {
		m.Row = append(m.Row, slices.Repeat([]bool{y.All}, y.Bits)...)
	}
	m.Table = tableBy(len(m.Row), func(bits []int) bool { return valueModel(rest, len(rest)-1, envAt(q, bits)) == 1 })
	return m, 0
}

// writeModel puts the text of m behind a journal, where there is place for it.
func writeModel(journal string, m machine) (string, bool) {
	text := saveModel(m)
	for _, x := range m.Memo {
		if x.Key == "" || strings.Trim(x.Key, "0123456789:") != "" {
			return journal, false
		}
	}
	if len(text) > mostBytes || len(journal)+len(recordModel(text)) > mostJournal {
		return journal, false
	}
	return journal + recordModel(text), true
}

func runModel(m machine, n int) machine {
	for range n {
		next := stepModel(m)
		if next.Steps == m.Steps {
			break
		}
		m = next
	}
	return m
}

func crashModel(j job, n int) job {
	bytes := []byte(j.Journal[:j.Synced])
	for i := j.Synced; i < len(j.Journal) && n > 0; i++ {
		bytes = append(bytes, j.Journal[i])
		n--
	}
	texts, end := recordsModel(string(bytes))
	left := job{Journal: string(bytes[:end]), Synced: end}
	if len(texts) > 0 {
		if m, ok := loadModel(texts[len(texts)-1]); ok {
			left.Machine, left.State = m, 1+one(m.Over)
		}
	}
	return left
}

// doModel is for jobs with short journals: it looks for records by trying.
func doModel(j job, op jobOp) (job, int) {
	if !jobOkModel(j) || op.Kind < 0 || op.Kind > 5 {
		return j, 5
	}
	next := j
	wrote := true
	switch op.Kind {
	case 0:
		if j.State != 0 {
			return j, 1
		}
		code := 0
		if next.Machine, code = firstModel(op.Text, op.N); code != 0 {
			return j, code
		}
		next.Journal, wrote = writeModel(j.Journal, next.Machine)
		next.State, next.Synced = 1, len(next.Journal)
	case 1:
		if j.State != 1 || op.N < 0 || op.N > 100000 {
			return j, 5
		}
		next.Machine = runModel(j.Machine, op.N)
		next.State = 1 + one(next.Machine.Over)
	case 2:
		if j.State == 0 {
			return j, 5
		}
		next.Journal, wrote = writeModel(j.Journal, j.Machine)
	case 3:
		next.Synced = len(j.Journal)
	case 4:
		next = crashModel(j, op.N)
	case 5:
		if j.State != 2 {
			return j, 5
		}
		next = job{}
	}
	if !wrote {
		return j, 6
	}
	return next, 0
}

// doesAsModel holds any op against the model, and answers the job and the code.
func doesAsModel(t *testing.T, name string, j job, op jobOp) (job, int) {
	t.Helper()
	asked, code := doModel(j, op)
	return does(t, name, j, op, asked, code), code
}

func TestNumbersOfJobs(t *testing.T) {
	for i, n := range []int{impl.JobNone, impl.JobRuns, impl.JobDone} {
		want(t, "the number of a state", n, i)
	}
	for i, n := range []int{impl.JobSubmit, impl.JobStep, impl.JobSave, impl.JobSync, impl.JobCrash, impl.JobClear} {
		want(t, "the number of an op", n, i)
	}
	for i, n := range []int{impl.SaidOk, impl.SaidBusy, impl.SaidText, impl.SaidFalse, impl.SaidBig, impl.SaidNone, impl.SaidFull} {
		want(t, "the number of a code", n, i)
	}
}

func TestAJobFromItsBeginningToItsEnd(t *testing.T) {
	const first = "61:row as\ntable 2:1001\nroom 2\nvals -\nret -1\nover 0\ncounts 0 0 0\n;"
	start := job{State: 1, Machine: machineAt("as", "1001", 2, "", -1), Journal: first, Synced: len(first)}
	j := does(t, "submit", job{}, submit(2, sameBits), start, impl.SaidOk)
	hasNoVerdict(t, "submitted", j)

	stepped := start
	stepped.Machine = withCounts(machineAt("as", "1001", 2, "0", 1, "1:10=1"), 4, 1, 0)
	j = does(t, "four steps", j, step(4), stepped, impl.SaidOk)
	hasNoVerdict(t, "on its way", j)
	does(t, "a crash without a save", j, crash(1000), start, impl.SaidOk)

	const second = "72:row as\ntable 2:1001\nroom 2\nvals 0\nret 1\nover 0\ncounts 4 1 0\nseen 1:10 1\n;"
	saved := stepped
	saved.Journal = first + second
	j = does(t, "save", j, save(), saved, impl.SaidOk)
	does(t, "a crash without a sync", j, crash(0), start, impl.SaidOk)
	does(t, "a crash with a part of the record", j, crash(len(second)-1), start, impl.SaidOk)
	safe := saved
	safe.Synced = len(first + second)
	does(t, "a crash with all of the record", j, crash(len(second)), safe, impl.SaidOk)
	j = does(t, "sync", j, syncs(), safe, impl.SaidOk)
	does(t, "a crash behind a sync", j, crash(-1), safe, impl.SaidOk)

	end := safe
	end.State = 2
	end.Machine = over(withCounts(machineAt("as", "1001", 2, "", 1, "1:01=1", "2:1001=1"), 12, 3, 0))
	j = does(t, "all steps", j, step(1000), end, impl.SaidOk)
	hasVerdict(t, "at the end", j, 1)
	does(t, "a crash behind the end", j, crash(5), safe, impl.SaidOk)

	const third = "87:row as\ntable 2:1001\nroom 2\nvals -\nret 1\nover 1\ncounts 12 3 0\nseen 1:01 1\nseen 2:1001 1\n;"
	written := end
	written.Journal += third
	j = does(t, "save at the end", j, save(), written, impl.SaidOk)
	kept := written
	kept.Synced = len(written.Journal)
	does(t, "a crash that leaves the end", j, crash(math.MaxInt), kept, impl.SaidOk)
	does(t, "a crash that does not", j, crash(len(third)-1), safe, impl.SaidOk)
	does(t, "clear", j, wipe(), job{}, impl.SaidOk)

	ops := []jobOp{submit(2, sameBits), step(4), save(), syncs(), step(1000), save(), crash(math.MaxInt)}
	got, codes := impl.JobRun(ops)
	isJob(t, "JobRun", got, kept)
	isList(t, "the codes of JobRun", codes, 0, 0, 0, 0, 0, 0, 0)
	got, codes = impl.JobRun(append(ops, wipe(), save()))
	isJob(t, "JobRun", got, job{})
	isList(t, "the codes of JobRun", codes, 0, 0, 0, 0, 0, 0, 0, 0, 5)
}

func TestFirstMachines(t *testing.T) {
	for text, asked := range map[string]machine{
		"#1:0": machineAt("", "0", 7, "", -1), "#1:1": machineAt("", "1", 7, "", -1), "(not #1:1)": machineAt("", "0", 7, "", -1),
		"(all v0:1 v0:1)": machineAt("a", "01", 7, "", -1), "(some v3:1 (not v3:1))": machineAt("s", "10", 7, "", -1), "(not (some v3:1 (not v3:1)))": machineAt("a", "01", 7, "", -1),
		sameBits: machineAt("as", "1001", 7, "", -1), undoing: machineAt("aass", "1000000100100100", 7, "", -1),
		"(some v1:2 (all v0:1 (< v1:2 #2:2)))":               machineAt("ssa", "11110000", 7, "", -1),
		"(and (all v0:1 v0:1) (some v1:1 (all v2:1 v1:1)))":  machineAt("asa", "00000011", 7, "", -1),
		"(or (not (all v5:1 v5:1)) (not (some v2:1 v2:1)))":  machineAt("sa", "1110", 7, "", -1),
		"(all v0:2 (= v0:2 v0:2))":                           machineAt("aa", "1111", 7, "", -1),
		"(all v7:1 (some v0:2 (= (join #1:0 v7:1) v0:2)))":   machineAt("ass", "10000100", 7, "", -1),
		"(some v0:1 (not (all v1:1 (if v0:1 v1:1 #1:1))))":   machineAt("ss", "0010", 7, "", -1),
		"(all v4:3 (some v2:1 (= v2:1 (slice 2 1 v4:3))))":   machineAt("aaas", "1010101001010101", 7, "", -1),
		"(all v0:1 (some v1:1 (all v2:1 (or v0:1 #1:1))))":   machineAt("asa", "11111111", 7, "", -1),
		"(some v0:1 (and v0:1 (all v1:1 (or v0:1 v1:1))))":   machineAt("sa", "0011", 7, "", -1),
		"(not (and (all v0:1 v0:1) (not (some v1:1 v1:1))))": machineAt("ss", "1101", 7, "", -1),
	} {
		j := done(t, job{}, submit(7, text))
		record := recordModel(saveModel(asked))
		isJob(t, text, j, job{State: 1, Machine: asked, Journal: record, Synced: len(record)})
		v, _ := impl.Holds(term(t, text))
		comesToVerdict(t, text, j, v)
	}
}

func drawnSentence(d *dice, most int) (string, int) {
	for {
		x := drawSentence(d)
		text, ok := impl.ShowTerm(x)
		if !ok || impl.Bits(x) > most {
			continue
		}
		v, _ := impl.Holds(x)
		return text, v
	}
}

func TestSubmittedSentences(t *testing.T) {
	d := dice(160)
	counts := [2]int{}
	for range 400 {
		text, v := drawnSentence(&d, 8)
		room := d.below(impl.MaxRoom + 1)
		j, _ := doesAsModel(t, "drawn", job{}, submit(room, text))
		want(t, "Synced", j.Synced, len(j.Journal))
		comesToVerdict(t, text, j, v)
		counts[v]++
	}
	if slices.Min(counts[:]) < 50 {
		t.Errorf("%v verdicts are too few", counts)
	}
}

// story is a job as it has come about by its ops from the zero value on: of
// each record the machine that it tells, and where it ends.
type story struct {
	text    string
	v       int
	now     job
	written []machine
	ends    []int
}

func (s story) told() story {
	s.written, s.ends = slices.Clone(s.written), slices.Clone(s.ends)
	return s
}

func (s *story) write() int {
	journal, ok := writeModel(s.now.Journal, s.now.Machine)
	if !ok {
		return impl.SaidFull
	}
	s.now.Journal = journal
	s.written, s.ends = append(s.written, s.now.Machine), append(s.ends, len(journal))
	return impl.SaidOk
}

// lose cuts the journal off behind so many bytes that were not safe.
func (s *story) lose(more int) {
	bytes := s.now.Synced + max(0, min(more, len(s.now.Journal)-s.now.Synced))
	left := 0
	for left < len(s.ends) && s.ends[left] <= bytes {
		left++
	}
	s.written, s.ends = s.written[:left], s.ends[:left]
	if left == 0 {
		s.now = job{}
		return
	}
	m, end := s.written[left-1], s.ends[left-1]
	s.now = job{State: 1 + one(m.Over), Machine: m, Journal: s.now.Journal[:end], Synced: end}
}

// do answers the code. What is submitted is the text of the story.
func (s *story) do(t *testing.T, op jobOp) int {
	t.Helper()
	state := s.now.State
	switch {
	case op.Kind == impl.JobSubmit && state != impl.JobNone:
		return impl.SaidBusy
	case op.Kind == impl.JobSubmit:
		q, rest, _ := impl.Front(term(t, s.text))
		x, _ := impl.TableOf(q, rest)
		s.now.Machine = started(t, impl.Rows(q), x, op.N)
		s.now.State = impl.JobRuns
		s.write()
		s.now.Synced = len(s.now.Journal)
	case op.Kind == impl.JobStep && state != impl.JobRuns, op.Kind == impl.JobSave && state == impl.JobNone, op.Kind == impl.JobClear && state != impl.JobDone:
		return impl.SaidNone
	case op.Kind == impl.JobStep:
		s.now.Machine = runModel(s.now.Machine, op.N)
		s.now.State += one(s.now.Machine.Over)
	case op.Kind == impl.JobSave:
		return s.write()
	case op.Kind == impl.JobSync:
		s.now.Synced = len(s.now.Journal)
	case op.Kind == impl.JobCrash:
		s.lose(op.N)
	case op.Kind == impl.JobClear:
		*s = story{text: s.text, v: s.v}
	}
	return impl.SaidOk
}

// goesOn does an op at a job and in its story, and is promise 13 for both.
func (s *story) goesOn(t *testing.T, j job, op jobOp) (job, int) {
	t.Helper()
	before := j
	code := s.do(t, op)
	j = does(t, s.text, j, op, s.now, code)
	if !impl.JobOk(j) {
		t.Fatalf("%s: not JobOk is %s", s.text, showJob(j))
	}
	if before.State != impl.JobNone && j.State == impl.JobNone && op.Kind != impl.JobClear {
		t.Fatalf("%s: lost by %s is %s", s.text, showOp(op), showJob(before))
	}
	if op.Kind == impl.JobCrash {
		s.nothingSafeIsLost(t, before, j)
	}
	if j.State == impl.JobDone {
		hasVerdict(t, s.text, j, s.v)
	} else {
		hasNoVerdict(t, s.text, j)
	}
	return j, code
}

// nothingSafeIsLost asks too that what is there was written, and that the machine is the last that was.
func (s *story) nothingSafeIsLost(t *testing.T, before, after job) {
	t.Helper()
	if !strings.HasPrefix(after.Journal, before.Journal[:before.Synced]) {
		t.Fatalf("%s: of what was safe is lost: %s, left %s", s.text, showJob(before), showJob(after))
	}
	if !strings.HasPrefix(before.Journal, after.Journal) {
		t.Fatalf("%s: not written is %s, but only %s", s.text, showJob(after), showJob(before))
	}
	want(t, "Synced behind a crash", after.Synced, len(after.Journal))
	if len(s.written) > 0 {
		isMachine(t, "taken up", after.Machine, s.written[len(s.written)-1])
	}
}

// Promise 13 for all orders of some ops behind a submit, with an end of each.
func TestJobsInManyOrders(t *testing.T) {
	ops := []jobOp{step(1), step(5), save(), syncs(), crash(-1), crash(60), crash(math.MaxInt)}
	for _, text := range []string{sameBits, "(some v0:1 (all v1:1 (= v0:1 v1:1)))"} {
		s := story{text: text}
		s.v, _ = impl.Holds(term(t, text))
		j, _ := s.goesOn(t, job{}, submit(1, text))
		count := 0
		var from func(s story, j job, more int)
		from = func(s story, j job, more int) {
			count++
			comesToVerdict(t, text, j, s.v)
			if more == 0 {
				return
			}
			for _, op := range ops {
				next := s.told()
				k, _ := next.goesOn(t, j, op)
				from(next, k, more-1)
			}
		}
		from(s, j, 5)
		want(t, "how many orders", count, 1+7+49+343+2401+16807)
	}
}

func drawOp(d *dice, text string, part int) jobOp {
	switch d.below(12) {
	case 0:
		return submit(d.below(impl.MaxRoom+1), text)
	case 1, 2, 3, 4:
		return step(d.below(part + 1))
	case 5, 6, 7:
		return save()
	case 8:
		return syncs()
	case 9:
		return crash(d.below(1+d.below(2000)) - 5)
	case 10:
		return crash([]int{0, -1, 1, math.MinInt, math.MaxInt, 100, 1000}[d.below(7)])
	}
	return wipe()
}

// Promise 13 for drawn sentences and drawn ops, JobRun of which is JobDo one by one.
func TestJobsOutliveTheirInterruptions(t *testing.T) {
	d := dice(161)
	counts := [7]int{}
	states := [3]int{}
	for range 150 {
		text, v := drawnSentence(&d, 7)
		s := story{text: text, v: v}
		part := 1 + d.below(40)
		j, ops, codes := job{}, []jobOp{}, []int{}
		for range d.below(mostOps + 1) {
			op := drawOp(&d, text, part)
			code := 0
			j, code = s.goesOn(t, j, op)
			ops, codes = append(ops, op), append(codes, code)
			counts[code]++
			states[j.State]++
		}
		got, said := impl.JobRun(ops)
		isJob(t, "JobRun", got, j)
		isList(t, "the codes of JobRun", said, codes...)
		if j.State == impl.JobNone {
			j, _ = s.goesOn(t, j, submit(3, text))
		}
		comesToVerdict(t, text, j, v)
	}
	if min(counts[impl.SaidOk], counts[impl.SaidBusy], counts[impl.SaidNone], states[0], states[1], states[2]) < 300 {
		t.Errorf("%v codes, %v states are too few", counts, states)
	}
}

// A job that only ever goes on by what it has saved comes to its end, however small the parts are.
func TestJobsThatAreAlwaysCutOff(t *testing.T) {
	for _, text := range []string{sameBits, undoing, halving, "#1:0"} {
		v, _ := impl.Holds(term(t, text))
		for _, part := range []int{1, 2, 3, 7, 1000, longRun} {
			for _, room := range []int{0, 3, impl.MaxRoom} {
				j := done(t, job{}, submit(room, text))
				whole := impl.MachineRun(j.Machine, longRun)
				for j.State != impl.JobDone {
					safe := done(t, j, step(part), save(), syncs())
					j = safe
					if j.State == impl.JobRuns {
						// steps whose record is not whole are gone, and so are those that were not saved
						j = done(t, done(t, j, step(part), save()), crash(len(j.Journal)%40))
						isJob(t, text, j, safe)
						j = done(t, j, step(part), crash(math.MaxInt))
					}
					isJob(t, text, j, safe)
				}
				hasVerdict(t, text, j, v)
				isMachine(t, text, j.Machine, whole)
			}
		}
	}
}

func TestJobsOfMostBits(t *testing.T) {
	for text, v := range map[string]int{
		"(all v0:6 (some v1:6 (= (add v0:6 v1:6) #6:0)))":                                           1,
		"(some v1:6 (all v0:6 (= (add v0:6 v1:6) #6:0)))":                                           0,
		"(all v0:4 (some v1:4 (all v2:4 (or (< v0:4 v1:4) (= (and v0:4 v1:4) (and v0:4 #4:15))))))": 1,
		"(all v0:8 (some v1:4 (= (slice 4 4 v0:8) v1:4)))":                                          1,
	} {
		want(t, text, impl.Bits(term(t, text)), impl.MaxBits)
		for _, room := range []int{0, 2, impl.MaxRoom} {
			s := story{text: text, v: v}
			j, _ := s.goesOn(t, job{}, submit(room, text))
			comesToVerdict(t, text, j, v)
			for _, op := range []jobOp{step(300), save(), step(200), save(), crash(9000), step(100), save(), syncs(), step(1000), crash(3), step(50), save(), save(), crash(6000)} {
				j, _ = s.goesOn(t, j, op)
			}
			comesToVerdict(t, text, j, v)
			j = done(t, comesToVerdict(t, text, j, v), save(), crash(math.MaxInt))
			hasVerdict(t, text, j, v)
		}
	}
}

// threeRecords are what is written by two saves behind a submit: machines of 0, 4 and 12 steps.
func threeRecords(t *testing.T) (job, [3]int) {
	t.Helper()
	ends := [3]int{}
	j := done(t, job{}, submit(2, sameBits))
	ends[0] = len(j.Journal)
	j = done(t, j, step(4), save())
	ends[1] = len(j.Journal)
	j = done(t, j, step(100), save())
	ends[2] = len(j.Journal)
	return j, ends
}

func TestCrashesAtEveryByte(t *testing.T) {
	j, ends := threeRecords(t)
	steps := [3]int{0, 4, 12}
	texts, _ := impl.Records(j.Journal)
	for synced := range len(j.Journal) + 1 {
		j.Synced = synced
		for n := -2; n <= len(j.Journal)-synced+2; n++ {
			bytes := synced + max(0, min(n, len(j.Journal)-synced))
			asked := job{}
			for i, end := range ends {
				if end <= bytes {
					m, _ := impl.LoadMachine(texts[i])
					want(t, "Steps", m.Steps, steps[i])
					asked = job{State: 1 + one(m.Over), Machine: m, Journal: j.Journal[:end], Synced: end}
				}
			}
			got := does(t, "a crash", j, crash(n), asked, impl.SaidOk)
			// once more nothing is lost
			if n == 0 {
				does(t, "a second crash", got, crash(-1), got, impl.SaidOk)
			}
		}
		whole, none := done(t, j, crash(len(j.Journal)-synced)), done(t, j, crash(0))
		want(t, "all that was written", len(whole.Journal), len(j.Journal))
		for _, n := range []int{len(j.Journal), len(j.Journal) + 1, 1 << 20, 1 << 32, 1<<32 + 1, math.MaxInt - synced, math.MaxInt - max(synced, 1) + 1, math.MaxInt - len(j.Journal), math.MaxInt - 1, math.MaxInt} {
			isJob(t, fmt.Sprint("a crash with ", n, " more"), done(t, j, crash(n)), whole)
		}
		for _, n := range []int{-1, -2, -synced, -synced - 1, -len(j.Journal), -1 << 32, math.MinInt + synced, math.MinInt + 1, math.MinInt} {
			isJob(t, fmt.Sprint("a crash with ", n, " more"), done(t, j, crash(min(n, 0))), none)
		}
	}
}

func TestCrashesInEachState(t *testing.T) {
	runs := done(t, job{}, submit(2, sameBits), step(4), save(), step(3))
	ended := done(t, runs, step(100))
	saved := done(t, ended, save())
	for _, j := range []job{runs, ended} {
		// what was on its way, or done, is gone back to what was saved
		back := done(t, j, crash(1000))
		want(t, "Steps", back.Machine.Steps, 4)
		want(t, "the State", back.State, impl.JobRuns)
		back = done(t, j, crash(10))
		want(t, "Steps", back.Machine.Steps, 0)
		want(t, "the State", back.State, impl.JobRuns)
	}
	back := done(t, saved, crash(1000))
	isMachine(t, "saved at the end", back.Machine, saved.Machine)
	want(t, "the State", back.State, impl.JobDone)
	does(t, "nothing", job{}, crash(0), job{}, impl.SaidOk)
	does(t, "nothing", job{}, crash(math.MaxInt), job{}, impl.SaidOk)
	// a job without a machine finds one in its journal
	texts, _ := impl.Records(saved.Journal)
	for _, synced := range []int{0, len(saved.Journal)} {
		found := done(t, job{Journal: saved.Journal, Synced: synced}, crash(math.MaxInt))
		isJob(t, "found", found, back)
	}
	does(t, "not found", job{Journal: saved.Journal}, crash(0), job{}, impl.SaidOk)
	first := recordModel(texts[0])
	want(t, "found on its way", done(t, job{Journal: first}, crash(len(first))).State, impl.JobRuns)
}

// noMachineTexts are records' texts that LoadMachine does not read.
func noMachineTexts() []string {
	list := []string{"", "a", "row as\n", "0:;", "no machine", rightText[:len(rightText)-1], rightText + "\n", " " + rightText, strings.ToUpper(rightText), recordModel(rightText), strings.Replace(rightText, "over 0", "over 1", 1), strings.Replace(rightText, "room 5", "room 3", 1), strings.Replace(rightText, "vals 10", "vals 1010", 1), strings.Replace(rightText, "ret 0", "ret 00", 1)}
	return append(list, oddTexts()[:44]...)
}

func TestJournalsWithoutAMachine(t *testing.T) {
	overText := "row as\ntable 2:0110\nroom 2\nvals -\nret 1\nover 1\ncounts 12 3 0\nseen 1:10 1\nseen 2:0110 1\n"
	overMachine, _ := loadModel(overText)
	right, _ := loadModel(rightText)
	runs := done(t, job{}, submit(2, sameBits), step(4))
	for _, j := range []job{{}, runs, done(t, runs, step(100))} {
		crashed := func(name, journal string, asked job) {
			t.Helper()
			for _, synced := range []int{0, 1, len(journal) / 2, len(journal) - 1, len(journal)} {
				if synced < 0 || synced > len(journal) {
					continue
				}
				j.Journal, j.Synced = journal, synced
				does(t, name, j, crash(math.MaxInt), asked, impl.SaidOk)
			}
		}
		// no record at all
		for _, journal := range []string{"", "x", "2:a", "02:ab;", rightText, overText, " " + recordModel(rightText), strings.Repeat(";", 50), recordModel(rightText)[1:], "\x00"} {
			crashed("no record", journal, job{})
		}
		for _, text := range noMachineTexts() {
			loadsNot(t, "no machine's text", text)
			journal := recordModel(text)
			crashed("a last record that is no machine's", journal, job{Journal: journal, Synced: len(journal)})
			// the last record counts, not the last machine
			journal = journalOf(rightText, overText, text)
			crashed("a last record that is no machine's", journal, job{Journal: journal, Synced: len(journal)})
			crashed("something behind it", journal+"3:x", job{Journal: journal, Synced: len(journal)})
			// and a machine behind what is none
			journal = journalOf(text, rightText)
			crashed("a machine", journal, job{State: 1, Machine: right, Journal: journal, Synced: len(journal)})
			crashed("a machine", journal+recordModel(text)[1:]+"x", crashModel(job{Journal: journal + recordModel(text)[1:] + "x"}, math.MaxInt))
			journal = journalOf(text, rightText, overText)
			crashed("a machine that is Over", journal, job{State: 2, Machine: overMachine, Journal: journal, Synced: len(journal)})
		}
		journal := recordModel(overText)
		crashed("a machine that is Over", journal, job{State: 2, Machine: overMachine, Journal: journal, Synced: len(journal)})
		crashed("a machine that is Over", journal+"x", job{State: 2, Machine: overMachine, Journal: journal, Synced: len(journal)})
	}
	hasVerdict(t, "taken up", done(t, job{Journal: recordModel(overText)}, crash(math.MaxInt)), 1)
}

// A job without a machine has a journal all the same: what is submitted goes behind it.
func TestSubmitsBehindAJournal(t *testing.T) {
	for _, text := range append(noMachineTexts(), rightText) {
		journal := journalOf("0", text)
		for _, synced := range []int{0, 3, len(journal)} {
			j := job{Journal: journal, Synced: synced}
			first, _ := firstModel(sameBits, 5)
			written := journal + recordModel(saveModel(first))
			asked := job{State: 1, Machine: first, Journal: written, Synced: len(written)}
			j = does(t, "submit behind a journal", j, submit(5, sameBits), asked, impl.SaidOk)
			does(t, "a crash", done(t, j, step(3)), crash(-1), asked, impl.SaidOk)
			hasVerdict(t, "the end", comesToVerdict(t, "the end", j, 1), 1)
			refuses(t, "once more", j, submit(5, sameBits), impl.SaidBusy)
		}
	}
	// one that is not tidy stays as it is, and hides what stands behind
	j := done(t, job{Journal: "2:a"}, submit(5, sameBits))
	want(t, "Synced", j.Synced, 3+len(done(t, job{}, submit(5, sameBits)).Journal))
	comesToVerdict(t, "behind what is no record", j, 1)
	does(t, "a crash", j, crash(0), job{}, impl.SaidOk)
}

// jobsOfEachState are right: none, none with a journal, two on their way, two that are done.
func jobsOfEachState(t *testing.T) []job {
	t.Helper()
	runs := done(t, job{}, submit(2, undoing), step(9), save())
	ended, _ := impl.JobEnd(runs)
	return []job{{}, {Journal: "2:ab;x", Synced: 5}, done(t, job{}, submit(0, "#1:0")), runs, ended, done(t, ended, save(), crash(1000))}
}

func TestBoundsOfRoom(t *testing.T) {
	for _, text := range []string{sameBits, undoing, "#1:1"} {
		for room := range impl.MaxRoom + 1 {
			j := done(t, job{}, submit(room, text))
			want(t, "Room", j.Machine.Room, room)
		}
		for _, room := range append(farNumbers(), -1, impl.MaxRoom+1, impl.MaxRoom+2, 64, 100) {
			refuses(t, "no room", job{}, submit(room, text), impl.SaidBig)
			refuses(t, "no room", job{Journal: "2:ab;", Synced: 1}, submit(room, text), impl.SaidBig)
			// what is named first counts
			refuses(t, "no room, no term", job{}, submit(room, text+" "), impl.SaidText)
			refuses(t, "no room, no sentence", job{}, submit(room, "(not v0:1)"), impl.SaidFalse)
		}
	}
}

func TestBoundsOfSteps(t *testing.T) {
	for _, j := range jobsOfEachState(t) {
		for _, n := range append(farNumbers(), -1, longRun+1, longRun+2, 2*longRun) {
			if n >= 0 && n <= longRun {
				continue
			}
			refuses(t, "not so many steps", j, step(n), impl.SaidNone)
		}
		for _, n := range []int{0, 1, 2, 100, longRun - 1, longRun} {
			if j.State != impl.JobRuns {
				refuses(t, "nothing goes on", j, step(n), impl.SaidNone)
				continue
			}
			asked := j
			asked.Machine = runModel(j.Machine, n)
			asked.State += one(asked.Machine.Over)
			does(t, "so many steps", j, step(n), asked, impl.SaidOk)
		}
	}
	// step by step up to the end, and not beyond
	j := done(t, job{}, submit(2, sameBits))
	for n := range 14 {
		want(t, "the State", done(t, j, step(n)).State, 1+one(n >= 12))
	}
	// a machine that counts no more stays on its way
	j.Machine.Steps = mostSteps
	does(t, "a machine that counts no more", j, step(longRun), j, impl.SaidOk)
	end, said := impl.JobEnd(j)
	want(t, "the code of JobEnd", said, impl.SaidOk)
	isJob(t, "JobEnd", end, j)
	hasNoVerdict(t, "a machine that counts no more", end)
}

func textOf(t *testing.T, x []node) string {
	t.Helper()
	text, ok := impl.ShowTerm(x)
	if !ok {
		t.Fatalf("%v has no text", x)
	}
	return text
}

func TestBoundsOfBits(t *testing.T) {
	for _, op := range []int{impl.OpAll, impl.OpSome} {
		for _, widths := range [][]int{{8, 4}, {4, 8}, {6, 6}, {4, 4, 4}, {1, 1, 1, 1, 2, 2, 2, 2}, {8, 3, 1}} {
			j := done(t, job{}, submit(1, textOf(t, nest(op, widths...))))
			want(t, "flags", len(j.Machine.Row), impl.MaxBits)
			comesToVerdict(t, "MaxBits", j, 1)
			widths[slices.Index(widths, slices.Min(widths))]++
			text := textOf(t, nest(op, widths...))
			refuses(t, "one bit more", job{}, submit(1, text), impl.SaidBig)
			refuses(t, "one bit more", job{}, submit(-1, text), impl.SaidBig)
			refuses(t, "one bit more", job{}, submit(math.MaxInt, text), impl.SaidBig)
		}
		refuses(t, "very many bits", job{}, submit(1, textOf(t, nest(op, 8, 8, 8, 8, 8, 8, 8, 8))), impl.SaidBig)
	}
	// side by side
	comesToVerdict(t, "side by side", done(t, job{}, submit(1, "(and (all v0:8 (= v0:8 v0:8)) (some v1:4 (= v1:4 #4:3)))")), 1)
	refuses(t, "side by side", job{}, submit(1, "(and (all v0:8 (= v0:8 v0:8)) (some v1:5 (= v1:5 #5:3)))"), impl.SaidBig)
	// too many bits where no sentence is
	refuses(t, "too many bits of no sentence", job{}, submit(1, "(all v0:8 (all v1:8 v2:1))"), impl.SaidFalse)
}

func TestTextsThatAreNotTaken(t *testing.T) {
	long := withDenials(longTerm(), 8)
	for code, texts := range map[int][]string{
		impl.SaidText: {
			"", " ", "x", "v", "#", "v0", "v8:1", "v0:0", "v0:9", "#1:2", "#0:0", "()", "(", ")", "(not)", "(not v0:1", "(not v0:1))", "(not  v0:1)", " #1:1", "#1:1 ", "#1:1\n", "#01:1", "(and #1:1 #2:1)", "(all v0:1 v0:1) ", "(all v0:9 #1:1)", "(all v0:1 #2:1)", "(all v0:1 v0:2)", "(= v0:2 v1:3)", "(every v0:1 v0:1)", "(all v0 v0:1)", "\x00", "\xff", "submit", "0",
			strings.Repeat("x", 1000000), strings.Repeat("(not ", 800), "#1:1" + strings.Repeat(" ", 3997), textModel(long, len(long)-1), denied(81), sameBits + "x", sameBits[1:], sameBits[:len(sameBits)-1],
		},
		impl.SaidFalse: {
			"v0:1", "v7:8", "#2:1", "#8:255", "(not v0:1)", "(not #2:1)", "(= v0:2 v1:2)", "(all v0:1 v1:1)", "(all v0:1 (some v0:1 v0:1))", "(and (all v0:1 v0:1) (some v0:1 v0:1))", "(xor (all v0:1 v0:1) #1:1)", "(= (all v0:1 v0:1) #1:1)", "(if #1:1 (all v0:1 v0:1) #1:0)", "(all v0:2 (= v0:1 v0:1))", "(and (all v0:1 v0:1) (all v0:1 v0:1))", "(some v1:1 (or v1:1 v0:1))", "(add #1:1 (some v0:1 v0:1))", "(slice 0 1 (all v0:1 v0:1))", denied(80), "(all v0:8 (some v1:8 (all v2:8 v3:1)))",
		},
	} {
		for _, text := range texts {
			for _, j := range []job{{}, {Journal: "2:ab;", Synced: 5}, {Journal: strings.Repeat("x", mostJournal), Synced: 7}} {
				for _, room := range []int{0, 5, impl.MaxRoom, -1, impl.MaxRoom + 1} {
					refuses(t, "not taken", j, submit(room, text), code)
				}
			}
			refuses(t, "busy", done(t, job{}, submit(1, "#1:0")), submit(0, text), impl.SaidBusy)
		}
	}
	d := dice(162)
	counts := [7]int{}
	for range 4000 {
		x := drawTerm(&d)
		if d.below(2) == 0 {
			x = drawSentence(&d)
		}
		text := textModel(x, len(x)-1)
		if d.below(4) == 0 && len(text) < 400 {
			text = worn(&d, text)
		}
		if _, code, _ := impl.ReadTerm(text); code == impl.TextOk && impl.Bits(term(t, text)) > 7 && impl.Bits(term(t, text)) <= impl.MaxBits {
			continue
		}
		_, code := doesAsModel(t, "drawn", job{}, submit(d.below(43)-1, text))
		counts[code]++
	}
	if min(counts[impl.SaidOk], counts[impl.SaidText], counts[impl.SaidFalse], counts[impl.SaidBig]) < 30 {
		t.Errorf("%v codes are too few", counts)
	}
}

func TestSubmitsToABusyJob(t *testing.T) {
	for _, j := range jobsOfEachState(t)[2:] {
		for _, text := range []string{sameBits, undoing, "", "x", "v0:1", textOf(t, nest(impl.OpAll, 8, 8))} {
			for _, room := range []int{0, 1, impl.MaxRoom, -1, impl.MaxRoom + 1, math.MinInt, math.MaxInt} {
				refuses(t, "busy", j, submit(room, text), impl.SaidBusy)
			}
		}
	}
}

func TestFullJournals(t *testing.T) {
	first := done(t, job{}, submit(2, sameBits))
	size := len(first.Journal)
	runs := done(t, first, step(4))
	ended := done(t, first, step(100))
	for _, sign := range []string{"x", "0:;", "1:;;"} {
		full := strings.Repeat(sign, mostJournal)[:mostJournal]
		for _, safe := range []int{0, 9, mostJournal - 1000} {
			// a submit
			j := job{Journal: full[:mostJournal-size], Synced: safe}
			asked := first
			asked.Journal, asked.Synced = j.Journal+first.Journal, mostJournal
			does(t, "a submit that fills it", j, submit(2, sameBits), asked, impl.SaidOk)
			for _, more := range []int{1, 2, size - 1, size} {
				j.Journal = full[:mostJournal-size+more]
				refuses(t, "a submit too much", j, submit(2, sameBits), impl.SaidFull)
			}
			// what is named first counts
			refuses(t, "full, and no term", j, submit(2, "x"), impl.SaidText)
			refuses(t, "full, and no sentence", j, submit(2, "v0:1"), impl.SaidFalse)
			refuses(t, "full, and no room", j, submit(41, sameBits), impl.SaidBig)
			// a save
			for _, x := range []job{runs, ended} {
				record := recordModel(saveModel(x.Machine))
				x.Journal, x.Synced = full[:mostJournal-len(record)], safe
				asked := x
				asked.Journal += record
				does(t, "a save that fills it", x, save(), asked, impl.SaidOk)
				for _, more := range []int{1, 2, len(record) - 1, len(record)} {
					x.Journal = full[:mostJournal-len(record)+more]
					refuses(t, "a save too much", x, save(), impl.SaidFull)
				}
				// all else goes on
				asked = x
				asked.Synced = mostJournal
				does(t, "a sync of what is full", x, syncs(), asked, impl.SaidOk)
				x.Journal += "x"
				isNoJob(t, "one byte more", x)
			}
		}
	}
	// a full journal that is cut off has place again
	long := strings.Repeat("x", mostBytes)
	journal := first.Journal + journalOf(long, long, long, long)
	full := journal + strings.Repeat("y", mostJournal-len(journal))
	j := runs
	j.Journal = full
	refuses(t, "full", j, save(), impl.SaidFull)
	left := does(t, "cut off", j, crash(-1), first, impl.SaidOk)
	done(t, left, step(4), save())
	j.Synced = len(journal)
	refuses(t, "full", j, save(), impl.SaidFull)
	left = does(t, "tidy", j, crash(3), job{Journal: journal, Synced: len(journal)}, impl.SaidOk)
	done(t, left, submit(2, sameBits), save())
}

// A job that saves till its journal is full is not lost by that.
func TestJobsThatFillTheirJournal(t *testing.T) {
	const text = "(all v0:6 (some v1:6 (= (add v0:6 v1:6) #6:0)))"
	s := story{text: text, v: 1}
	j, _ := s.goesOn(t, job{}, submit(impl.MaxRoom, text))
	full, most := 0, 0
	for i := range 220 {
		code := 0
		j, _ = s.goesOn(t, j, step(23))
		j, code = s.goesOn(t, j, save())
		full += one(code == impl.SaidFull)
		most = max(most, len(j.Journal))
		if i%17 == 3 {
			j, _ = s.goesOn(t, j, syncs())
		}
		if i%97 == 96 {
			j, _ = s.goesOn(t, j, crash(9000))
		}
	}
	if full < 10 || most < mostJournal-100000 {
		t.Errorf("%d times full, with %d bytes, is too few", full, most)
	}
	comesToVerdict(t, text, j, 1)
}

func TestMachinesThatAreNotSaved(t *testing.T) {
	for _, m := range []machine{
		machineAt("as", "0110", 2, "1", 0, "x=1"), machineAt("as", "0110", 2, "1", 0, "1:01=1", "=0"), machineAt("as", "0110", 2, "1", 0, "1:01 1=1"),
		longMachine(t, machineAt("as", "0110", 2, "1", 0), mostBytes+1, "7"), longMachine(t, machineAt("as", "0110", 2, "1", 0), 2*mostBytes, ":"),
	} {
		savesNot(t, "no text", m)
		for _, journal := range []string{"", "2:ab;"} {
			j := job{State: 1, Machine: m, Journal: journal, Synced: len(journal)}
			want(t, "JobOk", one(impl.JobOk(j)), 1)
			refuses(t, "no text", j, save(), impl.SaidFull)
			does(t, "no text", j, crash(9), job{Journal: journal, Synced: len(journal)}, impl.SaidOk)
			ended := over(m)
			ended.Vals = nil
			j.State, j.Machine = 2, ended
			refuses(t, "no text, done", j, save(), impl.SaidFull)
			hasVerdict(t, "no text, done", j, 0)
			does(t, "no text, done", j, wipe(), job{}, impl.SaidOk)
		}
	}
	m := longMachine(t, machineAt("as", "0110", 2, "1", 0), mostBytes, "7")
	j := job{State: 1, Machine: m}
	asked := j
	asked.Journal = recordModel(saveModel(m))
	j = does(t, "MaxSave", j, save(), asked, impl.SaidOk)
	asked.Synced = len(asked.Journal)
	does(t, "MaxSave", j, crash(math.MaxInt), asked, impl.SaidOk)
	does(t, "MaxSave", j, crash(len(asked.Journal)-1), job{}, impl.SaidOk)
}

func TestHowManyOps(t *testing.T) {
	j, codes := impl.JobRun(nil)
	isJob(t, "no ops", j, job{})
	isList(t, "no ops", codes)
	j, codes = impl.JobRun([]jobOp{})
	isJob(t, "no ops", j, job{})
	isList(t, "no ops", codes)
	ops := []jobOp{submit(3, halving)}
	for len(ops) < mostOps {
		ops = append(ops, []jobOp{step(1), save(), crash(50), {Kind: 9}, syncs()}[len(ops)%5])
	}
	asked, said := job{}, []int{}
	for _, op := range ops {
		next, code := impl.JobDo(asked, op)
		asked, said = next, append(said, code)
	}
	want(t, "the State", asked.State, impl.JobRuns)
	for _, n := range []int{1, 2, 299, 300} {
		_, codes := impl.JobRun(ops[:n])
		isList(t, "so many ops", codes, said[:n]...)
	}
	j, codes = impl.JobRun(ops)
	isJob(t, "300 ops", j, asked)
	isList(t, "300 ops", codes, said...)
	for _, more := range [][]jobOp{{syncs()}, {{Kind: -1}}, {wipe(), wipe()}, ops, make([]jobOp, 100000)} {
		j, codes = impl.JobRun(append(slices.Clone(ops), more...))
		isJob(t, "more ops", j, job{})
		isList(t, "more ops", codes)
	}
	j, codes = impl.JobRun(slices.Repeat([]jobOp{wipe()}, mostOps))
	isJob(t, "300 refused", j, job{})
	isList(t, "300 refused", codes, slices.Repeat([]int{impl.SaidNone}, mostOps)...)
	j, codes = impl.JobRun(slices.Repeat([]jobOp{submit(1, sameBits), step(longRun), wipe()}, mostOps/3))
	isJob(t, "a hundred jobs", j, job{})
	isList(t, "a hundred jobs", codes, make([]int, mostOps)...)
}

func TestEndsAndVerdictsOfEachState(t *testing.T) {
	for i, j := range jobsOfEachState(t) {
		want(t, "JobOk", one(impl.JobOk(j)), 1)
		end, said := impl.JobEnd(j)
		switch j.State {
		case impl.JobRuns:
			want(t, "the code of JobEnd", said, impl.SaidOk, i)
			asked := j
			asked.State, asked.Machine = impl.JobDone, runModel(j.Machine, longRun)
			isJob(t, "JobEnd", end, asked)
			hasNoVerdict(t, "on its way", j)
			hasVerdict(t, "JobEnd", end, asked.Machine.Ret)
			refuses(t, "on its way", j, wipe(), impl.SaidNone)
			does(t, "ended", end, wipe(), job{}, impl.SaidOk)
			refuses(t, "twice", end, step(longRun), impl.SaidNone)
		case impl.JobDone:
			want(t, "the code of JobEnd", said, impl.SaidNone, i)
			isJob(t, "JobEnd", end, j)
			hasVerdict(t, "done", j, j.Machine.Ret)
			does(t, "done", j, wipe(), job{}, impl.SaidOk)
		default:
			want(t, "the code of JobEnd", said, impl.SaidNone, i)
			isJob(t, "JobEnd", end, j)
			hasNoVerdict(t, "none", j)
			refuses(t, "none", j, wipe(), impl.SaidNone)
			refuses(t, "none", j, save(), impl.SaidNone)
		}
		asked := j
		asked.Synced = len(j.Journal)
		does(t, "sync", j, syncs(), asked, impl.SaidOk)
		does(t, "twice", asked, syncs(), asked, impl.SaidOk)
		// what an op has no use for changes nothing
		for _, n := range []int{0, -1, 7, math.MinInt, math.MaxInt} {
			for _, kind := range []int{impl.JobSave, impl.JobSync, impl.JobClear} {
				asked, code := impl.JobDo(j, jobOp{Kind: kind})
				does(t, "another N", j, jobOp{Kind: kind, N: n, Text: "text"}, asked, code)
			}
		}
		asked, code := impl.JobDo(j, step(2))
		does(t, "another Text", j, jobOp{Kind: impl.JobStep, N: 2, Text: sameBits}, asked, code)
		asked, code = impl.JobDo(j, crash(2))
		does(t, "another Text", j, jobOp{Kind: impl.JobCrash, N: 2, Text: sameBits}, asked, code)
	}
	// both verdicts, without a step that was asked for
	for v := range 2 {
		j := job{State: 2, Machine: over(machineAt("as", "0110", 0, "", v))}
		hasVerdict(t, "as it stands", j, v)
	}
}

func everyOp() []jobOp {
	return []jobOp{submit(1, sameBits), submit(-1, "x"), step(0), step(5), step(-1), save(), syncs(), crash(0), crash(1000), wipe(), {Kind: -1}, {Kind: 6}}
}

func TestKindsThatThereAreNot(t *testing.T) {
	for _, j := range jobsOfEachState(t) {
		for _, kind := range append(farNumbers(), -1, -2, 6, 7, 8, 64) {
			refuses(t, "no op", j, jobOp{Kind: kind}, impl.SaidNone)
			refuses(t, "no op", j, jobOp{Kind: kind, N: 3, Text: sameBits}, impl.SaidNone)
			_, codes := impl.JobRun([]jobOp{{Kind: kind}, submit(1, sameBits), {Kind: kind, N: 1}})
			isList(t, "the codes of JobRun", codes, impl.SaidNone, impl.SaidOk, impl.SaidNone)
		}
	}
}

// isNoJob is promise 16 for a job that is wrong: what it is stays.
func isNoJob(t *testing.T, name string, j job) {
	t.Helper()
	if impl.JobOk(j) {
		t.Fatalf("%s: JobOk of %s", name, showJob(j))
	}
	for _, op := range everyOp() {
		refuses(t, name, j, op, impl.SaidNone)
	}
	hasNoVerdict(t, name, j)
	end, said := impl.JobEnd(j)
	want(t, name+": the code of JobEnd", said, impl.SaidNone)
	isJob(t, name+": JobEnd", end, j)
}

func TestStatesThatDoNotFit(t *testing.T) {
	for _, j := range jobsOfEachState(t) {
		for _, state := range append(farNumbers(), -1, 3, 4, 64, 0, 1, 2) {
			other := j
			other.State = state
			if state == j.State {
				want(t, "JobOk", one(impl.JobOk(other)), 1)
			} else {
				isNoJob(t, fmt.Sprint("a State of ", state, ", not ", j.State), other)
			}
		}
		for _, synced := range append(farNumbers(), -1, len(j.Journal)+1, len(j.Journal)+2) {
			if synced >= 0 && synced <= len(j.Journal) {
				continue
			}
			other := j
			other.Synced = synced
			isNoJob(t, fmt.Sprint("Synced ", synced), other)
		}
		for _, synced := range []int{0, len(j.Journal) / 2, len(j.Journal)} {
			other := j
			other.Synced = synced
			want(t, "JobOk", one(impl.JobOk(other)), 1, synced)
		}
		// a journal is of any bytes
		for _, bytes := range []string{"", "x", "\x00\xff", strings.Repeat("0:;", 9), strings.Repeat("y", mostJournal)} {
			other := j
			other.Journal, other.Synced = bytes, len(bytes)
			want(t, "JobOk", one(impl.JobOk(other)), 1, len(bytes))
		}
		for _, more := range []int{1, 2, 1000, mostJournal} {
			other := j
			other.Journal = strings.Repeat("0:;", mostJournal)[:mostJournal+more]
			for _, synced := range []int{0, 1, mostJournal, mostJournal + 1} {
				other.Synced = synced
				isNoJob(t, "beyond MaxJournal", other)
			}
		}
	}
}

// Whatever one thing is not as it is in the zero value, there is a machine.
func TestJobsWithoutAMachineThatHaveOne(t *testing.T) {
	for name, m := range map[string]machine{
		"Row": {Row: []bool{false}}, "Row of one that is All": {Row: []bool{true}}, "N": {Table: table{N: 1}}, "N below 0": {Table: table{N: -1}}, "Ones": {Table: table{Ones: "0"}}, "Ones of a byte 0": {Table: table{Ones: "\x00"}}, "Room": {Room: 1}, "Room below 0": {Room: -1}, "Vals": {Vals: []int{0}}, "Ret": {Ret: 1}, "Ret of -1": {Ret: -1}, "Over": {Over: true}, "Steps": {Steps: 1}, "Steps below 0": {Steps: -1}, "Looks": {Looks: 1}, "Hits": {Hits: 1}, "Hits of the least": {Hits: math.MinInt}, "Memo": {Memo: []seen{{}}},
		"a table": {Table: tableOf(0, "0")}, "a start": machineAt("", "0", 0, "", -1), "an end": over(machineAt("", "0", 0, "", 0)),
	} {
		isNoJob(t, name, job{Machine: m})
		isNoJob(t, name, job{Machine: m, Journal: "2:ab;", Synced: 5})
	}
	// an empty list and nil are the same
	j := job{Machine: machine{Row: []bool{}, Vals: []int{}, Memo: []seen{}}}
	want(t, "JobOk", one(impl.JobOk(j)), 1)
	want(t, "JobOk of the zero value", one(impl.JobOk(job{})), 1)
	want(t, "submitted", done(t, j, submit(1, sameBits)).State, impl.JobRuns)
}

func TestJobsOfMachinesThatAreNone(t *testing.T) {
	isNoJob(t, "no machine", job{State: 1})
	isNoJob(t, "no machine", job{State: 2})
	for i, m := range append(savable(), rightMachines()...) {
		state := 1 + one(m.Over)
		for _, j := range []job{{State: state, Machine: m}, {State: state, Machine: m, Journal: "2:ab;", Synced: 3}} {
			want(t, "JobOk", one(impl.JobOk(j)), 1, i)
			for _, op := range everyOp() {
				doesAsModel(t, fmt.Sprint("machine ", i), j, op)
			}
			j.State = 3 - state
			isNoJob(t, "the other state", j)
			j.State = 0
			isNoJob(t, "no state", j)
			for name, spoil := range notOk() {
				wrong := j
				wrong.Machine = cloned(m)
				spoil(&wrong.Machine)
				for _, state := range []int{0, 1, 2} {
					wrong.State = state
					isNoJob(t, fmt.Sprint(name, " of machine ", i), wrong)
				}
			}
		}
	}
}

// drawJob is a job of any state, right more often than not, with a short journal.
func drawJob(d *dice) job {
	j := job{}
	texts := []string{}
	for range d.below(4) {
		switch d.below(4) {
		case 0:
			texts = append(texts, drawBytes(d))
		case 1:
			texts = append(texts, wornLines(d, saveModel(drawMachine(d))))
		default:
			texts = append(texts, saveModel(drawMachine(d)))
		}
	}
	j.Journal = journalOf(texts...)
	if d.below(3) == 0 {
		j.Journal += drawBytes(d)
	}
	if d.below(12) == 0 {
		j.Journal = drawBytes(d) + j.Journal
	}
	j.Synced = d.below(len(j.Journal) + 1)
	if d.below(3) > 0 {
		j.Machine = drawMachine(d)
		j.State = 1 + one(j.Machine.Over)
	}
	switch d.below(20) {
	case 0:
		j.State = d.below(5) - 1
	case 1:
		j.Synced = len(j.Journal) + 1
	case 2:
		j.Synced = -1
	case 3:
		j.Machine.Room--
	}
	return j
}

func TestDrawnJobs(t *testing.T) {
	d := dice(163)
	texts := []string{sameBits, undoing, halving, "#1:1", "v0:1", "", textOf(t, nest(impl.OpAll, 8, 8))}
	counts, states := [7]int{}, [3]int{}
	for range 5000 {
		j := drawJob(&d)
		want(t, "JobOk of "+showJob(j), one(impl.JobOk(j)), one(jobOkModel(j)))
		if v, ok := impl.JobVerdict(j); ok != (jobOkModel(j) && j.State == 2) || ok && v != j.Machine.Ret || !ok && v != 0 {
			t.Fatalf("JobVerdict of %s is %d, %v", showJob(j), v, ok)
		}
		asked, code := doModel(j, step(longRun))
		end, said := impl.JobEnd(j)
		want(t, "the code of JobEnd", said, code)
		isJob(t, "JobEnd", end, asked)
		for range 1 + d.below(6) {
			op := drawOp(&d, texts[d.below(len(texts))], 30)
			if op.Kind == impl.JobSubmit && d.below(4) == 0 {
				op.N = 41
			}
			if d.below(20) == 0 {
				op.Kind = d.below(9) - 1
			}
			code := 0
			j, code = doesAsModel(t, "drawn", j, op)
			counts[code]++
			if op.Kind == impl.JobCrash && code == impl.SaidOk {
				states[j.State]++
			}
		}
	}
	if slices.Min(counts[:]) < 20 || slices.Min(states[:]) < 50 {
		t.Errorf("%v codes, %v states behind a crash are too few", counts, states)
	}
}

// jobKeptApart calls f, and asks that nothing of j is written into, nor by what is done to the answer.
func jobKeptApart(t *testing.T, name string, j job, f func(j job) job) {
	t.Helper()
	bytes := strings.Clone(j.Journal)
	machineKeptApart(t, name, j.Machine, func(m machine) machine {
		given := j
		given.Machine = m
		got := f(given)
		if given.Journal != bytes || given.State != j.State || given.Synced != j.Synced {
			t.Fatalf("%s writes into %s", name, showJob(j))
		}
		return got.Machine
	})
}

func TestJobsWriteIntoNothing(t *testing.T) {
	keepsAll := func(j job) {
		t.Helper()
		for _, op := range everyOp() {
			jobKeptApart(t, "JobDo of "+showOp(op), j, func(j job) job {
				got, _ := impl.JobDo(j, op)
				return got
			})
		}
		jobKeptApart(t, "JobEnd", j, func(j job) job {
			got, _ := impl.JobEnd(j)
			return got
		})
		jobKeptApart(t, "the others", j, func(j job) job {
			v, ok := impl.JobVerdict(j)
			return job{Machine: machine{Ret: v, Over: ok, Steps: one(impl.JobOk(j))}}
		})
	}
	for _, j := range jobsOfEachState(t) {
		keepsAll(j)
		j.State++
		keepsAll(j)
		j.Synced = -1
		keepsAll(j)
	}
	for _, m := range append(savable(), rightMachines()...) {
		j := job{State: 1 + one(m.Over), Machine: m, Journal: journalOf("ab", rightText)}
		keepsAll(j)
		for name, spoil := range notOk() {
			if strings.Contains(name, "a ") {
				wrong := j
				wrong.Machine = cloned(m)
				spoil(&wrong.Machine)
				keepsAll(wrong)
			}
		}
	}
	d := dice(164)
	for range 300 {
		keepsAll(drawJob(&d))
	}
}

// What was answered stays as it was, whatever is done with it later.
func TestEarlierJobsStayAsTheyWere(t *testing.T) {
	d := dice(165)
	for range 60 {
		text, _ := drawnSentence(&d, 6)
		jobs, were := []job{{}}, []job{{}}
		for range 40 {
			j := jobs[d.below(len(jobs))]
			next, _ := impl.JobDo(j, drawOp(&d, text, 20))
			if next.State == impl.JobDone && d.below(3) == 0 {
				// a machine that is cleared is emptied, but not that of the job handed in
				does(t, "clear", next, wipe(), job{}, impl.SaidOk)
			}
			was := next
			was.Machine = cloned(next.Machine)
			jobs, were = append(jobs, next), append(were, was)
		}
		for i := range jobs {
			isJob(t, "a job of before", jobs[i], were[i])
		}
	}
	ops := append(make([]jobOp, 0, 10), submit(1, sameBits), step(4), save(), crash(9), step(100), wipe(), submit(2, undoing))
	spare := ops[:10]
	for i := 7; i < 10; i++ {
		spare[i] = jobOp{Kind: 77, N: i, Text: "spare"}
	}
	were := slices.Clone(spare)
	j, codes := impl.JobRun(ops)
	asked, said := j, slices.Clone(codes)
	asked.Machine = cloned(j.Machine)
	for i := range codes[:cap(codes)] {
		codes[:cap(codes)][i] = 99
	}
	scribble(j.Machine)
	if !slices.Equal(spare, were) {
		t.Fatalf("JobRun writes into its ops: %v", spare)
	}
	again, codes := impl.JobRun(ops)
	isJob(t, "JobRun a second time", again, asked)
	isList(t, "JobRun a second time", codes, said...)
}
