package tests

import (
	"fmt"
	"math"
	"slices"
	"strings"
	"testing"

	"loop.example/g00116/impl"
)

const mostJournal = 2000000

func recordModel(s string) string { return fmt.Sprintf("%d:%s;", len(s), s) }

func journalOf(texts ...string) string {
	j := ""
	for _, s := range texts {
		j += recordModel(s)
	}
	return j
}

// recordAhead tries every size that a record at the beginning of j can have.
func recordAhead(j string) (string, bool) {
	for size := range min(len(j), mostBytes) + 1 {
		behind, begins := strings.CutPrefix(j, fmt.Sprint(size)+":")
		if begins && len(behind) > size && behind[size] == ';' {
			return behind[:size], true
		}
	}
	return "", false
}

func recordsModel(j string) ([]string, int) {
	texts, end := []string{}, 0
	for s, whole := recordAhead(j); whole && len(j) <= mostJournal; s, whole = recordAhead(j[end:]) {
		texts, end = append(texts, s), end+len(recordModel(s))
	}
	return texts, end
}

func showTexts(texts []string) string {
	words := []string{}
	for _, s := range texts[:min(len(texts), 20)] {
		words = append(words, fmt.Sprintf("%.40q", s))
	}
	return fmt.Sprintf("%d: [%s]", len(texts), strings.Join(words, " "))
}

func recordIs(t *testing.T, s, asked string) {
	t.Helper()
	if got := impl.Record(s); got != asked {
		t.Fatalf("Record of %s is %s, not %s", shortText(s), shortText(got), shortText(asked))
	}
}

func appends(t *testing.T, j, s, asked string) string {
	t.Helper()
	got, ok := impl.Append(j, s)
	if !ok || got != asked {
		t.Fatalf("Append of %s to %s is %s, %v, not %s", shortText(s), shortText(j), shortText(got), ok, shortText(asked))
	}
	return got
}

func appendsNot(t *testing.T, j, s string) {
	t.Helper()
	if got, ok := impl.Append(j, s); ok || got != j {
		t.Fatalf("Append of %s to %s is %s, %v, not refused", shortText(s), shortText(j), shortText(got), ok)
	}
}

func tornIs(t *testing.T, j string, n int, asked string) {
	t.Helper()
	if got := impl.Torn(j, n); got != asked {
		t.Fatalf("Torn of %s at %d is %s, not %s", shortText(j), n, shortText(got), shortText(asked))
	}
}

// hasRecords asks Records, Last and Tidy at once: of j there are these texts, which stand in its first end bytes.
func hasRecords(t *testing.T, name, j string, end int, asked ...string) {
	t.Helper()
	texts, got := impl.Records(j)
	if got != end || !slices.Equal(texts, asked) {
		t.Fatalf("%s: Records of %s is %s, %d, not %s, %d", name, shortText(j), showTexts(texts), got, showTexts(asked), end)
	}
	last := ""
	if len(asked) > 0 {
		last = asked[len(asked)-1]
	}
	if s, ok := impl.Last(j); ok != (len(asked) > 0) || s != last {
		t.Fatalf("%s: Last of %s is %s, %v, not %s", name, shortText(j), shortText(s), ok, shortText(last))
	}
	if tidy := impl.Tidy(j); tidy != j[:end] {
		t.Fatalf("%s: Tidy of %s is %s, not %s", name, shortText(j), shortText(tidy), shortText(j[:end]))
	}
}

func hasNoRecords(t *testing.T, name, j string) {
	t.Helper()
	hasRecords(t, name, j, 0)
}

// recordsAsTheyAre holds any bytes against the model, and tells how many records there are.
func recordsAsTheyAre(t *testing.T, name, j string) int {
	t.Helper()
	texts, end := recordsModel(j)
	hasRecords(t, name, j, end, texts...)
	return len(texts)
}

// isTheLast is the first part of promise 12 for one journal, tidy or not.
func isTheLast(t *testing.T, name, j, s string) {
	t.Helper()
	texts, end := recordsModel(j)
	tidy := impl.Tidy(j)
	if tidy != j[:end] {
		t.Fatalf("%s: Tidy of %s is %s, not %s", name, shortText(j), shortText(tidy), shortText(j[:end]))
	}
	hasRecords(t, name, tidy, end, texts...)
	longer := appends(t, tidy, s, tidy+recordModel(s))
	hasRecords(t, name, longer, len(longer), append(texts, s)...)
}

// losesOnlyItsEnd is the second part of promise 12: the journal of these texts is cut off at every byte.
func losesOnlyItsEnd(t *testing.T, texts ...string) {
	t.Helper()
	j, ends := "", []int{}
	for _, s := range texts {
		j += recordModel(s)
		ends = append(ends, len(j))
	}
	for n := range len(j) + 3 {
		left := 0
		for _, end := range ends {
			left += one(end <= n)
		}
		end := 0
		if left > 0 {
			end = ends[left-1]
		}
		tornIs(t, j, n, j[:min(n, len(j))])
		hasRecords(t, "cut off", impl.Torn(j, n), end, texts[:left]...)
		if left == len(texts) {
			continue
		}
		// what was lost is put behind what is left, and nothing has been
		again := impl.Tidy(impl.Torn(j, n))
		for _, s := range texts[left:] {
			again = appends(t, again, s, again+recordModel(s))
		}
		if again != j {
			t.Fatalf("%s cut off at %d comes back as %s", shortText(j), n, shortText(again))
		}
	}
}

// oddTexts are such as could be taken for something else.
func oddTexts() []string {
	return []string{
		"", "a", "ab", "the text of a record", " ", "\n", "\n\n", "0", "1", "7", "00", "12", "0123456789", ":", "::", ";", ";;", ":;", ";:", "0:", "1:", ":0", "0;", ";0", "0:;", "0:;0:;", "1:a;", "1:;;", "2::;;", "3:0:;;", "2:a", "2:ab", "ab;", "2:ab;2:", ";2:ab;", "3:x;", "3:x;;", "5:2:ab;;", "1:a;1:b;1:c;", "-", "-1:a;", "+1:a;", "01:a;", "400000:", "400001:a;", "9223372036854775808:a;",
		"row as\ntable 2:0110\nroom 2\nvals -\nret 1\nover 1\ncounts 12 3 0\nseen 1:10 1\nseen 2:0110 1\n",
		"\x00", "\x00\x00;", "\xff", "\xff\xfe:", "\xc3", "\u00e9", "\u00e9;", "\u4e16:\u754c;", "\U0001f600", "\uff1a", "\uff1b", "\u0661:a;", "1\uff1aa;", strings.Repeat(";", 9), strings.Repeat(":", 10), strings.Repeat("0:;", 33), strings.Repeat("1", 99), strings.Repeat("9", 100), strings.Repeat("\n", 101),
	}
}

func TestMaxJournal(t *testing.T) {
	want(t, "MaxJournal", impl.MaxJournal, mostJournal)
}

func TestRecordsOfTexts(t *testing.T) {
	recordIs(t, "", "0:;")
	recordIs(t, "a", "1:a;")
	recordIs(t, "ab", "2:ab;")
	recordIs(t, "a b", "3:a b;")
	recordIs(t, "0123456789", "10:0123456789;")
	recordIs(t, "a\nb\n", "4:a\nb\n;")
	recordIs(t, ";", "1:;;")
	recordIs(t, ":", "1::;")
	recordIs(t, "0:;", "3:0:;;")
	recordIs(t, "1:a", "3:1:a;")
	recordIs(t, "\x00", "1:\x00;")
	// bytes are counted, not signs
	recordIs(t, "\u00e9", "2:\u00e9;")
	recordIs(t, "\u4e16\u754c", "6:\u4e16\u754c;")
	recordIs(t, "\U0001f600", "4:\U0001f600;")
	recordIs(t, "\xff\xfe", "2:\xff\xfe;")
	for _, s := range oddTexts() {
		recordIs(t, s, recordModel(s))
		hasRecords(t, "one record", impl.Record(s), len(recordModel(s)), s)
		// a record of a record, and so on
		for range 4 {
			recordIs(t, impl.Record(s), recordModel(recordModel(s)))
			s = impl.Record(s)
			hasRecords(t, "one record", s, len(s), s[strings.Index(s, ":")+1:len(s)-1])
		}
	}
	// the count has one digit more
	for n := 1; n <= 100000; n *= 10 {
		for _, size := range []int{n - 1, n, n + 1} {
			s := strings.Repeat("7", size)
			recordIs(t, s, recordModel(s))
			hasRecords(t, "so many bytes", impl.Record(s), len(recordModel(s)), s)
		}
	}
}

func TestRecordsOfMaxSaveBytes(t *testing.T) {
	for _, sign := range []string{"x", ";", ":", "0", "9", "\n", "\xff", "0:;", "1:a;", "\u4e16"} {
		full := strings.Repeat(sign, mostBytes)[:mostBytes]
		record := "400000:" + full + ";"
		recordIs(t, full, record)
		recordIs(t, full[1:], "399999:"+full[1:]+";")
		recordIs(t, full+"x", "")
		recordIs(t, full+sign+full, "")
		appends(t, "", full, record)
		appends(t, "2:ab;", full, "2:ab;"+record)
		appends(t, "2:a", full, "2:a"+record)
		appendsNot(t, "", full+"x")
		appendsNot(t, "2:ab;", full+"x")
		appendsNot(t, "2:a", full+sign+full)
		hasRecords(t, "MaxSave", record, len(record), full)
		hasRecords(t, "MaxSave", "0:;"+record+"1:a;", len(record)+7, "", full, "a")
		// one byte more is no record, though it has the form of one
		tooLong := "400001:" + full + "x;"
		hasNoRecords(t, "one byte more", tooLong)
		hasNoRecords(t, "one byte more", tooLong+"1:a;")
		hasRecords(t, "one byte more", "1:a;"+tooLong+"1:b;", 4, "a")
		hasNoRecords(t, "twice as many", "800000:"+full+full+";")
		// cut off
		for _, n := range []int{0, 1, 5, 6, 7, 8, 1000, len(record) - 2, len(record) - 1} {
			hasNoRecords(t, "cut off", impl.Torn(record, n))
			hasRecords(t, "cut off", impl.Torn(record+record, len(record)+n), len(record), full)
		}
		hasNoRecords(t, "a count too small", "399999:"+full[1:]+"x;")
		hasNoRecords(t, "a count too large", "400000:"+full[1:]+";")
	}
	// with the semicolon that its count asks for, such a text has a record of one byte less
	full := strings.Repeat("x", mostBytes-1) + ";"
	hasRecords(t, "a semicolon within", "399999:"+full+";", 7+mostBytes, full[:mostBytes-1])
}

func TestAppending(t *testing.T) {
	// to the empty journal
	appends(t, "", "", "0:;")
	appends(t, "", "a", "1:a;")
	appends(t, "", "the text", "8:the text;")
	// to a tidy one
	appends(t, "0:;", "", "0:;0:;")
	appends(t, "2:ab;", "c", "2:ab;1:c;")
	appends(t, "2:ab;", "", "2:ab;0:;")
	appends(t, "2:ab;", "3:x;", "2:ab;4:3:x;;")
	appends(t, "2:ab;1:c;", "2:ab;1:c;", "2:ab;1:c;9:2:ab;1:c;;")
	// to one with something behind its last record, or with no record at all: that stays
	appends(t, "2:ab;2:a", "cd", "2:ab;2:a2:cd;")
	appends(t, "x", "cd", "x2:cd;")
	appends(t, ";", "", ";0:;")
	appends(t, "2:ab;\n", "", "2:ab;\n0:;")
	for _, s := range oddTexts() {
		for _, r := range oddTexts() {
			appends(t, s, r, s+recordModel(r))
			appends(t, recordModel(s), r, recordModel(s)+recordModel(r))
			appends(t, recordModel(s)+r, s, recordModel(s)+r+recordModel(s))
		}
	}
}

func TestRecordsOneBehindTheOther(t *testing.T) {
	hasNoRecords(t, "nothing", "")
	hasRecords(t, "no bytes", "0:;", 3, "")
	hasRecords(t, "no bytes, three times", "0:;0:;0:;", 9, "", "", "")
	hasRecords(t, "one", "2:ab;", 5, "ab")
	hasRecords(t, "two", "2:ab;1:c;", 9, "ab", "c")
	hasRecords(t, "two", "0:;1:c;", 7, "", "c")
	hasRecords(t, "two", "1:c;0:;", 7, "c", "")
	hasRecords(t, "three", "2:ab;10:0123456789;3:\n\n\n;", 25, "ab", "0123456789", "\n\n\n")
	hasRecords(t, "records in records", "3:0:;;7:1:a;;;;;", 16, "0:;", "1:a;;;;")
	// something behind the last one
	for _, behind := range []string{"x", "\n", " ", ";", ":", "0", "1", "0:", "1:", "1:a", "2:a", "2:ab", "2:ab,", "3:ab;", "1:ab;", "02:ab;", "ab;", "-1:;", ":;", ";;", "400001:a;", "\x00", "\xff"} {
		hasNoRecords(t, "something alone", behind)
		hasRecords(t, "something behind", "2:ab;"+behind, 5, "ab")
		hasRecords(t, "something behind", "0:;"+behind, 3, "")
		hasRecords(t, "something behind", "0:;2:ab;0:;"+behind, 11, "", "ab", "")
		// no record is looked for behind what is none
		hasNoRecords(t, "something ahead", " "+behind+"1:c;")
		hasRecords(t, "something between", "2:ab;,"+behind+"1:c;", 5, "ab")
	}
	// what is appended to something may come to a record that was none
	hasRecords(t, "something completed", "2:ab;3:1:x;", 11, "ab", "1:x")
	hasRecords(t, "something completed", "2:ab;2:c2:de;", 5, "ab")
	hasRecords(t, "something completed", "2:ab;6:c2:de;;", 14, "ab", "c2:de;")
	hasRecords(t, "something completed", "9:;1:abcdef;", 12, ";1:abcdef")
}

func TestOddTextsInJournals(t *testing.T) {
	texts := oddTexts()
	hasRecords(t, "all of them", journalOf(texts...), len(journalOf(texts...)), texts...)
	for _, s := range texts {
		recordsAsTheyAre(t, "as a journal", s)
		for _, r := range texts {
			hasRecords(t, "two", journalOf(s, r), len(journalOf(s, r)), s, r)
			recordsAsTheyAre(t, "behind a record", recordModel(s)+r)
			recordsAsTheyAre(t, "ahead of a record", s+recordModel(r))
			isTheLast(t, "put behind", recordModel(s)+r, s)
			isTheLast(t, "put behind", s+r, r)
		}
	}
	journal := ""
	for i, s := range texts {
		journal = appends(t, journal, s, journalOf(texts[:i+1]...))
		hasRecords(t, "one by one", journal, len(journal), texts[:i+1]...)
	}
}

func TestJournalsCutOff(t *testing.T) {
	losesOnlyItsEnd(t)
	losesOnlyItsEnd(t, "")
	losesOnlyItsEnd(t, "a")
	losesOnlyItsEnd(t, "", "", "")
	losesOnlyItsEnd(t, "ab", "", "c")
	losesOnlyItsEnd(t, "0:;", "0:;0:;", "1:a;1:a;")
	losesOnlyItsEnd(t, "1:a;", "1:a", "1:", "1", "")
	losesOnlyItsEnd(t, ";", ";;", ":;", "0:;;")
	losesOnlyItsEnd(t, strings.Repeat("0:;", 40), strings.Repeat(";", 12), strings.Repeat("1", 111))
	losesOnlyItsEnd(t, strings.Repeat("x", 9), strings.Repeat("x", 10), strings.Repeat("x", 99), strings.Repeat("x", 100), strings.Repeat("x", 1000))
	losesOnlyItsEnd(t, oddTexts()...)
	for _, s := range oddTexts() {
		for _, r := range []string{"", "a", ";", "1:a;", s, recordModel(s)} {
			losesOnlyItsEnd(t, s, r)
			losesOnlyItsEnd(t, r, s, r)
		}
	}
	// a cut that leaves digits of a count which are one themselves
	j := journalOf("ab", "0123456789")
	hasRecords(t, "cut off", j, len(j), "ab", "0123456789")
	for n := 5; n < len(j); n++ {
		hasRecords(t, "cut off", impl.Torn(j, n), 5, "ab")
	}
}

func drawBytes(d *dice) string {
	const signs = "0123456789:;:;01\nab"
	list := []byte{}
	for range d.below(1 + d.below(24)) {
		list = append(list, signs[d.below(len(signs))])
	}
	return string(list)
}

func drawTexts(d *dice) []string {
	odd := oddTexts()
	texts := []string{}
	for range d.below(6) {
		if d.below(3) == 0 {
			texts = append(texts, odd[d.below(len(odd))])
		} else {
			texts = append(texts, drawBytes(d))
		}
	}
	return texts
}

func TestDrawnJournals(t *testing.T) {
	d := dice(156)
	for range 2000 {
		texts := drawTexts(&d)
		j := journalOf(texts...)
		hasRecords(t, "drawn", j, len(j), texts...)
		losesOnlyItsEnd(t, texts...)
		for range 4 {
			isTheLast(t, "drawn", j+drawBytes(&d), drawBytes(&d))
		}
	}
	counts := [4]int{}
	for range 200000 {
		counts[min(recordsAsTheyAre(t, "bytes", drawBytes(&d)), 3)]++
	}
	if slices.Min(counts[:2]) < 500 {
		t.Errorf("%v journals are too few", counts)
	}
}

func TestShortBytesAsJournals(t *testing.T) {
	// all texts of at most six of these bytes
	signs := []string{"0", "1", "2", ":", ";", "+"}
	texts := []string{""}
	counts := [4]int{}
	for range 6 {
		longer := []string{}
		for _, s := range texts {
			for _, sign := range signs {
				longer = append(longer, s+sign)
			}
		}
		for _, s := range longer {
			counts[recordsAsTheyAre(t, "short", s)]++
		}
		texts = longer
	}
	if slices.Min(counts[:3]) < 1 || counts[3] > 0 {
		t.Errorf("%v journals are not as they should be", counts)
	}
}

func TestBytesThatAreNoRecord(t *testing.T) {
	for name, list := range map[string][]string{
		"a needless nought":         {"00:;", "01:a;", "02:ab;", "002:ab;", "000:;", "010:0123456789;", "0000000002:ab;", strings.Repeat("0", 5000) + "2:ab;"},
		"a sign ahead":              {"+2:ab;", "-2:ab;", "+0:;", "-0:;", "--2:ab;", "++2:ab;", "-1:;", "-1:a;", "+02:ab;", "\u22122:ab;"},
		"another byte ahead":        {" 2:ab;", "\n2:ab;", "\t2:ab;", "\x002:ab;", ":2:ab;", ";2:ab;", "a2:ab;", ".2:ab;", "_2:ab;", "x2:ab;", "\xff2:ab;", "\ufeff2:ab;", "#2:ab;", ";;2:ab;"},
		"another byte in the count": {"2 :ab;", "2\n:ab;", "2a:ab;", "2.0:ab;", "2_:ab;", "1_0:0123456789;", "1 0:0123456789;", "2e0:ab;", "0x2:ab;", "0b10:ab;", "0o2:ab;", "x:ab;", "b:ab;", "two:ab;", "\u0662:ab;", "\u00b2:ab;", "\xb2:ab;", "2\x00:ab;", "2;:ab;", "2-:ab;", "1,0:0123456789;"},
		"no count":                  {":", ":;", ":a;", ":ab;", "::;", ";", ";;", "ab;", "a", " ", "\n", "\x00"},
		"a count too long":          {"10000000000:ab;", "4294967296:;", "4294967297:a;", "4294967298:ab;", "9223372036854775807:ab;", "9223372036854775808:ab;", "-9223372036854775808:ab;", "18446744073709551615:ab;", "18446744073709551616:;", "18446744073709551617:a;", "18446744073709551618:ab;", "340282366920938463463374607431768211458:ab;", strings.Repeat("2", 5000) + ":ab;", strings.Repeat("9", 1000000) + ":ab;"},
		"a count beyond MaxSave":    {"400001:ab;", "400002:ab;", "999999:ab;", "1000000:ab;", "999999999:ab;", "1000000000:ab;", "2147483647:ab;", "2147483648:ab;"},
		"no colon":                  {"2", "2ab;", "2;ab;", "2 ab;", "2.ab;", "2\uff1aab;", "0;", "0", "10", "1a;", "11;", "2;", strings.Repeat("1", 1000000)},
		"no semicolon":              {"2:ab,", "2:ab:", "2:ab", "2:ab.", "2:ab\n", "2:ab ", "2:ab\x00", "2:ab\uff1b", "2:ab\xbb", "0:", "0:a", "0::", "1:a", "1:aa", "10:0123456789:", "2:ab,;"},
		"a count one too small":     {"1:ab;", "0:a;", "9:0123456789;", "8:012345678;", "99:" + strings.Repeat("x", 100) + ";"},
		"a count one too large":     {"3:ab;", "2:a;", "1:;", "11:0123456789;", "101:" + strings.Repeat("x", 100) + ";", "3:ab;1:c;", "4:ab;1:c;"},
		"a byte too many":           {"2:abc;", "2:ab ;", "2:\nab;", "2::ab;", "22:ab;", "2:ab\n;", "0:\n;", "0: ;", "20:ab;"},
	} {
		for _, j := range list {
			hasNoRecords(t, name, j)
			hasRecords(t, name+", behind a record", "3:x:;;"+j, 6, "x:;")
			isTheLast(t, name, "0:;"+j, "a")
			if len(j) < 1000 {
				recordsAsTheyAre(t, name+", ahead of a record", j+"1:a;")
			}
		}
	}
	// a count that is too large takes what stands behind, where a semicolon follows
	hasRecords(t, "a semicolon within", "3:ab;;", 6, "ab;")
	hasRecords(t, "a semicolon within", "1:a;b;", 4, "a")
	hasRecords(t, "a count one too small", "1:a;;", 4, "a")
	hasRecords(t, "a count too large", "5:ab;1:;0:;", 11, "ab;1:", "")
}

func TestJournalsWithOneByteOther(t *testing.T) {
	counts := [2]int{}
	for _, texts := range [][]string{
		{}, {""}, {"a"}, {"ab"}, {"", ""}, {"a", "", "bc"}, {"0:;"}, {";"}, {":", ";;"}, {"1:a;", "b"}, {"0123456789", "x"}, {"\n", "1", "22", "333"}, {"2:ab;1:c;", "2:ab;"}, {"012345678901", ";;;;;;;;;;;;", "0:;0:;0:;0:;"}, {strings.Repeat(";", 30), "1"},
	} {
		j := journalOf(texts...)
		hasRecords(t, "right", j, len(j), texts...)
		oneByteOther(j, func(j string) {
			left := recordsAsTheyAre(t, "one byte other", j)
			counts[one(left > 0)]++
		})
	}
	if slices.Min(counts[:]) < 1000 {
		t.Errorf("%v journals are too few", counts)
	}
}

func TestWornJournals(t *testing.T) {
	d := dice(157)
	counts := [4]int{}
	for range 60000 {
		j := journalOf(drawTexts(&d)...)
		for range 1 + d.below(3) {
			at, to := d.below(len(j)+1), d.below(len(j)+1)
			switch d.below(4) {
			case 0:
				j = j[:at] + drawBytes(&d) + j[at:]
			case 1:
				j = j[:at] + j[min(len(j), at+1+d.below(3)):]
			case 2:
				j = j[:min(at, to)] + j[max(at, to):]
			case 3:
				j = j[:at] + j[to:]
			}
		}
		counts[min(recordsAsTheyAre(t, "worn", j), 3)]++
		isTheLast(t, "worn", j, drawBytes(&d))
	}
	if slices.Min(counts[:]) < 1000 {
		t.Errorf("%v journals are too few", counts)
	}
}

// fullTexts have records of MaxJournal bytes in all.
func fullTexts(t *testing.T, sign string) []string {
	t.Helper()
	long := strings.Repeat(sign, mostBytes)
	texts := []string{long[:mostBytes], long[:mostBytes], long[:mostBytes], long[:mostBytes], long[:mostJournal-4*400008-8]}
	want(t, "bytes of the journal", len(journalOf(texts...)), mostJournal)
	return texts
}

func TestJournalsOfMaxJournalBytes(t *testing.T) {
	for _, sign := range []string{"x", ";", "0:;", "\n"} {
		texts := fullTexts(t, sign)
		most := len(texts) - 1
		last := texts[most]
		full, ahead := journalOf(texts...), journalOf(texts[:most]...)
		// met just so
		appends(t, ahead, last, full)
		appends(t, ahead, last[1:], ahead+recordModel(last[1:]))
		hasRecords(t, "full", full, mostJournal, texts...)
		hasRecords(t, "one byte less", full[:mostJournal-1], len(ahead), texts[:most]...)
		hasRecords(t, "full with something behind", ahead+strings.Repeat("x", mostJournal-len(ahead)), len(ahead), texts[:most]...)
		// passed by one, and by more
		appendsNot(t, ahead, last+sign[:1])
		appendsNot(t, ahead, last+"xx")
		appendsNot(t, ahead, texts[0])
		appendsNot(t, ahead+"x", last)
		appendsNot(t, full, "")
		appendsNot(t, full, "a")
		appendsNot(t, full[:mostJournal-1], "")
		appendsNot(t, full[:mostJournal-2], "")
		appends(t, full[:mostJournal-3], "", full[:mostJournal-3]+"0:;")
		appendsNot(t, full[:mostJournal-3], "a")
		appends(t, full[:mostJournal-4], "a", full[:mostJournal-4]+"1:a;")
		for _, behind := range []string{"x", ";", "0:;", "\n", full} {
			hasNoRecords(t, "beyond MaxJournal", full+behind)
			hasNoRecords(t, "beyond MaxJournal", behind+full)
			appendsNot(t, full+behind, "")
			appendsNot(t, full+behind, texts[0])
			appendsNot(t, full+behind, texts[0]+"x")
			tornIs(t, full+behind, mostJournal, full)
			hasRecords(t, "cut off again", impl.Torn(full+behind, mostJournal), mostJournal, texts...)
			tornIs(t, full+behind, math.MaxInt, full+behind)
			tornIs(t, full+behind, mostJournal+1, full+behind[:1])
		}
		want(t, "a record of its length", len(journalOf(append(texts[:most:most], last+"x")...)), mostJournal+1)
		hasNoRecords(t, "one byte more", journalOf(append(texts[:most:most], last+"x")...))
	}
}

func TestFullJournalsCutOff(t *testing.T) {
	texts := fullTexts(t, "1:a;")
	j := journalOf(texts...)
	size := len(recordModel(texts[0]))
	for i := range texts {
		for _, n := range []int{0, 1, 6, 7, 8, 399968 - 1} {
			hasRecords(t, "cut off", impl.Torn(j, i*size+n), i*size, texts[:i]...)
		}
	}
	for i := range texts {
		again := impl.Tidy(impl.Torn(j, i*size+400))
		for _, s := range texts[i:] {
			again = appends(t, again, s, again+recordModel(s))
		}
		want(t, "comes back", one(again == j), 1)
	}
}

func TestMostRecords(t *testing.T) {
	most := mostJournal / 3
	j := strings.Repeat("0:;", most)
	hasRecords(t, "no bytes each", j, len(j), slices.Repeat([]string{""}, most)...)
	hasRecords(t, "no bytes each", j+"0:", len(j), slices.Repeat([]string{""}, most)...)
	hasNoRecords(t, "one more", j+"0:;")
	appendsNot(t, j, "")
	j = strings.Repeat("1:;;", mostJournal/4)
	hasRecords(t, "a semicolon each", j, mostJournal, slices.Repeat([]string{";"}, mostJournal/4)...)
	appendsNot(t, j, "")
	// no record at all
	for _, sign := range []string{"0", "1", ":", ";", ":;", "1:", "x", "\n", "00:;"} {
		long := strings.Repeat(sign, mostJournal+1)
		hasNoRecords(t, "no record", long[:mostJournal])
		hasNoRecords(t, "no record", long[:mostJournal+1])
	}
}

func TestTorn(t *testing.T) {
	tornIs(t, "2:ab;1:c;", 0, "")
	tornIs(t, "2:ab;1:c;", 1, "2")
	tornIs(t, "2:ab;1:c;", 5, "2:ab;")
	tornIs(t, "2:ab;1:c;", 6, "2:ab;1")
	tornIs(t, "2:ab;1:c;", 8, "2:ab;1:c")
	tornIs(t, "2:ab;1:c;", 9, "2:ab;1:c;")
	tornIs(t, "2:ab;1:c;", 10, "2:ab;1:c;")
	// bytes, not signs
	tornIs(t, "\u4e16\u754c", 4, "\u4e16\xe7")
	long := strings.Repeat("1:a;", mostJournal/4+5)
	for _, j := range append(oddTexts(), journalOf(oddTexts()...), long) {
		for _, n := range []int{math.MinInt, math.MinInt + 1, -1 << 32, -len(j) - 1, -len(j), -2, -1, 0} {
			tornIs(t, j, min(n, 0), "")
		}
		for _, n := range []int{len(j), len(j) + 1, len(j) + 2, 2*len(j) + 1, 1 << 32, 1<<32 + 1, math.MaxInt - 1, math.MaxInt} {
			tornIs(t, j, max(n, len(j)), j)
		}
		for _, n := range farNumbers() {
			tornIs(t, j, n, j[:max(0, min(n, len(j)))])
		}
		for n := range min(len(j), 500) {
			tornIs(t, j, n, j[:n])
		}
	}
}

func TestTidyOnceMore(t *testing.T) {
	d := dice(158)
	for range 20000 {
		j := journalOf(drawTexts(&d)...) + drawBytes(&d)
		tidy := impl.Tidy(j)
		if impl.Tidy(tidy) != tidy || !strings.HasPrefix(j, tidy) {
			t.Fatalf("Tidy of %q is %q, and of that %q", j, tidy, impl.Tidy(tidy))
		}
		texts, _ := impl.Records(tidy)
		if journalOf(texts...) != tidy {
			t.Fatalf("Tidy of %q is %q, which is not %q", j, tidy, texts)
		}
	}
}

func TestMachinesInJournals(t *testing.T) {
	d := dice(159)
	m := started(t, flags("asas"), evenTable(&d, 4), 3)
	j, texts, ends := "", []string{}, []int{}
	for !m.Over {
		m = impl.MachineStep(m)
		text, _ := impl.SaveMachine(m)
		j, texts = appends(t, j, text, j+recordModel(text)), append(texts, text)
		ends = append(ends, len(j))
		last, _ := impl.Last(j)
		loads(t, "the last record", last, m)
	}
	hasRecords(t, "all steps", j, len(j), texts...)
	for i, end := range ends {
		for n := end; i+1 < len(ends) && n < ends[i+1]; n += 1 + d.below(9) {
			hasRecords(t, "cut off", impl.Torn(j, n), end, texts[:i+1]...)
		}
	}
}

func TestJournalsAreNotWrittenInto(t *testing.T) {
	for _, behind := range []string{"", "x", "2:a", "0:;", strings.Repeat("1:;;", 50)} {
		for _, s := range oddTexts() {
			// bytes of our own, so that the texts handed in share with nothing else
			j := string([]byte("2:ab;0:;" + behind))
			before := strings.Clone(j)
			text := strings.Clone(s)
			longer, _ := impl.Append(j, text)
			kept := strings.Clone(longer)
			texts, end := impl.Records(longer)
			first := slices.Clone(texts)
			for i := range texts {
				texts[i] = "written over"
			}
			_ = append(texts, "written behind")
			again, endAgain := impl.Records(longer)
			if !slices.Equal(again, first) || end != endAgain {
				t.Fatalf("Records of %q is %q, %d first and %q, %d then", longer, first, end, again, endAgain)
			}
			impl.Record(text)
			impl.Last(longer)
			impl.Torn(longer, 7)
			impl.Tidy(longer)
			if j != before || text != s || longer != kept {
				t.Fatalf("%q, %q, %q were %q, %q, %q", j, text, longer, before, s, kept)
			}
		}
	}
}
