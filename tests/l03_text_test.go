package tests

import (
	"fmt"
	"regexp"
	"slices"
	"strconv"
	"strings"
	"testing"

	"loop.example/g00123/impl"
)

var (
	passedForm = regexp.MustCompile(`(?s)\A(c( .*)?)?\z`)
	headForm   = regexp.MustCompile(`\Ap cnf ([0-9]|1[0-9]|2[0-4]) ([0-9]|[1-9][0-9]|1[01][0-9]|120)\z`)
)

func formulaText(f impl.Cnf) string {
	if !isFormula(f) {
		return ""
	}
	text := fmt.Sprintf("p cnf %d %d\n", f.N, len(f.Clauses))
	for _, c := range f.Clauses {
		text += clauseText(c) + "\n"
	}
	if len(text) > 12000 {
		return ""
	}
	return text
}

func numbersOf(s string) []int {
	var out []int
	for _, word := range strings.Fields(s) {
		x, _ := strconv.Atoi(word)
		out = append(out, x)
	}
	return out
}

// formulaOf is what ReadCnf must answer, worked out by the forms of the lines.
func formulaOf(s string) (impl.Cnf, int, int) {
	if len(s) > 12000 || s != "" && !strings.HasSuffix(s, "\n") {
		return impl.Cnf{}, 1, 0
	}
	lines := strings.Split(s, "\n")
	behind := len(lines)
	f, count := impl.Cnf{N: -1}, 0
	for i, line := range lines[:behind-1] {
		switch {
		case passedForm.MatchString(line):
		case f.N < 0:
			m := headForm.FindStringSubmatch(line)
			if m == nil {
				return impl.Cnf{}, 2, i + 1
			}
			f.N, count = numbersOf(m[1])[0], numbersOf(m[2])[0]
		case !clauseTextForm.MatchString(line) || !isClauseOf(numbersOf(line[:len(line)-1]), f.N):
			return impl.Cnf{}, 3, i + 1
		case len(f.Clauses) == count:
			return impl.Cnf{}, 4, i + 1
		default:
			f.Clauses = append(f.Clauses, numbersOf(line[:len(line)-1]))
		}
	}
	if f.N < 0 {
		return impl.Cnf{}, 2, behind
	}
	if len(f.Clauses) < count {
		return impl.Cnf{}, 5, behind
	}
	return f, 0, 0
}

func checkText(t *testing.T, s string) {
	t.Helper()
	f, code, line := impl.ReadCnf(s)
	want, wantCode, wantLine := formulaOf(s)
	if code != wantCode || line != wantLine || f.N != want.N || !sameLists(f.Clauses, want.Clauses) {
		t.Errorf("ReadCnf of %q: %v %d %d, want %v %d %d", s, f, code, line, want, wantCode, wantLine)
	}
}

// checkRefused knows the code and the line apart from formulaOf.
func checkRefused(t *testing.T, s string, code int, line int) {
	t.Helper()
	f, gotCode, gotLine := impl.ReadCnf(s)
	if gotCode != code || gotLine != line || f.N != 0 || len(f.Clauses) > 0 {
		t.Errorf("ReadCnf of %q: %v %d %d, want %d %d", s, f, gotCode, gotLine, code, line)
	}
	checkText(t, s)
}

func checkTaken(t *testing.T, s string, n int, clauses ...[]int) {
	t.Helper()
	f, code, line := impl.ReadCnf(s)
	if code != impl.ReadOk || line != 0 {
		t.Errorf("ReadCnf of %q is refused: %d %d", s, code, line)
	}
	checkCnf(t, fmt.Sprintf("ReadCnf of %q", s), f, n, clauses...)
	checkText(t, s)
}

// longFormula has a text of just that many bytes (11773 .. 12400), all clauses being as long as they may be.
func longFormula(size int) impl.Cnf {
	f := impl.Cnf{N: 24}
	for range 120 {
		f.Clauses = append(f.Clauses, repeated(1, 48))
	}
	for i := range size - 11773 {
		f.Clauses[i/48][i%48] = -1
	}
	return f
}

func someTexts(seed uint64) []string {
	var texts []string
	for _, f := range append(edgeFormulas(), someFormulas(seed, 60)...) {
		if s := formulaText(f); s != "" && len(s) < 200 {
			texts = append(texts, s)
		}
	}
	return texts
}

func TestConstantsOfTexts(t *testing.T) {
	if impl.MaxText != 12000 || !slices.Equal([]int{impl.ReadOk, impl.ReadLong, impl.ReadHead, impl.ReadLine, impl.ReadMany, impl.ReadFew}, []int{0, 1, 2, 3, 4, 5}) {
		t.Fatal("constants")
	}
}

func TestCnfText(t *testing.T) {
	for _, k := range []struct {
		f    impl.Cnf
		want string
	}{
		{impl.Cnf{}, "p cnf 0 0\n"}, {impl.Cnf{N: 24}, "p cnf 24 0\n"}, {impl.Cnf{N: 0, Clauses: [][]int{{}, nil}}, "p cnf 0 2\n0\n0\n"},
		{impl.Cnf{N: 3, Clauses: [][]int{{3, -1, 3}, {2, -2}, {}}}, "p cnf 3 3\n3 -1 3 0\n2 -2 0\n0\n"},
		{repeatedClause(20, []int{-20}, 120), "p cnf 20 120\n" + strings.Repeat("-20 0\n", 120)},
		{impl.Cnf{N: 25}, ""}, {impl.Cnf{N: -1}, ""}, {impl.Cnf{N: 2, Clauses: [][]int{{3}}}, ""}, {impl.Cnf{N: 2, Clauses: [][]int{{1}, {0}}}, ""},
		{repeatedClause(20, []int{-20}, 121), ""}, {impl.Cnf{N: 1, Clauses: [][]int{repeated(1, 49)}}, ""}, {impl.Cnf{N: 2, Clauses: [][]int{{257}}}, ""},
	} {
		if got := impl.CnfText(k.f); got != k.want {
			t.Errorf("CnfText of %v: %q, want %q", k.f, got, k.want)
		}
	}
	for _, f := range append(edgeFormulas(), someFormulas(31, 200)...) {
		if got := impl.CnfText(f); got != formulaText(f) {
			t.Errorf("CnfText of %v: %q", f, got)
		}
	}
}

func TestCnfTextOfMaxTextBytes(t *testing.T) {
	for _, k := range []struct {
		size int
		want int
	}{{11773, 11773}, {11999, 11999}, {12000, 12000}, {12001, 0}, {12002, 0}, {12400, 0}} {
		f := longFormula(k.size)
		if !impl.CnfOk(f) {
			t.Fatal("no formula of", k.size)
		}
		text := impl.CnfText(f)
		if len(text) != k.want || text != formulaText(f) {
			t.Errorf("CnfText that would have %d bytes has %d", k.size, len(text))
		}
		if k.want > 0 {
			checkTaken(t, text, 24, f.Clauses...)
		}
	}
	if impl.CnfText(repeatedClause(24, repeated(-24, 48), 120)) != "" {
		t.Error("the longest formula of all has a text")
	}
}

// Promise 3: a formula that has a text comes back from it, also with comments and empty lines put between its lines.
func TestFormulaComesBack(t *testing.T) {
	d := &dice{32}
	fs := append(edgeFormulas(), someFormulas(32, 300)...)
	for range 60 {
		fs = append(fs, d.formula(24, 120, 20), d.formula(d.below(25), 10, 48))
	}
	passed := []string{"", "c", "c ", "c  ", "c x", "c p cnf 1 1", "c 1 0", "c c", "c \x00\xff\r"}
	for _, f := range fs {
		text := impl.CnfText(f)
		if text == "" {
			continue
		}
		checkTaken(t, text, f.N, f.Clauses...)
		mixed := ""
		for _, line := range strings.SplitAfter(text, "\n") {
			for range d.below(3) {
				mixed += passed[d.below(len(passed))] + "\n"
			}
			mixed += line
		}
		if len(mixed) <= 12000 {
			checkTaken(t, mixed, f.N, f.Clauses...)
		}
	}
}

func TestReadCnfOfMaxTextBytes(t *testing.T) {
	const text = "p cnf 2 1\n-2 1 0\n"
	comment := func(size int) string { return "c " + strings.Repeat("x", size-3) + "\n" }
	for _, k := range []struct {
		s    string
		size int
	}{
		{text + comment(12000-len(text)), 12000}, {comment(12000-len(text)) + text, 12000}, {text + strings.Repeat("\n", 12000-len(text)), 12000},
		{strings.Repeat("\n", 12000-len(text)) + text, 12000}, {text + comment(11999-len(text)), 11999},
	} {
		if len(k.s) != k.size {
			t.Fatal("the test's own text has", len(k.s))
		}
		checkTaken(t, k.s, 2, []int{-2, 1})
	}
	for _, s := range []string{
		text + comment(12001-len(text)), comment(12001-len(text)) + text, text + strings.Repeat("\n", 12001-len(text)),
		strings.Repeat("x\n", 6001), strings.Repeat("x", 12001), strings.Repeat("c", 1000000), strings.Repeat("\n", 12001), text + strings.Repeat("1 0\n", 3000),
	} {
		checkRefused(t, s, impl.ReadLong, 0)
	}
	checkRefused(t, strings.Repeat("\n", 12000), impl.ReadHead, 12001)
	checkRefused(t, strings.Repeat("c\n", 6000), impl.ReadHead, 6001)
	checkRefused(t, strings.Repeat("\n", 11998)+"x\n", impl.ReadHead, 11999)
}

func TestReadCnfOfLastLineWithoutNewline(t *testing.T) {
	for _, s := range []string{"p cnf 1 0", "p cnf 1 1\n1 0", "c", "c x", "x", " ", "x\ny", "p cnf 1 0\nc", "p cnf 1 0\n1 0\n1", "p cnf 1 1\n0\n ", "\n\nc", "p cnf 25 0", "p cnf 1 0\n\r", "\r", "p cnf 1 0\n\x00"} {
		checkRefused(t, s, impl.ReadLong, 0)
	}
}

func TestReadCnfOfNoHead(t *testing.T) {
	checkRefused(t, "", impl.ReadHead, 1)
	checkRefused(t, "\n", impl.ReadHead, 2)
	checkRefused(t, "c\n", impl.ReadHead, 2)
	checkRefused(t, "c\n\nc some words\n", impl.ReadHead, 4)
	checkRefused(t, "c p cnf 1 0\n", impl.ReadHead, 2)
	checkRefused(t, "1 0\np cnf 1 1\n", impl.ReadHead, 1)
	checkRefused(t, "c\n\n0\n", impl.ReadHead, 3)
}

func TestReadCnfOfWrongHeads(t *testing.T) {
	for _, head := range []string{
		// Needless noughts and signs.
		"p cnf 01 0", "p cnf 1 00", "p cnf 00 0", "p cnf 1 01", "p cnf +1 0", "p cnf 1 +0", "p cnf -0 0", "p cnf 1 -0", "p cnf 024 0", "p cnf 1 0120",
		// Blanks.
		" p cnf 1 0", "p cnf 1 0 ", "p  cnf 1 0", "p cnf  1 0", "p cnf 1  0", "p\tcnf 1 0", "p cnf\t1 0", "p cnf 1\t0", "p cnf 1 0\r", "p cnf 1 0\t", "p cnf 1\u00a00", " ", "  ", "   ", "\r", "\t",
		// Words too few, too many, or others.
		"p", "p cnf", "p cnf 1", "p cnf 1 ", "p cnf  ", "p cnf 1 0 0", "p cnf 1 0 c", "cnf 1 0", "pcnf 1 0", "p cnf1 0", "p cnf 10", "P cnf 1 0", "p CNF 1 0", "p dnf 1 0", "q cnf 1 0", "cnf p 1 0", "p cnf 1 x", "p cnf x 0", "p cnf 1.0 0", "p cnf 0x1 0", "p cnf 1_0 0", "p cnf １ 0", "p cnf 1 0\x00",
		// N below 0 or above MaxVars, clauses below 0 or above MaxClauses, numbers that would wrap.
		"p cnf -1 0", "p cnf 25 0", "p cnf 100 0", "p cnf 256 0", "p cnf 1 -1", "p cnf 1 121", "p cnf 1 256", "p cnf 1 1000", "p cnf 4294967296 0", "p cnf 18446744073709551616 0", "p cnf 18446744073709551617 0", "p cnf 1 18446744073709551616", "p cnf -9223372036854775808 0", "p cnf 1 9223372036854775807", "p cnf 1 " + strings.Repeat("0", 5000), "p cnf " + strings.Repeat("9", 5000) + " 0",
		// No comments.
		"cx", "c\tx", "cc", "C", "C x", "c\r", " c", " c x", "# x", "0", "1 0",
	} {
		for _, ahead := range []string{"", "\n", "c\n", "c x\n\nc p cnf 1 0\n"} {
			line := strings.Count(ahead, "\n") + 1
			checkRefused(t, ahead+head+"\n", impl.ReadHead, line)
			checkRefused(t, ahead+head+"\np cnf 1 0\n", impl.ReadHead, line)
			checkRefused(t, ahead+head+"\n1 0\nx\n", impl.ReadHead, line)
		}
	}
	for n := -3; n < 300; n++ {
		checkText(t, fmt.Sprintf("p cnf %d 0\n", n))
		checkText(t, fmt.Sprintf("p cnf 1 %d\n%s", n, strings.Repeat("0\n", max(n, 0))))
	}
	checkTaken(t, "p cnf 24 0\n", 24)
	checkTaken(t, "p cnf 0 0\n", 0)
	checkTaken(t, "p cnf 0 120\n"+strings.Repeat("0\n", 120), 0, make([][]int, 120)...)
	checkRefused(t, "p cnf 0 121\n"+strings.Repeat("0\n", 121), impl.ReadHead, 1)
}

func TestReadCnfOfComments(t *testing.T) {
	checkTaken(t, "c\np cnf 2 1\nc\n2 0\nc\n", 2, []int{2})
	checkTaken(t, "c \np cnf 2 1\nc 1 0\n2 0\nc p cnf 1 1\n", 2, []int{2})
	checkTaken(t, "\n\np cnf 2 1\n\n\n2 0\n\n\n", 2, []int{2})
	for _, line := range []string{"cx", "c\t", "cc", "c\r", "c0", "C", " c", " ", "  ", "\t", "\r", "#"} {
		checkRefused(t, line+"\np cnf 2 1\n2 0\n", impl.ReadHead, 1)
		checkRefused(t, "p cnf 2 1\n"+line+"\n2 0\n", impl.ReadLine, 2)
		checkRefused(t, "\np cnf 2 1\nc\n"+line+"\n2 0\n", impl.ReadLine, 4)
		checkRefused(t, "p cnf 2 1\n2 0\n\n"+line+"\n", impl.ReadLine, 4)
	}
}

func TestReadCnfOfWrongClauses(t *testing.T) {
	for _, line := range []string{
		"3 0", "-3 0", "1 3 0", "24 0", "25 0", "-25 0", "257 0", "1", "1 ", "1 2", "00", "-0", "0 ", " 0", "0 0", "1  0", " 1 0", "1 0 ", "1\t0", "1 0\r", "01 0", "+1 0", "-01 0", "--1 0",
		"1 0 2 0", "1 x 0", "x", "p cnf 2 1", "1,2,0", strings.Repeat("1 ", 49) + "0", "18446744073709551617 0", "1 00", "1 -0", "１ 0", "0\x00",
	} {
		checkRefused(t, "p cnf 2 2\n"+line+"\n1 0\n", impl.ReadLine, 2)
		checkRefused(t, "p cnf 2 2\n1 0\n"+line+"\n", impl.ReadLine, 3)
		checkRefused(t, "c\n\np cnf 2 3\nc 1\n1 0\n\n"+line+"\nx\n", impl.ReadLine, 7)
	}
	checkTaken(t, "p cnf 2 3\n-2 0\n"+strings.Repeat("1 ", 48)+"0\n0\n", 2, []int{-2}, repeated(1, 48), nil)
	checkRefused(t, "p cnf 0 1\n1 0\n", impl.ReadLine, 2)
	checkTaken(t, "p cnf 0 1\n0\n", 0, nil)
	for n := 0; n <= 24; n++ {
		for _, x := range allLiterals() {
			checkText(t, fmt.Sprintf("p cnf %d 1\n%d 0\n", n, x))
		}
	}
}

func TestReadCnfOfTooManyAndTooFew(t *testing.T) {
	checkRefused(t, "p cnf 1 0\n0\n", impl.ReadMany, 2)
	checkRefused(t, "p cnf 1 1\n1 0\n1 0\n1 0\n", impl.ReadMany, 3)
	checkRefused(t, "p cnf 1 1\nc\n\n1 0\nc\n-1 0\nx\n", impl.ReadMany, 6)
	checkRefused(t, "p cnf 1 120\n"+strings.Repeat("1 0\n", 121), impl.ReadMany, 122)
	checkRefused(t, "p cnf 1 1\n", impl.ReadFew, 2)
	checkRefused(t, "p cnf 1 1\nc\n\n", impl.ReadFew, 4)
	checkRefused(t, "\np cnf 1 3\n1 0\n1 0\nc 1 0\n", impl.ReadFew, 6)
	checkRefused(t, "p cnf 1 120\n"+strings.Repeat("1 0\n", 119), impl.ReadFew, 121)
	// A line that is no clause is that first, behind the last clause too.
	checkRefused(t, "p cnf 1 0\nx\n", impl.ReadLine, 2)
	checkRefused(t, "p cnf 1 1\n1 0\n2 0\n", impl.ReadLine, 3)
	checkRefused(t, "p cnf 1 1\n1 0\n2 0\n1 0\n", impl.ReadLine, 3)
	checkRefused(t, "p cnf 1 1\n1 0\n1 0\n2 0\n", impl.ReadMany, 3)
	checkRefused(t, "p cnf 1 1\n1 0\np cnf 1 1\n", impl.ReadLine, 3)
	checkRefused(t, "p cnf 1 2\nx\n", impl.ReadLine, 2)
}

// Promise 3: a text is refused at its first line that is wrong: every text of at most five of these lines.
func TestReadCnfOfEveryFewLines(t *testing.T) {
	lines := []string{"", "c", "c 1 0", "cx", "p cnf 2 0", "p cnf 1 2", "p cnf 2 02", "0", "-1 0", "2 0", "1"}
	texts := []string{""}
	for range 5 {
		var longer []string
		for _, s := range texts {
			for _, line := range lines {
				longer = append(longer, s+line+"\n")
			}
		}
		texts = longer
		for _, s := range texts {
			checkText(t, s)
		}
	}
}

func TestReadCnfOfTextsWithOneFault(t *testing.T) {
	const signs = "0129 -+\n\tcpx"
	for _, s := range someTexts(33) {
		for i := 0; i <= len(s); i++ {
			if i < len(s) {
				checkText(t, s[:i])
				checkText(t, s[:i]+s[i+1:])
			}
			for _, b := range signs {
				checkText(t, s[:i]+string(b)+s[i:])
				if i < len(s) {
					checkText(t, s[:i]+string(b)+s[i+1:])
				}
			}
		}
	}
}

func TestReadCnfOfAnyBytes(t *testing.T) {
	const signs = "0012 -\n\ncp \xff\x00\r"
	d := &dice{34}
	for range 20000 {
		b := make([]byte, d.below(30))
		for i := range b {
			b[i] = signs[d.below(len(signs))]
		}
		checkText(t, string(b))
		checkText(t, "p cnf 2 2\n"+string(b))
		checkText(t, "p cnf 2 2\n"+string(b)+"\n")
	}
}

// assignmentText goes by what AssignText is said to be: the true literals in order.
func assignmentText(a []int) string {
	if len(a) > 24 {
		return ""
	}
	text := ""
	for i, value := range a {
		switch value {
		case 0:
			text += "-" + strconv.Itoa(i+1) + " "
		case 1:
			text += strconv.Itoa(i+1) + " "
		default:
			return ""
		}
	}
	return text + "0"
}

func TestAssignText(t *testing.T) {
	for _, k := range []struct {
		a    []int
		want string
	}{
		{nil, "0"}, {[]int{}, "0"}, {[]int{0}, "-1 0"}, {[]int{1}, "1 0"}, {[]int{0, 1, 0}, "-1 2 -3 0"},
		{[]int{2}, ""}, {[]int{-1}, ""}, {[]int{0, 1, 2}, ""}, {[]int{257}, ""}, {[]int{1, 256}, ""},
		{repeated(1, 24), "1 2 3 4 5 6 7 8 9 10 11 12 13 14 15 16 17 18 19 20 21 22 23 24 0"},
		{repeated(0, 24), "-1 -2 -3 -4 -5 -6 -7 -8 -9 -10 -11 -12 -13 -14 -15 -16 -17 -18 -19 -20 -21 -22 -23 -24 0"},
		{repeated(1, 25), ""}, {repeated(0, 25), ""}, {repeated(0, 48), ""}, {repeated(0, 49), ""}, {repeated(1, 256), ""}, {append(repeated(0, 23), 3), ""},
	} {
		if got := impl.AssignText(k.a); got != k.want {
			t.Errorf("AssignText of %v: %q, want %q", k.a, got, k.want)
		}
	}
	for _, x := range edgeNumbers() {
		for place := range 24 {
			a := repeated(1, 24)
			a[place] = x
			if got := impl.AssignText(a); got != assignmentText(a) {
				t.Errorf("AssignText with %d at place %d: %q", x, place, got)
			}
		}
	}
}

// checkAssign asks ReadAssign at every number of variables there may be, and beyond.
func checkAssign(t *testing.T, s string) {
	t.Helper()
	for n := -2; n <= 50; n++ {
		checkAssignOf(t, s, n)
	}
	for _, n := range edgeNumbers() {
		checkAssignOf(t, s, n)
	}
}

// assignOf reads an assignment by the form of its text.
func assignOf(s string, n int) ([]int, bool) {
	if !clauseTextForm.MatchString(s) {
		return nil, false
	}
	var a []int
	for _, x := range numbersOf(s[:len(s)-1]) {
		a = append(a, max(0, min(1, x)))
	}
	if len(a) != n || assignmentText(a) != s {
		return nil, false
	}
	return a, true
}

func checkAssignOf(t *testing.T, s string, n int) {
	t.Helper()
	want, wantOk := assignOf(s, n)
	a, ok := impl.ReadAssign(s, n)
	if ok != wantOk || !slices.Equal(a, want) {
		t.Errorf("ReadAssign of %q and %d: %v %v, want %v %v", s, n, a, ok, want, wantOk)
	}
	// What is taken is the AssignText of what is answered.
	if ok && (impl.AssignText(a) != s || len(a) != n) {
		t.Errorf("ReadAssign of %q and %d: %v has another text", s, n, a)
	}
}

// Promise 3: an assignment comes back from its own text.
func TestAssignmentComesBack(t *testing.T) {
	d := &dice{35}
	var all [][]int
	for n := range 8 {
		all = append(all, allAssignments(n)...)
	}
	for n := range 25 {
		for range 20 {
			all = append(all, d.assignment(n))
		}
		all = append(all, repeated(0, n), repeated(1, n))
	}
	for _, a := range all {
		s := impl.AssignText(a)
		if s != assignmentText(a) {
			t.Errorf("AssignText of %v: %q", a, s)
		}
		got, ok := impl.ReadAssign(s, len(a))
		if !ok || !slices.Equal(got, a) {
			t.Errorf("%v came back as %v %v", a, got, ok)
		}
		checkAssign(t, s)
	}
}

func TestReadAssignAtTheEdges(t *testing.T) {
	full := assignmentText(repeated(1, 24))
	for _, k := range []struct {
		s    string
		n    int
		want []int
		ok   bool
	}{
		{"0", 0, nil, true}, {"0", 1, nil, false}, {"0", -1, nil, false}, {"", 0, nil, false}, {"", -1, nil, false}, {"", 25, nil, false}, {"", 1, nil, false},
		{"1 -2 0", 2, []int{1, 0}, true}, {"1 -2 0", 1, nil, false}, {"1 -2 0", 3, nil, false},
		// Out of order, told twice, left out, beyond n.
		{"-2 1 0", 2, nil, false}, {"1 1 0", 2, nil, false}, {"1 -1 0", 2, nil, false}, {"1 1 2 0", 2, nil, false}, {"2 0", 2, nil, false}, {"2 0", 1, nil, false}, {"1 3 0", 3, nil, false}, {"1 3 0", 2, nil, false}, {"1 2 3 0", 2, nil, false},
		{full, 24, repeated(1, 24), true}, {full, 25, nil, false}, {full, 23, nil, false}, {full[:len(full)-1] + "25 0", 25, nil, false}, {full[:len(full)-1] + "24 0", 25, nil, false}, {full[:len(full)-1] + "-24 0", 25, nil, false}, {full[:len(full)-1] + full, 48, nil, false},
		{"1 -2 0\n", 2, nil, false}, {" 1 -2 0", 2, nil, false}, {"1 -2", 2, nil, false}, {"1  -2 0", 2, nil, false}, {"+1 -2 0", 2, nil, false}, {"01 -2 0", 2, nil, false}, {"1 -2 00", 2, nil, false}, {"1 0 0", 2, nil, false},
	} {
		a, ok := impl.ReadAssign(k.s, k.n)
		if ok != k.ok || !slices.Equal(a, k.want) {
			t.Errorf("ReadAssign of %q and %d: %v %v", k.s, k.n, a, ok)
		}
		checkAssign(t, k.s)
	}
}

func TestReadAssignOfEveryShortList(t *testing.T) {
	lists := [][]int{{}}
	for range 4 {
		var longer [][]int
		for _, c := range lists {
			for _, x := range []int{1, -1, 2, -2, 3, -3, 4, -4} {
				longer = append(longer, append(slices.Clone(c), x))
			}
		}
		lists = longer
		for _, c := range lists {
			for n := range 6 {
				checkAssignOf(t, clauseText(c), n)
			}
		}
	}
}

func TestReadAssignOfTextsWithOneFault(t *testing.T) {
	const signs = "0123 -+\nx"
	for _, a := range [][]int{nil, {0}, {1, 0}, {0, 1, 1}, {1, 1, 0, 0, 1, 0, 1, 1, 0, 1, 0}} {
		s := assignmentText(a)
		for i := 0; i <= len(s); i++ {
			for _, b := range signs {
				checkAssign(t, s[:i]+string(b)+s[i:])
				if i < len(s) {
					checkAssign(t, s[:i]+s[i+1:])
					checkAssign(t, s[:i]+string(b)+s[i+1:])
				}
			}
		}
	}
}

// Promise 15: every function of the chapter answers at any arguments, and writes into none.
func TestTextFunctionsWriteIntoNothing(t *testing.T) {
	d := &dice{36}
	fs := append(edgeFormulas(), someFormulas(36, 60)...)
	for range 30 {
		fs = append(fs, d.formula(24, 120, 48), impl.Cnf{N: d.below(30), Clauses: [][]int{d.edges(5), d.edges(5)}})
	}
	for _, one := range fs {
		f := guardCnf(one)
		text := impl.CnfText(f.f)
		f.check(t, "CnfText")
		got, _, _ := impl.ReadCnf(text)
		checkApartLists(t, "ReadCnf", got.Clauses, f)
		// The answer that was written over is not what the next call answers.
		checkText(t, text)
	}
	lists := [][]int{nil, repeated(1, 24), repeated(0, 25), repeated(2, 3)}
	for range 60 {
		lists = append(lists, d.assignment(d.below(25)), d.edges(30))
	}
	for _, one := range lists {
		a := guard(one)
		text := impl.AssignText(a.list)
		a.check(t, "AssignText")
		got, _ := impl.ReadAssign(text, len(one))
		checkApart(t, "ReadAssign", got, a)
		checkAssign(t, text)
	}
}

// Promise 15: an answer that refuses tells nothing beside its code and its line, whatever the text.
func TestTextFunctionsAtAnyNumbers(t *testing.T) {
	for _, x := range edgeNumbers() {
		for _, y := range edgeNumbers() {
			checkText(t, fmt.Sprintf("p cnf %d %d\n", x, y))
			checkText(t, fmt.Sprintf("p cnf 24 1\n%d %d 0\n", x, y))
			f := impl.Cnf{N: x, Clauses: [][]int{{y}}}
			if impl.CnfText(f) != formulaText(f) {
				t.Errorf("CnfText of %v", f)
			}
			checkAssignOf(t, fmt.Sprintf("%d 0", y), x)
		}
	}
}
