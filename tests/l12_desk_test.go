package tests

import (
	"fmt"
	"regexp"
	"slices"
	"strconv"
	"strings"
	"sync"
	"testing"

	"loop.example/g00123/impl"
)

const numberForm = `(0|[1-9][0-9]{0,8})`

var (
	askForm   = regexp.MustCompile(`(?s)\Aask ` + numberForm + ` (.*)\z`)
	tickForm  = regexp.MustCompile(`\Atick (0|[1-9][0-9]{0,2}|1000)\z`)
	afterForm = regexp.MustCompile(`\A(poll|take|off) ` + numberForm + ` ` + numberForm + `\z`)
	ofForm    = regexp.MustCompile(`(?s)\A(solve|count) (.*)\z`)
)

func typed(text string) string { return strings.ReplaceAll(text, "\n", ";") }

// toldOf is what is told of a typed formula that solve or count ask for.
func toldOf(word string, rest string) string {
	f, code, _ := formulaOf(strings.ReplaceAll(rest, ";", "\n"))
	switch {
	case code != 0:
		return "bad"
	case word == "count" && f.N > 14:
		return "-1"
	case word == "count":
		return strconv.Itoa(len(answersOf(f)))
	}
	a, ok := solvedOf(f)
	if !ok {
		return "unsat"
	}
	return assignmentText(a)
}

// opOf is the op that a line asks for, where it is one.
func opOf(line string) (impl.HallOp, bool) {
	if m := askForm.FindStringSubmatch(line); m != nil {
		return impl.HallOp{Who: numbersOf(m[1])[0], Text: strings.ReplaceAll(m[2], ";", "\n")}, true
	}
	if m := afterForm.FindStringSubmatch(line); m != nil {
		kinds := map[string]int{"poll": 2, "take": 3, "off": 4}
		return impl.HallOp{Kind: kinds[m[1]], Who: numbersOf(m[2])[0], N: numbersOf(m[3])[0]}, true
	}
	return impl.HallOp{}, false
}

// ticksAsked is how many ticks a line asks for; -1 where it is no tick.
func ticksAsked(line string) int {
	if line == "tick" {
		return 1
	}
	if m := tickForm.FindStringSubmatch(line); m != nil {
		return numbersOf(m[1])[0]
	}
	return -1
}

// answeredOf is what DeskLine must answer, worked out by the forms of the lines.
func answeredOf(h impl.Hall, line string) (impl.Hall, string) {
	if op, ok := opOf(line); ok {
		after, said := doneOf(h, op)
		if said == "" {
			return after, "none"
		}
		return after, typed(said)
	}
	if ticks := ticksAsked(line); ticks >= 0 {
		for range ticks {
			h, _ = doneOf(h, impl.HallOp{Kind: impl.HallTick})
		}
		return h, "tick"
	}
	if m := ofForm.FindStringSubmatch(line); m != nil {
		return h, toldOf(m[1], m[2])
	}
	return h, "what"
}

func checkLine(t *testing.T, h impl.Hall, line string, want impl.Hall, wantSaid string) {
	t.Helper()
	got, said := impl.DeskLine(h, line)
	if !sameHall(got, want) || said != wantSaid {
		t.Errorf("DeskLine of %.120q in %s: %s %.200q, want %s %.200q", line, toldHall(h), toldHall(got), said, toldHall(want), wantSaid)
	}
	if other, otherSaid := answeredOf(h, line); !sameHall(other, want) || otherSaid != wantSaid {
		t.Errorf("what is worked out of %.120q is something else: %s %.200q, want %.200q", line, toldHall(other), otherSaid, wantSaid)
	}
}

func checkLineAsWorkedOut(t *testing.T, h impl.Hall, line string) {
	t.Helper()
	want, said := answeredOf(h, line)
	checkLine(t, h, line, want, said)
}

// checkStays is for lines that leave the hall as it is.
func checkStays(t *testing.T, h impl.Hall, said string, lines ...string) {
	t.Helper()
	for _, line := range lines {
		checkLine(t, h, line, h, said)
	}
}

func checkDesk(t *testing.T, text string, want string) {
	t.Helper()
	if got := impl.Desk(text); got != want {
		t.Errorf("Desk of %d bytes %.120q: %.200q, want %.200q", len(text), text, got, want)
	}
}

// deskHall is the hall that scripts are answered on, written down apart from the program.
func deskHall() impl.Hall {
	return hallOf(impl.Cache{Room: 8}, tenantOf("k0", 5, 3), tenantOf("k1", 20, 3), tenantOf("k2", 100, 3))
}

// busyHall has works of each state at its second tenant.
func busyHall() impl.Hall {
	return threeOf(tenantOf("k", 1, 5, aWork(1000000, 0), aWork(0, 1), aWork(1, 2), aWork(0, 0)))
}

// oneTyped is oneText as it is typed in a line.
const oneTyped = "p cnf 2 2;1 0;-1 2 0;"

// notNumbers are none of the chapter's, though some would be read as one elsewhere.
func notNumbers() []string {
	return []string{
		"", "00", "01", "000", "007", "00000000", "000000000", "0000000001", "-1", "-0", "+1", "+0", "--1", "1000000000", "9999999999", "0123456789", "10000000000", "4294967296", "18446744073709551616", strings.Repeat("9", 400), strings.Repeat("0", 400),
		"x", "0x", "0x1", "1x", "x1", "1e1", "1.0", "1_0", "0b1", "0o1", "1;", ";1", "1\t", "\t1", "1\r", "1\n", "\n1", "1\x00", "a", "\xff", "٣", "１", "½", "none", "nil",
	}
}

func TestConstantOfDesks(t *testing.T) {
	if impl.MaxScript != 30000 {
		t.Fatal("limit", impl.MaxScript)
	}
}

func TestDeskNumbers(t *testing.T) {
	h := busyHall()
	for _, word := range notNumbers() {
		checkStays(t, h, "what", "poll "+word+" 0", "poll 1 "+word, "take "+word+" 0", "take 1 "+word, "off "+word+" 0", "off 1 "+word, "off "+word+" "+word, "tick "+word, "ask "+word+" "+oneTyped, "ask "+word+" q")
	}
	// Numbers of up to nine digits, of which the hall has no tenant or work.
	for _, word := range []string{"4", "9", "10", "100", "101", "1000", "256", "257", "99999999", "100000000", "999999999", "123456789", "900000000"} {
		checkStays(t, h, "none", "poll "+word+" 0", "poll 1 "+word, "take "+word+" 0", "take 1 "+word, "off "+word+" 0", "off 1 "+word, "off "+word+" "+word, "ask "+word+" "+oneTyped, "ask "+word+" q", "ask "+word+" ")
	}
	checkStays(t, h, "waits", "poll 0 0", "poll 1 0", "take 0 0", "poll 1 3")
	checkStays(t, h, "none", "poll 0 1", "poll 10 0")
	checkStays(t, h, "done", "poll 1 1")
}

func TestDeskAsk(t *testing.T) {
	h := busyHall()
	want := withWorks(h, 1, append(slices.Clone(h.Tenants[1].Works), aWork(5, 0)))
	want.Cache, _, _ = lookupOf(h.Cache, aWork(0, 0).F)
	checkLine(t, h, "ask 1 "+oneTyped, want, "work 4")
	// Rests that are the same formula: with lines passed over, and with blanks of their own.
	checkLine(t, h, "ask 1 c a  note ;;c; ;"+oneTyped, h, "bad")
	checkLine(t, h, "ask 1 c a  note ;;c ;"+oneTyped, want, "work 4")
	checkLine(t, h, "ask 1 ;c;"+oneTyped+";;c   ;", want, "work 4")
	// A rest that is no formula's: also where it has a blank too many, or its last line does not end.
	checkStays(t, h, "bad", "ask 1 ", "ask 1  ", "ask 1 q", "ask 1 ;", "ask 1 ;;;", "ask 1  "+oneTyped, "ask 1 "+oneTyped+" ", "ask 1 "+strings.TrimSuffix(oneTyped, ";"), "ask 1 p  cnf 2 2;1 0;-1 2 0;", "ask 1 p cnf 2 2;1 0; -1 2 0;", "ask 1 p cnf 2 2;1 0,-1 2 0;", "ask 1 1 "+oneTyped, "ask 1 p cnf 2 02;1 0;-1 2 0;", "ask 1 p cnf 2 2:1 0:-1 2 0:", "ask 1 "+typed(formulaText(nowhere(24))))
	for _, text := range badTexts() {
		// A semicolon that is there already is typed for a newline.
		if !strings.Contains(text, ";") {
			checkStays(t, h, "bad", "ask 0 "+typed(text), "ask 1 "+typed(text))
		}
	}
	// No tenant's WHO: also with a rest that is none.
	checkStays(t, h, "none", "ask 3 "+oneTyped, "ask 999999999 "+oneTyped, "ask 3 ", "ask 3 q")
	// No rest, or no number.
	checkStays(t, h, "what", "ask", "ask ", "ask  ", "ask 1", "ask 3", "ask  1", "ask  1 "+oneTyped, "ask "+oneTyped, "ask p "+oneTyped, "ask 01 "+oneTyped, "ask -1 "+oneTyped, "ask 1;"+oneTyped, "ask 1\t"+oneTyped, "ask1 "+oneTyped, "ask 1000000000 "+oneTyped, "ask "+oneTyped+" 1")
	// As many as may wait, and one more.
	busy := hallOf(impl.Cache{}, tenantOf("k", 5, 1, aWork(5, 0)))
	checkStays(t, busy, "busy", "ask 0 "+oneTyped, "ask 0 p cnf 1 1;1 0;")
	checkStays(t, busy, "bad", "ask 0 q", "ask 0 ")
}

func TestDeskTick(t *testing.T) {
	h := busyHall()
	once := tickedOf(h)
	for _, line := range []string{"tick", "tick 1"} {
		checkLine(t, h, line, once, "tick")
	}
	checkStays(t, h, "tick", "tick 0")
	// Each tick takes one step of the first work's million, so that none is lost.
	for _, ticks := range []int{0, 1, 2, 3, 9, 10, 399, 400, 401, 799, 800, 801, 999, 1000} {
		after, said := impl.DeskLine(h, fmt.Sprintf("tick %d", ticks))
		if left := after.Tenants[1].Works[0].Left; left != 1000000-ticks || said != "tick" {
			t.Errorf("tick %d leaves %d and says %q", ticks, left, said)
		}
		checkLineAsWorkedOut(t, h, fmt.Sprintf("tick %d", ticks))
	}
	checkStays(t, h, "what", "tick 1001", "tick 1002", "tick 2000", "tick 10000", "tick 999999999", "tick 1000000000", "tick 01", "tick 00", "tick 01000", "tick -1", "tick +1", "tick 1 1", "tick 1 ", "tick 0 0", "tick 1  2", "tick ", "tick  ", "tick  1", " tick", "  tick", " tick 1", "tick\t", "tick\t1", "tick;", "tick1", "tick x", "ticks", "tic", "Tick", "TICK", "tick\r", "tick 1\r", "tick;1", "tick 1;")
	// Without tenants, and without works, there is a tick all the same.
	for _, h := range []impl.Hall{{}, deskHall(), hallOf(cacheOf(2, "a", "b"))} {
		checkStays(t, h, "tick", "tick", "tick 0", "tick 1", "tick 1000")
	}
}

func TestDeskPollTakeOff(t *testing.T) {
	h := busyHall()
	cert, _ := certOf("k", aWork(0, 1).F)
	checkStays(t, h, "waits", "poll 1 0", "poll 1 3", "take 1 0", "take 1 3")
	checkStays(t, h, "done", "poll 1 1", "off 1 1")
	checkStays(t, h, "off", "poll 1 2", "take 1 2", "off 1 2")
	checkStays(t, h, typed(certTextOf(cert)), "take 1 1")
	checkStays(t, h, "none", "poll 1 4", "take 1 4", "off 1 4", "poll 3 0", "take 3 0", "off 3 0")
	for _, n := range []int{0, 3} {
		works := slices.Clone(h.Tenants[1].Works)
		works[n].State = 2
		checkLine(t, h, fmt.Sprintf("off 1 %d", n), withWorks(h, 1, works), "off")
	}
	for _, word := range []string{"poll", "take", "off"} {
		checkStays(t, h, "what", word, word+" ", word+"  ", word+" 1", word+" 1 ", word+" 1  ", word+"  1", word+"  1 1", word+" 1  1", word+" 1 1 ", word+" 1 1 1", word+" 1 1  ", word+" 1 1 x", " "+word+" 1 1", word+" 1;1", word+" 1\t1", word+"\t1 1", word+";1 1", word+"s 1 1", strings.ToUpper(word)+" 1 1", strings.ToUpper(word[:1])+word[1:]+" 1 1", word+" 1 1\r", word+" 1 1;", word+" x 1", word+" 1 x", word+" 01 1", word+" 1 01", word+"1 1")
	}
}

// Certificates of both kinds have newlines; so has each clause of a proof.
func TestDeskTakeTellsNewlinesBySemicolons(t *testing.T) {
	never := impl.Cnf{N: 3, Clauses: append(fourOf([]int{1}, 2, 3), fourOf([]int{-1}, 2, 3)...)}
	for _, k := range []struct {
		f     impl.Cnf
		lines int
	}{{aWork(0, 0).F, 1}, {impl.Cnf{}, 1}, {impl.Cnf{N: 24}, 1}, {impl.Cnf{Clauses: [][]int{{}}}, 2}, {impl.Cnf{N: 2, Clauses: fourOf(nil, 1, 2)}, 4}, {never, 8}} {
		// The key has semicolons and newlines of its own, that no one sees.
		h := hallOf(impl.Cache{}, tenantOf("k;\n", 5, 3, workFor(k.f, 1)))
		cert, _ := certOf("k;\n", k.f)
		text := certTextOf(cert)
		checkStays(t, h, typed(text), "take 0 0")
		_, said := impl.DeskLine(h, "take 0 0")
		if strings.Contains(said, "\n") || strings.Count(said, ";") != k.lines || strings.Count(text, "\n") != k.lines {
			t.Errorf("take of %v: %.300q", k.f, said)
		}
		if c, ok := impl.ReadCert(strings.ReplaceAll(said, ";", "\n")); !ok || impl.Verify("k;\n", k.f, c) != impl.CertOk {
			t.Errorf("what is taken of %v does not verify: %.300q", k.f, said)
		}
	}
	beyond := workFor(combed([]int{8, 6, 4, 3, 2}, true), 1)
	checkStays(t, hallOf(impl.Cache{}, tenantOf("k", 5, 3, beyond)), "none", "take 0 0")
}

func TestDeskSolveAndCount(t *testing.T) {
	halls := []impl.Hall{{}, deskHall(), busyHall(), notHalls()[0], notHalls()[5]}
	for _, k := range []struct{ rest, solved, counted string }{
		{oneTyped, "1 2 0", "1"}, {"p cnf 2 1;1 2 0;", "-1 2 0", "3"}, {"p cnf 1 2;1 0;-1 0;", "unsat", "0"},
		{"p cnf 0 0;", "0", "1"}, {"p cnf 0 1;0;", "unsat", "0"}, {"p cnf 3 0;", "-1 -2 -3 0", "8"}, {"p cnf 10 0;", "-1 -2 -3 -4 -5 -6 -7 -8 -9 -10 0", "1024"},
		// Beyond 14 variables nothing is counted.
		{"p cnf 14 1;14 0;", "-1 -2 -3 -4 -5 -6 -7 -8 -9 -10 -11 -12 -13 14 0", "8192"}, {"p cnf 15 1;15 0;", "-1 -2 -3 -4 -5 -6 -7 -8 -9 -10 -11 -12 -13 -14 15 0", "-1"}, {"p cnf 15 1;0;", "unsat", "-1"},
		// Lines passed over have blanks of their own.
		{"c  two  blanks ;c;;" + oneTyped + "c ;", "1 2 0", "1"}, {";;" + oneTyped, "1 2 0", "1"},
		// No formulas: the empty rest behind a blank among them.
		{"", "bad", "bad"}, {" ", "bad", "bad"}, {"x", "bad", "bad"}, {";", "bad", "bad"}, {" " + oneTyped, "bad", "bad"}, {oneTyped + " ", "bad", "bad"}, {"p cnf 2 2;1 0;-1 2 0", "bad", "bad"}, {"p cnf 2 2;1 0; -1 2 0;", "bad", "bad"}, {"p cnf 2 2;1  0;-1 2 0;", "bad", "bad"}, {"p  cnf 0 0;", "bad", "bad"}, {"p cnf 0 00;", "bad", "bad"}, {"p cnf 01 0;", "bad", "bad"}, {"p cnf 1 1;", "bad", "bad"}, {"p cnf 1 0;1 0;", "bad", "bad"}, {"p cnf 25 0;", "bad", "bad"}, {"p cnf 1 1;2 0;", "bad", "bad"}, {"0 " + oneTyped, "bad", "bad"},
		// As long as a text may be, and a byte longer.
		{typed(formulaText(longFormula(12000))), "unsat", "-1"}, {"p cnf 1 0;c " + strings.Repeat("x", 11987) + ";", "-1 0", "2"}, {"p cnf 1 0;c " + strings.Repeat("x", 11988) + ";", "bad", "bad"}, {"p cnf 0 0;" + strings.Repeat(";", 11990), "0", "1"}, {"p cnf 0 0;" + strings.Repeat(";", 11991), "bad", "bad"},
	} {
		for _, h := range halls {
			checkStays(t, h, k.solved, "solve "+k.rest)
			checkStays(t, h, k.counted, "count "+k.rest)
		}
	}
	for _, word := range []string{"solve", "count"} {
		checkStays(t, busyHall(), "what", word, " "+word+" "+oneTyped, word+";"+oneTyped, word+oneTyped, word+"\t"+oneTyped, word+"s "+oneTyped, strings.ToUpper(word)+" "+oneTyped, word+"p cnf 0 0;", word[:4]+" "+oneTyped)
	}
}

func TestDeskLinesThatAreNone(t *testing.T) {
	lines := []string{"", " ", "  ", ";", "what", "none", "long", "bad", "work 0", "0", "1 1", "c note", oneTyped, "ask", "tick ", "solve", "count", "\t", "\x00", "\xff\xfe", "\r", "help", "quit", "ASK 0 " + oneTyped, "Ask 0 " + oneTyped, "asks 0 " + oneTyped, "aſk 0 " + oneTyped, "poll\u00a00\u00a00", "solve\u00a0" + oneTyped, " ask 0 " + oneTyped, " poll 0 0", " solve " + oneTyped, strings.Repeat("x", 100000), strings.Repeat(" ", 100000), strings.Repeat(";", 100000)}
	for _, h := range []impl.Hall{{}, deskHall(), busyHall(), notHalls()[0]} {
		checkStays(t, h, "what", lines...)
	}
}

// A line with a newline in it is answered as any other: the newline is a byte of a word, or of the rest as it stands.
func TestDeskLineWithANewline(t *testing.T) {
	h := busyHall()
	checkStays(t, h, "what", "\n", "tick\n", "\ntick", "tick\ntick", "tick\n1", "tick 1\n", "poll 1 1\n", "poll 1\n1", "poll\n1 1", "off 1 0\n", "take 1 1\n", "solve\n"+oneText, "solve\n", "ask\n1 "+oneText, "ask 1\n"+oneText)
	checkStays(t, h, "1 2 0", "solve "+oneText, "solve \n"+oneTyped+"\n")
	checkStays(t, h, "1", "count "+oneText, "count p cnf 2 2;1 0\n-1 2 0;")
	checkStays(t, h, "bad", "solve \n", "count \n", "ask 1 \n", "solve "+oneTyped+"\n\n1 0;", "ask 1 \nq")
	want := withWorks(h, 1, append(slices.Clone(h.Tenants[1].Works), aWork(5, 0)))
	want.Cache, _, _ = lookupOf(h.Cache, aWork(0, 0).F)
	checkLine(t, h, "ask 1 "+oneText, want, "work 4")
	checkLine(t, h, "ask 1 \n\n"+oneTyped, want, "work 4")
}

func TestDeskLineInWhatIsNoHall(t *testing.T) {
	for _, h := range notHalls() {
		checkStays(t, h, "none", "ask 0 "+oneTyped, "ask 1 "+oneTyped, "ask 0 q", "ask 0 ", "ask 9 "+oneTyped, "poll 0 0", "take 0 0", "take 1 1", "off 0 0", "off 1 0", "poll 9 9")
		checkStays(t, h, "tick", "tick", "tick 0", "tick 1", "tick 401")
		checkStays(t, h, "what", "", "what", "tick 1001", "ask 0", "poll 0", "solve")
		checkStays(t, h, "1 2 0", "solve "+oneTyped)
		checkStays(t, h, "1", "count "+oneTyped)
		checkStays(t, h, "bad", "solve ", "count x")
	}
}

// A tenant's quota is seen by the tick at which a work is done: 200 steps tell whether it is less, 201 whether it is more.
func TestDeskQuotas(t *testing.T) {
	for _, cost := range []int{200, 201} {
		f := costingTrue(9, cost)
		if costOf(f) != cost {
			t.Fatal("another cost", costOf(f))
		}
		for who, quota := range []int{5, 20, 100} {
			due := (cost + quota - 1) / quota
			ask := fmt.Sprintf("ask %d %s\n", who, typed(formulaText(f)))
			poll := fmt.Sprintf("poll %d 0\n", who)
			checkDesk(t, ask+poll+strings.Repeat("tick\n"+poll, due), "work 0\nwaits\n"+strings.Repeat("tick\nwaits\n", due-1)+"tick\ndone\n")
			checkDesk(t, ask+fmt.Sprintf("tick %d\n", due-1)+poll+"tick 0\n"+poll+"tick 1\n"+poll, "work 0\ntick\nwaits\ntick\nwaits\ntick\ndone\n")
		}
	}
}

// Who there is at a script's hall, what each may ask for, and by which key it is answered.
func TestDeskTenants(t *testing.T) {
	f := costingTrue(9, 200)
	checkDesk(t, "ask 3 "+oneTyped+"\npoll 3 0\ntake 3 0\noff 3 0\nask 999999999 "+oneTyped+"\n", strings.Repeat("none\n", 5))
	for who := range 3 {
		ask := fmt.Sprintf("ask %d %s\n", who, typed(formulaText(f)))
		for _, f := range []impl.Cnf{f, {N: 2, Clauses: fourOf(nil, 1, 2)}} {
			cert, _ := certOf(fmt.Sprintf("k%d", who), f)
			checkDesk(t, fmt.Sprintf("ask %d %s\ntick 99\ntake %d 0\n", who, typed(formulaText(f)), who), "work 0\ntick\n"+typed(certTextOf(cert))+"\n")
		}
		// Three may wait at once; what is called off or done makes room.
		checkDesk(t, strings.Repeat(ask, 4)+fmt.Sprintf("off %d 1\n", who)+ask+ask+"tick 1000\n"+strings.Repeat(ask, 4), "work 0\nwork 1\nwork 2\nbusy\noff\nwork 3\nbusy\ntick\nwork 4\nwork 5\nwork 6\nbusy\n")
		// Forty works, and no more.
		want := ""
		for i := range 40 {
			want += fmt.Sprintf("work %d\ntick\n", i)
		}
		checkDesk(t, strings.Repeat(ask+"tick 40\n", 42), want+"busy\ntick\nbusy\ntick\n")
	}
}

func TestDeskAtTheEdges(t *testing.T) {
	checkDesk(t, "", "")
	checkDesk(t, "\n", "what\n")
	checkDesk(t, "\n\n\n", "what\nwhat\nwhat\n")
	checkDesk(t, "tick\n", "tick\n")
	// What has no newline at its end is no script, whatever stands ahead.
	for _, text := range []string{"tick", " ", "x", "\ntick", "tick\ntick", "tick\n ", "tick\n\r", "tick\n\x00", "\nx", ";", "tick;", "long"} {
		checkDesk(t, text, "long\n")
	}
	checkDesk(t, "tick\r\n\rtick\n", "what\nwhat\n")
	for _, line := range []struct{ text, said string }{{"", "what"}, {"tick", "tick"}, {"poll 0 0", "none"}, {"solve " + oneTyped, "1 2 0"}, {"tick 1000", "tick"}} {
		for _, many := range []int{1, 199, 200} {
			checkDesk(t, strings.Repeat(line.text+"\n", many), strings.Repeat(line.said+"\n", many))
		}
		for _, many := range []int{201, 202, 256, 400, 456} {
			checkDesk(t, strings.Repeat(line.text+"\n", many), "long\n")
		}
	}
	checkDesk(t, strings.Repeat("tick\n", 200)+"t", "long\n")
	checkDesk(t, strings.Repeat("tick\n", 199)+"tick", "long\n")
}

// padded is a script of just that many bytes, by a line of which nothing but its length counts.
func padded(lines string, size int) string {
	return lines + strings.Repeat("x", size-len(lines)-1) + "\n"
}

func TestDeskAtMaxScriptBytes(t *testing.T) {
	lines := "ask 0 " + oneTyped + "\ntick\npoll 0 0\nsolve " + oneTyped + "\n"
	for _, size := range []int{100, 29998, 29999, 30000} {
		checkDesk(t, padded(lines, size), "work 0\ntick\ndone\n1 2 0\nwhat\n")
		checkDesk(t, padded("", size), "what\n")
	}
	for _, size := range []int{30001, 30002, 30100, 60000, 65536, 95536, 1000000} {
		checkDesk(t, padded(lines, size), "long\n")
		checkDesk(t, padded("", size), "long\n")
	}
	// Bytes count, not the characters that they are.
	checkDesk(t, strings.Repeat("ä", 14999)+"x\n", "what\n")
	checkDesk(t, strings.Repeat("ä", 15000)+"\n", "long\n")
	checkDesk(t, strings.Repeat("x", 30000), "long\n")
	checkDesk(t, strings.Repeat("\n", 30000), "long\n")
	// As long and as many lines as there may be, and one byte or one line more.
	checkDesk(t, padded(strings.Repeat("count p cnf 3 0;\n", 199), 30000), strings.Repeat("8\n", 199)+"what\n")
	checkDesk(t, padded(strings.Repeat("count p cnf 3 0;\n", 199), 30001), "long\n")
	checkDesk(t, padded(strings.Repeat("count p cnf 3 0;\n", 200), 30000), "long\n")
}

// numberWord is mostly one that the hall of a script knows.
func (d *dice) numberWord(most int) string {
	if d.below(12) == 0 {
		words := append(notNumbers(), "999999999", "1000", "1001")
		return strings.ReplaceAll(words[d.below(len(words))], "\n", "n")
	}
	return strconv.Itoa(d.below(most))
}

// fittingLine is answered with what but for its numbers, where they are none.
func (d *dice) fittingLine(texts []string) string {
	text := typed(texts[d.below(len(texts))])
	switch d.below(10) {
	case 0, 1, 2:
		return "ask " + d.numberWord(4) + " " + text
	case 3:
		return "tick"
	case 4:
		return "tick " + d.numberWord([]int{3, 3, 3, 30, 1002}[d.below(5)])
	case 5, 6, 7:
		return []string{"poll", "take", "take", "off"}[d.below(4)] + " " + d.numberWord(4) + " " + d.numberWord(5)
	}
	return []string{"solve", "count"}[d.below(2)] + " " + text
}

// deskLine is now and then one with a byte put in, taken out or told in another way.
func (d *dice) deskLine(texts []string) string {
	line := d.fittingLine(texts)
	at := d.below(min(len(line), 12))
	switch d.below(25) {
	case 0:
		put := []string{" ", " ", ";", "0", "1", "9", "-", "+", "x", "\t", "\x00", "\xff"}
		return line[:at] + put[d.below(len(put))] + line[at:]
	case 1:
		return line[:at] + line[at+1:]
	case 2:
		return strings.ToUpper(line[:at]) + line[at:]
	case 3:
		return line + []string{" ", ";", "0", "x"}[d.below(4)]
	case 4:
		return line[:at]
	case 5:
		return strings.ReplaceAll(d.text(d.below(30)), "\n", " ")
	}
	return line
}

func (d *dice) script(many int, texts []string) string {
	text := ""
	for range many {
		if line := d.deskLine(texts) + "\n"; len(text)+len(line) <= 30000 {
			text += line
		}
	}
	return text
}

// firstLines is the beginning of a text up to that many of its lines.
func firstLines(text string, many int) string {
	return strings.Join(strings.SplitAfter(text, "\n")[:many], "")
}

// Promise 12: what is told of a script begins with what is told of its beginning, and each line is answered with one.
func TestWhatIsToldOfAScriptBeginsWithWhatIsToldOfItsBeginning(t *testing.T) {
	texts := hallTexts(121)
	d := &dice{121}
	for i := range 60 {
		text := d.script(d.below(201), texts)
		lines := strings.Count(text, "\n")
		whole := impl.Desk(text)
		if strings.Count(whole, "\n") != lines {
			t.Fatalf("%d lines are told of a script of %d", strings.Count(whole, "\n"), lines)
		}
		cuts := []int{0, min(1, lines), max(lines-1, 0), lines}
		for range 15 {
			cuts = append(cuts, d.below(lines+1))
		}
		for _, many := range cuts {
			if got, want := impl.Desk(firstLines(text, many)), firstLines(whole, many); got != want {
				t.Fatalf("script %d, its first %d of %d lines: %.300q, want %.300q", i, many, lines, got, want)
			}
		}
	}
}

// Promise 12: each line is answered by its function, on the hall that the lines ahead of it made.
func TestEachLineIsAnsweredByItsFunction(t *testing.T) {
	texts := hallTexts(122)
	d := &dice{122}
	words := map[string]int{}
	for range 40 {
		text := d.script(200, texts)
		h, _ := impl.HallStart([]string{"k0", "k1", "k2"}, []int{5, 20, 100}, 3, 8)
		if !sameHall(h, deskHall()) {
			t.Fatal("another hall")
		}
		want := ""
		for line := range strings.Lines(text) {
			line = strings.TrimSuffix(line, "\n")
			checkLineAsWorkedOut(t, h, line)
			after, said := answeredByFunctions(h, line)
			got, gotSaid := impl.DeskLine(h, line)
			if !sameHall(got, after) || gotSaid != said {
				t.Fatalf("DeskLine of %q: %.200q, want %.200q", line, gotSaid, said)
			}
			word, _, _ := strings.Cut(said, " ")
			if strings.Contains(said, ";") {
				word = strings.Fields(said)[1]
			}
			words[word]++
			want += said + "\n"
			h = after
		}
		checkDesk(t, text, want)
	}
	for _, word := range []string{"work", "busy", "bad", "waits", "done", "off", "none", "sat", "unsat", "tick", "what", "0", "-1"} {
		if words[word] < 30 {
			t.Error("too few to tell", word, words[word])
		}
	}
}

// answeredByFunctions asks the functions of the other chapters.
func answeredByFunctions(h impl.Hall, line string) (impl.Hall, string) {
	if op, ok := opOf(line); ok {
		after, said := impl.HallDo(h, op)
		if said == "" {
			said = "none"
		}
		return after, typed(said)
	}
	if ticks := ticksAsked(line); ticks >= 0 {
		for range ticks {
			h, _ = impl.HallDo(h, impl.HallOp{Kind: impl.HallTick})
		}
		return h, "tick"
	}
	m := ofForm.FindStringSubmatch(line)
	if m == nil {
		return h, "what"
	}
	f, code, _ := impl.ReadCnf(strings.ReplaceAll(m[2], ";", "\n"))
	if code != impl.ReadOk {
		return h, "bad"
	}
	if m[1] == "count" {
		return h, fmt.Sprint(impl.CountTrue(f))
	}
	if a, ok := impl.Solve(f); ok {
		return h, impl.AssignText(a)
	}
	return h, "unsat"
}

// Promise 12: a typed formula is counted and solved as it is.
func TestATypedFormulaIsCountedAndSolvedAsItIs(t *testing.T) {
	d := &dice{123}
	fs := slices.Concat(proofsFormulas(123, 150), slices.DeleteFunc(edgeFormulas(), func(f impl.Cnf) bool { return !isFormula(f) }), []impl.Cnf{pigeons(3), pigeons(4), allAlike(24), nowhere(14)})
	sat, unsat := 0, 0
	for _, f := range fs {
		text := formulaText(f)
		if d.below(3) == 0 {
			text = "c a  note\n\n" + text + "c\n"
		}
		if text == "" || len(text) > 11000 {
			continue
		}
		read, code, _ := impl.ReadCnf(text)
		if code != impl.ReadOk {
			t.Fatalf("%.200q is no formula", text)
		}
		counted, solved := "-1", "unsat"
		if f.N <= 14 {
			counted = strconv.Itoa(len(answersOf(f)))
		}
		if a, ok := impl.Solve(read); ok {
			solved = impl.AssignText(a)
			sat++
		} else {
			unsat++
		}
		if counted != strconv.Itoa(impl.CountTrue(read)) {
			t.Errorf("CountTrue of %v is not %s", read, counted)
		}
		checkDesk(t, "solve "+typed(text)+"\ncount "+typed(text)+"\n", solved+"\n"+counted+"\n")
		checkStays(t, busyHall(), solved, "solve "+typed(text))
		checkStays(t, busyHall(), counted, "count "+typed(text))
	}
	if sat < 80 || unsat < 80 {
		t.Error("too few to tell", sat, unsat)
	}
}

func TestDeskLinesAsWorkedOut(t *testing.T) {
	texts := hallTexts(124)
	d := &dice{124}
	for range 400 {
		h := d.hall(texts)
		for range 5 {
			line := d.deskLine(texts)
			if d.below(10) == 0 {
				line = strings.ReplaceAll(line, ";", "\n")
			}
			checkLineAsWorkedOut(t, h, line)
		}
	}
}

// Promise 15: every function of the chapter answers at any arguments, and writes into none.
func TestDeskFunctionsWriteIntoNothing(t *testing.T) {
	texts := hallTexts(125)
	d := &dice{125}
	wrong := notHalls()
	for i := range 150 {
		h := d.hall(texts)
		if i%5 == 0 {
			h = wrong[d.below(len(wrong))]
		}
		g := guardHall(h)
		for _, line := range []string{"tick", "tick 0", "tick 401", "ask 0 " + oneTyped, "poll 0 0", "take 0 1", "off 0 0", "off 1 1", "solve " + oneTyped, "count " + oneTyped, "what", "", d.deskLine(texts), d.text(d.below(40)), "ask 0 " + d.text(d.below(40))} {
			after, _ := impl.DeskLine(g.h, line)
			g.check(t, "DeskLine")
			checkApartHall(t, "DeskLine", after, g)
		}
	}
}

// One list told at several places is several lists in an answer.
func TestDeskLinesOfOneListToldOften(t *testing.T) {
	shared := guard([]int{1})
	for _, room := range []int{2, 5, 1} {
		h := hallOfOneList(shared.list, 5, room)
		for _, line := range []string{"ask 0 " + oneTyped, "ask 1 p cnf 1 0;", "tick", "tick 0", "tick 500", "poll 0 0", "take 0 2", "off 0 0", "solve " + oneTyped, "count " + oneTyped, "what", "", "ask 7 q"} {
			after, _ := impl.DeskLine(h, line)
			checkApartHall(t, "DeskLine of one list told often", after, shared)
		}
	}
}

func TestDeskAnswersAtAnyText(t *testing.T) {
	d := &dice{126}
	for range 400 {
		text := d.text(d.below(400))
		if d.below(2) == 0 {
			text += "\n"
		}
		want := "long\n"
		if strings.HasSuffix(text, "\n") || text == "" {
			want = ""
			h := deskHall()
			for line := range strings.Lines(text) {
				after, said := answeredOf(h, strings.TrimSuffix(line, "\n"))
				h, want = after, want+said+"\n"
			}
		}
		checkDesk(t, text, want)
	}
}

// Nothing is kept from one call to another: calls at the same time, and calls again, answer as one alone does.
func TestDesksAtTheSameTime(t *testing.T) {
	texts := hallTexts(127)
	d := &dice{127}
	scripts := []string{d.script(200, texts), d.script(150, texts), strings.Repeat("ask 0 "+oneTyped+"\ntick 1\ntake 0 0\n", 60), "tick"}
	var alone []string
	for _, text := range scripts {
		alone = append(alone, impl.Desk(text))
	}
	h := busyHall()
	after, said := impl.DeskLine(h, "tick 700")
	var group sync.WaitGroup
	for i := range 8 {
		group.Go(func() {
			for n := range scripts {
				at := (n + i) % len(scripts)
				if impl.Desk(scripts[at]) != alone[at] {
					t.Errorf("worker %d is told something else of script %d", i, at)
				}
				// All of them look at one hall.
				if got, gotSaid := impl.DeskLine(h, "tick 700"); !sameHall(got, after) || gotSaid != said {
					t.Errorf("worker %d is answered in another way than one alone", i)
				}
			}
		})
	}
	group.Wait()
}
