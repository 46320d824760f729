package tests

import (
	"encoding/hex"
	"fmt"
	"regexp"
	"slices"
	"strings"
	"testing"

	"loop.example/g00123/impl"
)

// digestOf puts the formula in order and types it apart from the program; the sum is the library's.
func digestOf(f impl.Cnf) string {
	s, ok := sortedFormula(f)
	if !ok {
		return ""
	}
	return sumOf(formulaText(s))
}

// marked is the certificate with the mark of what it tells now.
func marked(key string, c impl.Cert) impl.Cert {
	c.Mark = markOf(key, signedOf(c))
	return c
}

func signedOf(c impl.Cert) string {
	flag := "\x00"
	if c.Sat {
		flag = "\x01"
	}
	return c.Digest + flag + c.Body
}

func solvedOf(f impl.Cnf) ([]int, bool) {
	for a := range answersDown(f) {
		return a, true
	}
	return nil, false
}

// certOf is what Issue must answer.
func certOf(key string, f impl.Cnf) (impl.Cert, bool) {
	if !isFormula(f) || len(key) > 64 {
		return impl.Cert{}, false
	}
	if a, ok := solvedOf(f); ok {
		return marked(key, impl.Cert{Digest: digestOf(f), Sat: true, Body: assignmentText(a)}), true
	}
	proof, ok := refutedOf(f)
	if !ok {
		return impl.Cert{}, false
	}
	return marked(key, impl.Cert{Digest: digestOf(f), Body: proofTextOf(proof)}), true
}

// codeOf is what Verify must answer, one failure after the other.
func codeOf(key string, f impl.Cnf, c impl.Cert) int {
	if mark := markOf(key, signedOf(c)); mark == "" || c.Mark != mark {
		return 1
	}
	if !isFormula(f) || c.Digest != digestOf(f) {
		return 2
	}
	if c.Sat {
		a, ok := assignOf(c.Body, f.N)
		if !ok {
			return 3
		}
		if !formulaAt(f, a) {
			return 4
		}
		return 0
	}
	proof, ok := proofOf(c.Body)
	if !ok {
		return 3
	}
	if !isProof(f, proof) {
		return 4
	}
	return 0
}

// shown keeps what a failed test tells of a certificate short.
func shown(c impl.Cert) string {
	return fmt.Sprintf("{%.64x %v %.300q %.64x}", c.Digest, c.Sat, c.Body, c.Mark)
}

func issued(t *testing.T, key string, f impl.Cnf) impl.Cert {
	t.Helper()
	c, ok := impl.Issue(key, f)
	if !ok {
		t.Fatalf("no certificate of %v by %q", f, key)
	}
	return c
}

func checkIssue(t *testing.T, key string, f impl.Cnf, want impl.Cert, wantOk bool) {
	t.Helper()
	if c, ok := impl.Issue(key, f); c != want || ok != wantOk {
		t.Errorf("Issue by %.70q of %v: %s %v, want %s %v", key, f, shown(c), ok, shown(want), wantOk)
	}
}

func checkVerify(t *testing.T, key string, f impl.Cnf, c impl.Cert, want int) {
	t.Helper()
	if got := impl.Verify(key, f, c); got != want {
		t.Errorf("Verify by %.70q of %v and %s: %d, want %d", key, f, shown(c), got, want)
	}
}

// shuffled is the formula in another order of clauses and literals, with clauses and literals told again.
func (d *dice) shuffled(f impl.Cnf) impl.Cnf {
	g := impl.Cnf{N: f.N}
	for _, c := range f.Clauses {
		for range 1 + d.below(2) {
			c := slices.Clone(c)
			d.shuffle(len(c), func(i, j int) { c[i], c[j] = c[j], c[i] })
			if len(c) > 0 && len(c) < 48 && d.below(2) == 0 {
				c = append(c, c[d.below(len(c))])
			}
			g.Clauses = append(g.Clauses, c)
		}
	}
	d.shuffle(len(g.Clauses), func(i, j int) { g.Clauses[i], g.Clauses[j] = g.Clauses[j], g.Clauses[i] })
	return g
}

func (d *dice) shuffle(size int, swap func(i, j int)) {
	for i := range size {
		swap(i, d.below(i+1))
	}
}

// certFormulas can be true, or cannot; among them some of 24 variables.
func certFormulas(seed uint64, many int) []impl.Cnf {
	return append(machineFormulas(seed, many), pigeons(4), nowhere(5), combed([]int{2, 1}, false))
}

// bodies are of both kinds, some of them of none.
func (d *dice) bodies(f impl.Cnf, c impl.Cert) []string {
	bodies := []string{c.Body, "", "0", "0\n", "x", "\n", "1 0\n", "-1 0\n0\n", c.Body + "\n", c.Body + "0\n", " " + c.Body, assignmentText(d.assignment(f.N + 1)), assignmentText(d.assignment(max(0, f.N-1)))}
	if c.Body != "" {
		bodies = append(bodies, c.Body[:len(c.Body)-1], c.Body[1:])
	}
	for range 6 {
		bodies = append(bodies, assignmentText(d.assignment(f.N)))
	}
	proof, _ := refutedOf(f)
	if len(proof) < 8 {
		for _, list := range d.spoiled(f.N, proof) {
			bodies = append(bodies, proofTextOf(list))
		}
	}
	return bodies
}

func TestConstantsOfCerts(t *testing.T) {
	if impl.CertOk != 0 || impl.CertMark != 1 || impl.CertOther != 2 || impl.CertBody != 3 || impl.CertWrong != 4 {
		t.Fatal("codes")
	}
}

func TestDigest(t *testing.T) {
	for _, k := range []struct {
		f    impl.Cnf
		text string
	}{
		{impl.Cnf{}, "p cnf 0 0\n"},
		{impl.Cnf{N: 24}, "p cnf 24 0\n"},
		{impl.Cnf{N: 1, Clauses: [][]int{{}}}, "p cnf 1 1\n0\n"},
		{impl.Cnf{N: 2, Clauses: [][]int{{-1}, {2, 1}, {2, 1}}}, "p cnf 2 2\n1 2 0\n-1 0\n"},
		{impl.Cnf{N: 3, Clauses: [][]int{{3, -3}, {3, 1, 3}, {-2}}}, "p cnf 3 2\n1 3 0\n-2 0\n"},
		{repeatedClause(2, []int{2}, 120), "p cnf 2 1\n2 0\n"},
	} {
		if got, want := impl.Digest(k.f), sumOf(k.text); got != want {
			t.Errorf("Digest of %v: %x, want %x", k.f, got, want)
		}
	}
	for _, f := range notFormulas() {
		if got := impl.Digest(f); got != "" {
			t.Errorf("Digest of %v: %x", f, got)
		}
	}
	if got := impl.HexText(impl.Digest(impl.Cnf{})); got != "e160232d0ce8816f12ecdcdc7bb0e939b55fb5ca43414ae6077dfa3989655732" {
		t.Error("the digest of the empty formula", got)
	}
}

// A formula that has no text of its own may have one in order.
func TestDigestOfLongFormulas(t *testing.T) {
	f := longFormula(12001)
	if impl.CnfText(f) != "" || len(impl.Digest(f)) != 32 || impl.Digest(f) != digestOf(f) {
		t.Error("a formula whose text is too long")
	}
	widest := impl.Cnf{N: 24}
	for i := range 120 {
		c := opposites(upTo(24))
		for j := range 7 {
			c[j] *= 1 - 2*(i>>j&1)
		}
		widest.Clauses = append(widest.Clauses, append(c, c...))
	}
	if got := impl.Digest(widest); len(got) != 32 || got != digestOf(widest) {
		t.Error("the formula of the longest clauses")
	}
}

func TestDigestAsWorkedOut(t *testing.T) {
	by := map[string]string{}
	for _, f := range slices.Concat(edgeFormulas(), someFormulas(90, 400), certFormulas(90, 100)) {
		got, want := impl.Digest(f), digestOf(f)
		if got != want {
			t.Errorf("Digest of %v: %x, want %x", f, got, want)
		}
		s, ok := sortedFormula(f)
		if !ok {
			continue
		}
		text := formulaText(s)
		if old, met := by[got]; met && old != text {
			t.Errorf("one digest of %q and %q", old, text)
		}
		by[got] = text
	}
	if len(by) < 300 {
		t.Error("too few to tell", len(by))
	}
}

// Promise 9: formulas that differ in order alone have one digest, and a certificate of one verifies for the other.
func TestFormulasThatDifferInOrderAlone(t *testing.T) {
	d := &dice{91}
	sat, unsat := 0, 0
	for _, f := range append(certFormulas(91, 150), proofsFormulas(92, 150)...) {
		g := d.shuffled(f)
		if len(g.Clauses) > 120 {
			g.Clauses = f.Clauses
		}
		if impl.Digest(f) != impl.Digest(g) || len(impl.Digest(f)) != 32 {
			t.Errorf("two digests of %v and %v", f, g)
		}
		c, ok := impl.Issue("order", f)
		if !ok {
			continue
		}
		if c.Sat {
			sat++
		} else {
			unsat++
		}
		checkVerify(t, "order", g, c, impl.CertOk)
		sorted, _ := impl.CnfSort(f)
		checkVerify(t, "order", sorted, c, impl.CertOk)
		checkVerify(t, "order", f, issued(t, "order", g), impl.CertOk)
	}
	if sat < 100 || unsat < 100 {
		t.Error("too few to tell", sat, unsat)
	}
}

// One variable, clause or literal more or less is another formula, though it be true at the same places.
func TestOtherFormulasHaveOtherDigests(t *testing.T) {
	f := impl.Cnf{N: 3, Clauses: [][]int{{1, 2}, {-1, 3}}}
	c := issued(t, "k", f)
	for _, g := range []impl.Cnf{
		{N: 4, Clauses: f.Clauses}, {N: 3, Clauses: f.Clauses[:1]}, {N: 3, Clauses: [][]int{{1, 2}, {-1, 3}, {2, 3}}}, {N: 3, Clauses: [][]int{{1, 2}, {-1}}},
		{N: 3, Clauses: [][]int{{1, -2}, {-1, 3}}}, {N: 3, Clauses: [][]int{{1, 2, 3}, {-1, 3}}}, {N: 3}, {N: 3, Clauses: [][]int{{1, 2}, {-1, 3}, {}}},
	} {
		if impl.Digest(f) == impl.Digest(g) {
			t.Errorf("one digest of %v and %v", f, g)
		}
		checkVerify(t, "k", g, c, impl.CertOther)
	}
	checkVerify(t, "k", impl.Cnf{N: 3, Clauses: [][]int{{3, -1}, {2, -2}, {2, 1, 2}}}, c, impl.CertOk)
}

func TestIssueAtTheEdges(t *testing.T) {
	for _, k := range []struct {
		f    impl.Cnf
		sat  bool
		body string
	}{
		{impl.Cnf{}, true, "0"},
		{impl.Cnf{N: 3}, true, "-1 -2 -3 0"},
		{impl.Cnf{N: 24}, true, assignmentText(repeated(0, 24))},
		{impl.Cnf{Clauses: [][]int{{}}}, false, "0\n"},
		{impl.Cnf{N: 24, Clauses: [][]int{{1, 2}, {}}}, false, "0\n"},
		{impl.Cnf{N: 1, Clauses: [][]int{{1}}}, true, "1 0"},
		{impl.Cnf{N: 1, Clauses: [][]int{{1}, {-1}}}, false, "0\n"},
		{impl.Cnf{N: 2, Clauses: [][]int{{1, 2}, {-1}}}, true, "-1 2 0"},
		{impl.Cnf{N: 2, Clauses: fourOf(nil, 1, 2)}, false, "1 0\n-1 0\n0\n"},
		{impl.Cnf{N: 2, Clauses: [][]int{{2, -2}, {1, 2}, {1, -2}}}, true, "1 -2 0"},
	} {
		for _, key := range []string{"", "k", strings.Repeat("\x00", 64), strings.Repeat("k", 64)} {
			checkIssue(t, key, k.f, marked(key, impl.Cert{Digest: digestOf(k.f), Sat: k.sat, Body: k.body}), true)
		}
		for _, key := range []string{strings.Repeat("k", 65), strings.Repeat("\x00", 65), strings.Repeat("k", 256), strings.Repeat("k", 60001)} {
			checkIssue(t, key, k.f, impl.Cert{}, false)
		}
	}
	for _, f := range notFormulas() {
		checkIssue(t, "", f, impl.Cert{}, false)
		checkIssue(t, "k", f, impl.Cert{}, false)
		checkIssue(t, strings.Repeat("k", 65), f, impl.Cert{}, false)
	}
}

// A formula that cannot be true, and has no proof of at most MaxProof clauses, has no certificate.
func TestIssueWithoutRefute(t *testing.T) {
	exponents := []int{8, 6, 4, 3, 2}
	within := combed(exponents, false)
	c := issued(t, "k", within)
	if want, _ := certOf("k", within); c != want || strings.Count(c.Body, "\n") != 699 {
		t.Error("the certificate of the longest proof", len(c.Body))
	}
	checkVerify(t, "k", within, c, impl.CertOk)
	for _, f := range []impl.Cnf{combed(exponents, true), nowhere(24), combed([]int{21, 20}, true)} {
		checkIssue(t, "k", f, impl.Cert{}, false)
	}
	// One clause less, and there is an answer, which asks for no proof.
	f := nowhere(24)
	f.Clauses = f.Clauses[:7]
	if c := issued(t, "k", f); !c.Sat || c.Body != assignmentText(append(repeated(0, 21), 1, 1, 1)) {
		t.Errorf("Issue of %v: %s", f, shown(c))
	}
}

func TestIssueAsWorkedOut(t *testing.T) {
	d := &dice{93}
	sat, unsat := 0, 0
	for i, f := range slices.Concat(edgeFormulas(), certFormulas(93, 200)) {
		key := d.text(i % 67)
		want, ok := certOf(key, f)
		checkIssue(t, key, f, want, ok)
		if ok && want.Sat {
			sat++
		} else if ok {
			unsat++
		}
	}
	if sat < 100 || unsat < 100 {
		t.Error("too few to tell", sat, unsat)
	}
}

// Promise 9: an answer that is issued verifies, under its key alone, and tells the truth.
func TestIssuedVerifies(t *testing.T) {
	d := &dice{94}
	for i, f := range certFormulas(94, 250) {
		key := d.text(i % 65)
		c, ok := impl.Issue(key, f)
		_, can := solvedOf(f)
		if !ok {
			if _, refuted := refutedOf(f); can || refuted {
				t.Errorf("no certificate of %v", f)
			}
			continue
		}
		if c.Sat != can || len(c.Digest) != 32 || len(c.Mark) != 32 {
			t.Errorf("Issue of %v: %s", f, shown(c))
		}
		checkVerify(t, key, f, c, impl.CertOk)
		checkVerify(t, key+"\x01", f, c, impl.CertMark)
		checkVerify(t, "another key", f, c, impl.CertMark)
		if again := issued(t, key, f); again != c {
			t.Errorf("Issue of %v answers something else the second time", f)
		}
	}
	// A key has noughts behind it up to 64 bytes, so that these two are one key.
	f := pigeons(3)
	checkVerify(t, "k\x00", f, issued(t, "k", f), impl.CertOk)
}

// The first failure is told, also where several hold.
func TestVerifyTellsTheFirstFailure(t *testing.T) {
	f := impl.Cnf{N: 2, Clauses: [][]int{{1, 2}, {-1}}}
	g := impl.Cnf{N: 2, Clauses: [][]int{{1}, {-1, 2}, {-2}}}
	none := impl.Cnf{N: -1}
	digest, other := digestOf(f), digestOf(g)
	for _, k := range []struct {
		f      impl.Cnf
		digest string
		sat    bool
		body   string
		want   int
	}{
		{f, digest, true, "-1 2 0", impl.CertOk}, {g, other, false, "0\n", impl.CertOk}, {g, other, false, "1 0\n0\n", impl.CertOk}, {g, other, false, "1 2 0\n-2 0\n0\n", impl.CertOk}, {g, other, false, "2 -2 0\n0\n", impl.CertWrong},
		{f, other, true, "-1 2 0", impl.CertOther}, {g, digest, false, "0\n", impl.CertOther}, {f, "", true, "-1 2 0", impl.CertOther}, {f, digest[:31], true, "-1 2 0", impl.CertOther}, {f, digest + "\x00", true, "-1 2 0", impl.CertOther},
		{f, other, true, "x", impl.CertOther}, {f, other, true, "1 2 0", impl.CertOther}, {f, other, false, "x", impl.CertOther}, {f, "", false, "", impl.CertOther},
		{none, digest, true, "-1 2 0", impl.CertOther}, {none, "", true, "0", impl.CertOther}, {none, "", false, "0\n", impl.CertOther}, {none, "", true, "x", impl.CertOther}, {none, sumOf(""), true, "0", impl.CertOther}, {none, sumOf("p cnf 0 0\n"), true, "0", impl.CertOther},
		{f, digest, true, "x", impl.CertBody}, {f, digest, true, "", impl.CertBody}, {f, digest, true, "0", impl.CertBody}, {f, digest, true, "-1 0", impl.CertBody}, {f, digest, true, "-1 2 3 0", impl.CertBody}, {f, digest, true, "-1 2 -3 0", impl.CertBody},
		{f, digest, true, "2 -1 0", impl.CertBody}, {f, digest, true, "-1 2 0\n", impl.CertBody}, {f, digest, true, " -1 2 0", impl.CertBody}, {f, digest, true, "-1 2 ", impl.CertBody}, {f, digest, true, "-1 -1 0", impl.CertBody}, {f, digest, true, "-1 +2 0", impl.CertBody}, {f, digest, true, "0\n", impl.CertBody},
		{g, other, false, "x", impl.CertBody}, {g, other, false, "0", impl.CertBody}, {g, other, false, "0\n0", impl.CertBody}, {g, other, false, "25 0\n0\n", impl.CertBody}, {g, other, false, "0\n\n", impl.CertBody}, {g, other, false, "-1 2 0", impl.CertBody}, {g, other, false, " 0\n", impl.CertBody}, {g, other, false, strings.Repeat("0\n", 701), impl.CertBody},
		{f, digest, false, "x", impl.CertBody}, {f, digest, false, "-1 2 0", impl.CertBody}, {g, other, true, "0\n", impl.CertBody}, {g, other, true, "", impl.CertBody},
		{f, digest, true, "1 2 0", impl.CertWrong}, {f, digest, true, "-1 -2 0", impl.CertWrong}, {g, other, true, "1 2 0", impl.CertWrong}, {g, other, true, "-1 -2 0", impl.CertWrong},
		{g, other, false, "", impl.CertWrong}, {g, other, false, "1 0\n", impl.CertWrong}, {g, other, false, "0\n1 0\n", impl.CertWrong}, {g, other, false, "3 0\n0\n", impl.CertWrong}, {g, other, false, "-24 0\n0\n", impl.CertWrong}, {g, other, false, strings.Repeat("0\n", 700), impl.CertOk},
		{f, digest, false, "0\n", impl.CertWrong}, {f, digest, false, "", impl.CertWrong}, {f, digest, false, "-1 0\n2 0\n0\n", impl.CertWrong}, {f, digest, false, "-1 2 0\n", impl.CertWrong},
	} {
		c := impl.Cert{Digest: k.digest, Sat: k.sat, Body: k.body}
		for _, key := range []string{"", "k", strings.Repeat("k", 64)} {
			checkVerify(t, key, k.f, marked(key, c), k.want)
			checkWrongMarks(t, key, k.f, marked(key, c))
		}
		checkVerify(t, "k", k.f, c, impl.CertMark)
	}
}

// checkWrongMarks spoils the mark of a certificate, whatever else holds of it.
func checkWrongMarks(t *testing.T, key string, f impl.Cnf, c impl.Cert) {
	t.Helper()
	turned, longer, flipped, moved := c, c, c, c
	turned.Sat = !c.Sat
	longer.Body += " "
	flipped.Mark = c.Mark[:31] + string([]byte{c.Mark[31] ^ 1})
	moved.Digest, moved.Body = c.Digest+"\x01", "\x01"+c.Body
	for _, d := range []impl.Cert{turned, longer, flipped, moved, {}} {
		checkVerify(t, key, f, d, impl.CertMark)
	}
	for _, mark := range []string{"", c.Mark[:31], c.Mark + "\x00", impl.HexText(c.Mark), strings.Repeat("\x00", 32), markOf(key+"x", signedOf(c)), markOf(key, c.Digest+c.Body), sumOf(signedOf(c))} {
		d := c
		d.Mark = mark
		checkVerify(t, key, f, d, impl.CertMark)
	}
}

// A key of more than 64 bytes has no marks: nothing verifies by it, nor does what has no mark.
func TestVerifyByLongKeys(t *testing.T) {
	f := impl.Cnf{N: 1, Clauses: [][]int{{1}, {-1}}}
	key := strings.Repeat("k", 64)
	c := issued(t, key, f)
	checkVerify(t, key, f, c, impl.CertOk)
	for _, long := range []string{key + "k", key + "\x00", strings.Repeat("k", 128), strings.Repeat("\x00", 60001)} {
		checkVerify(t, long, f, c, impl.CertMark)
		for _, mark := range []string{"", c.Mark, markOf(sumOf(long), signedOf(c)), strings.Repeat("\x00", 32)} {
			checkVerify(t, long, f, impl.Cert{Digest: c.Digest, Body: c.Body, Mark: mark}, impl.CertMark)
			checkVerify(t, long, impl.Cnf{N: -1}, impl.Cert{Body: "x", Mark: mark}, impl.CertMark)
		}
	}
}

// What is signed has a mark up to MaxBytes - 200 bytes of it.
func TestVerifyOfLongBodies(t *testing.T) {
	f := impl.Cnf{N: 24, Clauses: [][]int{{1}, {-1}}}
	widest := clauseText(repeated(-24, 48)) + "\n"
	within := strings.Repeat(widest, 308) + "-24 -24 -1 0\n0\n"
	beyond := strings.Repeat(widest, 308) + "-24 -24 -24 0\n0\n"
	if len(within) != 59800-33 || len(beyond) != 59800-32 {
		t.Fatal("these do not stand at the limit", len(within), len(beyond))
	}
	c := impl.Cert{Digest: digestOf(f), Body: within}
	checkVerify(t, "k", f, marked("k", c), impl.CertOk)
	checkVerify(t, "k", f, c, impl.CertMark)
	c.Sat = true
	checkVerify(t, "k", f, marked("k", c), impl.CertBody)
	c = impl.Cert{Digest: digestOf(f), Body: beyond}
	checkVerify(t, "k", f, c, impl.CertMark)
	c.Mark = impl.HexText(sumOf(beyond))
	checkVerify(t, "k", f, c, impl.CertMark)
	c = impl.Cert{Digest: strings.Repeat("d", 59799)}
	checkVerify(t, "k", f, marked("k", c), impl.CertOther)
	c.Digest += "d"
	checkVerify(t, "k", f, c, impl.CertMark)
}

// Promise 9: what verifies tells the truth, whatever the certificate is made of.
func TestWhatVerifiesTellsTheTruth(t *testing.T) {
	d := &dice{95}
	fs := append(proofsFormulas(95, 200), impl.Cnf{}, impl.Cnf{Clauses: [][]int{{}}}, pigeons(3), nowhere(3), allAlike(5), impl.Cnf{N: -1}, impl.Cnf{N: 2, Clauses: [][]int{{3}}})
	told := make([]int, 5)
	for _, f := range fs {
		c, _ := impl.Issue("k", f)
		if !isFormula(f) {
			c = impl.Cert{Body: "0", Sat: true}
		}
		can := isFormula(f) && len(answersOf(f)) > 0
		for i, body := range d.bodies(impl.Cnf{N: max(f.N, 0), Clauses: f.Clauses}, c) {
			digest := c.Digest
			if i%9 == 8 {
				digest = digestOf(fs[d.below(len(fs))])
			}
			made := impl.Cert{Digest: digest, Sat: c.Sat != (i%4 == 3), Body: body, Mark: c.Mark}
			if i%7 != 6 {
				made = marked("k", made)
			}
			want := codeOf("k", f, made)
			checkVerify(t, "k", f, made, want)
			told[want]++
			if impl.Verify("k", f, made) != impl.CertOk {
				continue
			}
			a, _ := assignOf(made.Body, f.N)
			if made.Sat != can || made.Sat && !formulaAt(f, a) {
				t.Errorf("%s verifies for %v", shown(made), f)
			}
		}
	}
	if slices.Min(told) < 100 {
		t.Error("too few to tell", told)
	}
}

// certTextOf and readOf go by the form of the text; readOf takes no part that is too long to have been written, nor the empty one that stands for all of these.
func certTextOf(c impl.Cert) string {
	part := func(s string) string {
		switch {
		case s == "":
			return "-"
		case len(s) > 60000:
			return ""
		}
		return hex.EncodeToString([]byte(s))
	}
	return part(c.Digest) + map[bool]string{false: " unsat ", true: " sat "}[c.Sat] + part(c.Mark) + "\n" + c.Body
}

var certForm = regexp.MustCompile(`(?s)\A(-|(?:[0-9a-f][0-9a-f])+) (sat|unsat) (-|(?:[0-9a-f][0-9a-f])+)\n(.*)\z`)

func readOf(s string) (impl.Cert, bool) {
	// The text is read byte by byte: the form would take what is no rune for another.
	line, body, found := strings.Cut(s, "\n")
	m := certForm.FindStringSubmatch(line + "\n")
	if !found || m == nil || len(m[1]) > 120000 || len(m[3]) > 120000 {
		return impl.Cert{}, false
	}
	digest, _ := hex.DecodeString(strings.Trim(m[1], "-"))
	mark, _ := hex.DecodeString(strings.Trim(m[3], "-"))
	return impl.Cert{Digest: string(digest), Sat: m[2] == "sat", Body: body, Mark: string(mark)}, true
}

func checkCertText(t *testing.T, s string) {
	t.Helper()
	want, wantOk := readOf(s)
	c, ok := impl.ReadCert(s)
	if c != want || ok != wantOk {
		t.Errorf("ReadCert of %d bytes %.200q: %s %v, want %s %v", len(s), s, shown(c), ok, shown(want), wantOk)
	}
	if ok && impl.CertText(c) != s {
		t.Errorf("ReadCert of %.200q: %s has another text", s, shown(c))
	}
}

func TestCertText(t *testing.T) {
	for _, k := range []struct {
		c    impl.Cert
		want string
	}{
		{impl.Cert{}, "- unsat -\n"},
		{impl.Cert{Sat: true}, "- sat -\n"},
		{impl.Cert{Body: "q"}, "- unsat -\nq"},
		{impl.Cert{Digest: "\x00\xff", Sat: true, Body: "1 0", Mark: "\x0a"}, "00ff sat 0a\n1 0"},
		{impl.Cert{Digest: "-", Body: "0\n"}, "2d unsat -\n0\n"},
		{impl.Cert{Sat: true, Mark: "-", Body: "\n"}, "- sat 2d\n\n"},
		{impl.Cert{Sat: true, Body: "- unsat -\n\nx\n"}, "- sat -\n- unsat -\n\nx\n"},
		{impl.Cert{Mark: "\n ", Body: "\x00\xff\x80"}, "- unsat 0a20\n\x00\xff\x80"},
	} {
		if got := impl.CertText(k.c); got != k.want {
			t.Errorf("CertText of %s: %q, want %q", shown(k.c), got, k.want)
		}
		if got, ok := impl.ReadCert(k.want); !ok || got != k.c {
			t.Errorf("ReadCert of %q: %s %v", k.want, shown(got), ok)
		}
	}
}

// Promise 9: a certificate comes back from its text.
func TestCertComesBack(t *testing.T) {
	d := &dice{96}
	var all []impl.Cert
	for i, f := range certFormulas(96, 150) {
		if c, ok := impl.Issue(d.text(i%65), f); ok {
			all = append(all, c)
		}
	}
	for i := range 300 {
		all = append(all, impl.Cert{Digest: d.text(d.below(4)), Sat: i%2 == 0, Body: d.text(d.below(40)), Mark: d.text(d.below(40))})
	}
	long := strings.Repeat("\xf5", 60000)
	all = append(all, impl.Cert{Digest: long}, impl.Cert{Mark: long, Sat: true}, impl.Cert{Digest: long, Mark: long, Body: long + "\n" + long})
	for _, c := range all {
		s := impl.CertText(c)
		if s != certTextOf(c) {
			t.Errorf("CertText of %s: %.200q", shown(c), s)
		}
		if got, ok := impl.ReadCert(s); !ok || got != c {
			t.Errorf("%s comes back as %s %v", shown(c), shown(got), ok)
		}
		checkCertText(t, s)
	}
	if len(all) < 500 {
		t.Error("too few to tell", len(all))
	}
}

// Only where there is no part does - stand in its place: one that is too long is there, and its HexText is the empty text.
func TestCertTextOfLongParts(t *testing.T) {
	long := strings.Repeat("d", 60001)
	full := long[:60000]
	fullDigits := strings.Repeat("64", 60000)
	for _, k := range []struct {
		c    impl.Cert
		want string
	}{
		{impl.Cert{Digest: long}, " unsat -\n"},
		{impl.Cert{Mark: long}, "- unsat \n"},
		{impl.Cert{Sat: true, Body: "1 0", Mark: long}, "- sat \n1 0"},
		{impl.Cert{Digest: long, Mark: long}, " unsat \n"},
		{impl.Cert{Digest: long, Mark: "m", Sat: true, Body: "b"}, " sat 6d\nb"},
		{impl.Cert{Digest: "d", Mark: long + long, Body: long}, "64 unsat \n" + long},
		{impl.Cert{Digest: strings.Repeat("\x00", 60001), Mark: strings.Repeat("-", 60001)}, " unsat \n"},
		{impl.Cert{Digest: full, Mark: long}, fullDigits + " unsat \n"},
		{impl.Cert{Digest: long, Mark: full, Sat: true}, " sat " + fullDigits + "\n"},
	} {
		got := impl.CertText(k.c)
		if got != k.want || got != certTextOf(k.c) {
			t.Errorf("CertText of parts of %d and %d bytes: %.100q, want %.100q", len(k.c.Digest), len(k.c.Mark), got, k.want)
		}
		// Each longer part has this text as well, so that it is the text of no one certificate.
		if c, ok := impl.ReadCert(k.want); ok || c != (impl.Cert{}) {
			t.Errorf("ReadCert of %.100q: %s %v", k.want, shown(c), ok)
		}
	}
	for _, k := range []struct {
		c    impl.Cert
		want string
	}{
		{impl.Cert{Digest: full}, fullDigits + " unsat -\n"},
		{impl.Cert{Mark: full, Sat: true, Body: long}, "- sat " + fullDigits + "\n" + long},
		{impl.Cert{Digest: full, Mark: full}, fullDigits + " unsat " + fullDigits + "\n"},
	} {
		if got := impl.CertText(k.c); got != k.want {
			t.Errorf("CertText of parts of %d and %d bytes: %.100q", len(k.c.Digest), len(k.c.Mark), got)
		}
		if c, ok := impl.ReadCert(k.want); !ok || c != k.c {
			t.Errorf("ReadCert of %.100q: %s %v", k.want, shown(c), ok)
		}
	}
}

func TestReadCertOfLongTexts(t *testing.T) {
	digits := strings.Repeat("0f", 60000)
	for _, s := range []string{digits + " sat -\n", "- sat " + digits + "\nx", digits + "00 sat -\n", "- sat " + digits + "00\nx", digits + "0 sat -\n", "- sat -\n" + digits + "00"} {
		checkCertText(t, s)
	}
	if _, ok := impl.ReadCert(digits + "00 sat -\n"); ok {
		t.Error("a digest that HexText has no text of")
	}
}

func TestReadCertRefuses(t *testing.T) {
	for _, s := range []string{
		"", "\n", " ", "-", "- unsat -", "- sat -", "00 sat 00", "- unsat - ", "- \nunsat -", "\n- unsat -\n", "- unsat\n-\n", "-\nsat -\n",
		"- Sat -\n", "- SAT -\n", "- unsatt -\n", "- sa -\n", "-  -\n", "- - -\n", "- true -\n", "- 1 -\n", "- sat\t-\n", "- satunsat -\n", "- unsat sat -\n", "- satsat -\n",
		"- sat - \n", " - sat -\n", "-  sat -\n", "- sat  -\n", "-sat -\n", "- sat-\n", "-sat-\n", "- -\n", "- sat\n", "sat -\n", "- sat - -\n", "- sat -\r\n", "- sat -\x00\n",
		"0 sat -\n", "- sat 0\n", "000 sat -\n", "- sat abc\n", "AB sat -\n", "- sat aB\n", "0g sat -\n", "- sat x0\n", "0x00 sat -\n", "- sat +1\n", "-- sat -\n", "- sat --\n", "-00 sat -\n", "- sat 00-\n", "-0 sat -\n", "- sat -1\n",
		" sat -\n", " unsat -\n", "- sat \n", "- sat \n1 0", " sat \n", " unsat \nq", "00 sat \n", " sat 00\n", "\xff sat -\n", "- sat \xc3\xa9\n", "00 \xff sat -\n", "\u00a0 sat -\n", "-\u00a0sat -\n",
	} {
		if c, ok := impl.ReadCert(s); ok || c != (impl.Cert{}) {
			t.Errorf("ReadCert of %q: %s %v", s, shown(c), ok)
		}
		checkCertText(t, s)
	}
}

func TestReadCertOfEveryShortText(t *testing.T) {
	parts := []string{"", "-", "0", "00", "0a", "0A", "sat", "unsat", " ", "\n", "--", "x"}
	taken := 0
	check := func(s string) {
		checkCertText(t, s)
		if _, ok := impl.ReadCert(s); ok {
			taken++
		}
	}
	for _, digest := range parts {
		for _, word := range parts {
			for _, mark := range parts {
				for _, more := range parts {
					check(digest + " " + word + " " + mark + more)
					check(digest + " " + word + " " + mark + "\n" + more)
					check(digest + word + mark + more)
				}
			}
		}
	}
	// Three parts ahead, two words and three parts behind, each with every body; and the one newline without a body that stands for a part.
	if want := 3*2*3*len(parts) + 3*2*3; taken != want {
		t.Errorf("%d texts are taken, want %d", taken, want)
	}
}

func TestReadCertOfTextsWithOneFault(t *testing.T) {
	d := &dice{97}
	signs := "-0af Ags\nut\xff"
	for i := range 4000 {
		s := []byte(certTextOf(impl.Cert{Digest: d.text(d.below(3)), Sat: i%2 == 0, Body: d.text(d.below(3)), Mark: d.text(d.below(3))}))
		at := d.below(len(s))
		sign := signs[d.below(len(signs))]
		switch i % 3 {
		case 0:
			s[at] = sign
		case 1:
			s = slices.Delete(s, at, at+1)
		case 2:
			s = slices.Insert(s, at, sign)
		}
		checkCertText(t, string(s))
	}
}

// Promise 15: every function of the chapter answers at any arguments, and writes into none.
func TestCertFunctionsWriteIntoNothing(t *testing.T) {
	d := &dice{98}
	fs := slices.Concat(edgeFormulas(), certFormulas(98, 60))
	for range 40 {
		fs = append(fs, d.formula(24, 60, 48), impl.Cnf{N: d.below(30), Clauses: [][]int{d.edges(5), d.edges(5)}})
	}
	for i, one := range fs {
		f := guardCnf(one)
		key := d.text(i % 67)
		c, ok := impl.Issue(key, f.f)
		if !ok {
			c = marked(key, impl.Cert{Digest: impl.Digest(f.f), Sat: i%2 == 0, Body: d.text(i % 9)})
		}
		f.check(t, "Issue or Digest")
		kept := c
		code := impl.Verify(key, f.f, c)
		f.check(t, "Verify")
		f.spoil()
		f.mend()
		if c != kept || code != impl.Verify(key, f.f, c) || ok && code != impl.CertOk || !ok && code == impl.CertOk {
			t.Errorf("Verify of %v and %s: %d", one, shown(c), code)
		}
		s := impl.CertText(c)
		if back, _ := impl.ReadCert(s); back != c || c != kept {
			t.Errorf("%s comes back as %s", shown(c), shown(back))
		}
		turned := c
		turned.Sat = !c.Sat
		impl.Verify(key, f.f, marked(key, turned))
		f.check(t, "Verify of what is turned round")
	}
}
