package tests

import (
	"fmt"
	"math"
	"slices"
	"strings"
	"testing"

	"loop.example/g00123/impl"
)

// together is f with clauses behind; they may be more than a formula has room for.
func together(f impl.Cnf, clauses [][]int) impl.Cnf {
	return impl.Cnf{N: f.N, Clauses: slices.Concat(f.Clauses, clauses)}
}

// firstBadOf looks at each clause with all that is ahead of it, as the chapter tells it.
func firstBadOf(f impl.Cnf, proof [][]int) int {
	if !isFormula(f) || len(proof) > 700 {
		return -1
	}
	for i, c := range proof {
		if !isClauseOf(c, f.N) {
			return i
		}
		if _, ok := forcedTo(together(f, proof[:i]), opposites(c)); ok {
			return i
		}
	}
	return len(proof)
}

func isProof(f impl.Cnf, proof [][]int) bool {
	return len(proof) > 0 && len(proof[len(proof)-1]) == 0 && firstBadOf(f, proof) == len(proof)
}

// trimmedOf takes clauses out one by one, and asks about the whole rest each time.
func trimmedOf(f impl.Cnf, proof [][]int) ([][]int, bool) {
	if !isProof(f, proof) {
		return nil, false
	}
	left := slices.Clone(proof)
	for i := 0; i < len(left)-1; {
		rest := slices.Delete(slices.Clone(left), i, i+1)
		if isProof(f, rest) {
			left = rest
		} else {
			i++
		}
	}
	return left, true
}

// walkOf tells the clauses of the walk, however many, and false where it meets an answer.
func walkOf(f impl.Cnf, decisions []int) ([][]int, bool) {
	var told [][]int
	if all, ok := forceOf(f, decisions); ok {
		free := freeOf(f, all)
		if len(free) == 0 {
			return nil, false
		}
		for _, x := range []int{-free[0], free[0]} {
			some, ok := walkOf(f, append(slices.Clone(decisions), x))
			if !ok {
				return nil, false
			}
			told = append(told, some...)
		}
	}
	return append(told, opposites(decisions)), true
}

func refutedOf(f impl.Cnf) ([][]int, bool) {
	if !isFormula(f) {
		return nil, false
	}
	told, ok := walkOf(f, nil)
	if !ok || len(told) > 700 {
		return nil, false
	}
	return told, true
}

// proofTextOf is for the texts of ProofText, and proofOf reads them by the form of their lines.
func proofTextOf(proof [][]int) string {
	text := ""
	for _, c := range proof {
		if !isClause(c) || len(proof) > 700 {
			return ""
		}
		text += clauseText(c) + "\n"
	}
	return text
}

func proofOf(s string) ([][]int, bool) {
	lines := strings.Split(s, "\n")
	last := len(lines) - 1
	if lines[last] != "" || last > 700 {
		return nil, false
	}
	var proof [][]int
	for _, line := range lines[:last] {
		if !clauseTextForm.MatchString(line) {
			return nil, false
		}
		proof = append(proof, numbersOf(line[:len(line)-1]))
	}
	return proof, true
}

// fourOf are the clauses of a pair of variables that cannot be true together, each with more literals ahead.
func fourOf(ahead []int, a int, b int) [][]int {
	var clauses [][]int
	for _, pair := range [][]int{{a, b}, {a, -b}, {-a, b}, {-a, -b}} {
		clauses = append(clauses, slices.Concat(ahead, pair))
	}
	return clauses
}

// combed cannot be true. Its walk takes variable i+1 to be true behind the first i ones, and has 2 to the power exponents[i] ends where it is not; where all are true it has two ends, and one more if asked for.
func combed(exponents []int, more bool) impl.Cnf {
	f := impl.Cnf{}
	var ahead []int
	for i, e := range exponents {
		v := i + 1
		f.Clauses = append(f.Clauses, fourOf(append(slices.Clone(ahead), v), v+e, v+e+1)...)
		f.N = max(f.N, v+e+1)
		ahead = append(ahead, -v)
	}
	v := len(exponents) + 1
	f.N = max(f.N, v+2)
	if more {
		f.Clauses = append(f.Clauses, slices.Concat(ahead, []int{v, v + 1}), slices.Concat(ahead, []int{v, -v - 1}))
		f.Clauses = append(f.Clauses, fourOf(append(ahead, -v), v+1, v+2)...)
		return f
	}
	f.Clauses = append(f.Clauses, fourOf(ahead, v, v+1)...)
	return f
}

// pigeons cannot be true: it puts that many things into one place less, no two into one.
func pigeons(things int) impl.Cnf {
	places := things - 1
	f := impl.Cnf{N: things * places}
	for i := range things {
		var c []int
		for j := range places {
			x := i*places + j + 1
			c = append(c, x)
			for k := range i {
				f.Clauses = append(f.Clauses, []int{-x, -k*places - j - 1})
			}
		}
		f.Clauses = append(f.Clauses, c)
	}
	return f
}

// crowded has so many narrow clauses that it can seldom be true.
func (d *dice) crowded(n int) impl.Cnf {
	return d.narrow(n, min(120, 4+6*n))
}

func proofsFormulas(seed uint64, many int) []impl.Cnf {
	d := &dice{seed}
	fs := someFormulas(seed, many)
	for i := range many {
		fs = append(fs, d.crowded(1+i%7))
	}
	return fs
}

func checkLists(t *testing.T, what string, got [][]int, ok bool, want [][]int, wantOk bool) {
	t.Helper()
	if ok != wantOk || !sameLists(got, want) {
		t.Errorf("%s: %v %v, want %v %v", what, got, ok, want, wantOk)
	}
}

func checkRefute(t *testing.T, f impl.Cnf, want [][]int, wantOk bool) {
	t.Helper()
	got, ok := impl.Refute(f)
	checkLists(t, fmt.Sprint("Refute of ", f), got, ok, want, wantOk)
}

// checkProof asks Check, FirstBad and Trim what is known of a proof.
func checkProof(t *testing.T, f impl.Cnf, proof [][]int, want bool, firstBad int) {
	t.Helper()
	if got := impl.Check(f, proof); got != want {
		t.Errorf("Check of %v and %v is %v", f, proof, got)
	}
	if got := impl.FirstBad(f, proof); got != firstBad {
		t.Errorf("FirstBad of %v and %v: %d, want %d", f, proof, got, firstBad)
	}
	if left, ok := impl.Trim(f, proof); ok != want || !ok && len(left) > 0 {
		t.Errorf("Trim of %v and %v: %v %v", f, proof, left, ok)
	}
}

func checkTrim(t *testing.T, f impl.Cnf, proof [][]int, want ...[]int) {
	t.Helper()
	got, ok := impl.Trim(f, proof)
	checkLists(t, fmt.Sprint("Trim of ", f, " and ", proof), got, ok, want, true)
}

// times is that many times the same clause.
func times(c []int, many int) [][]int {
	return slices.Repeat([][]int{c}, many)
}

func TestRefuteWalk(t *testing.T) {
	if impl.MaxProof != 700 {
		t.Fatal("limit", impl.MaxProof)
	}
	eight := impl.Cnf{N: 3}
	for _, a := range allAssignments(3) {
		eight.Clauses = append(eight.Clauses, []int{1 - 2*a[0], 2 - 4*a[1], 3 - 6*a[2]})
	}
	for _, k := range []struct {
		f    impl.Cnf
		want [][]int
	}{
		{impl.Cnf{N: 2, Clauses: fourOf(nil, 1, 2)}, [][]int{{1}, {-1}, {}}},
		// The order is that of the decisions, not that of the clauses.
		{impl.Cnf{N: 2, Clauses: fourOf(nil, -2, -1)}, [][]int{{1}, {-1}, {}}},
		{eight, [][]int{{1, 2}, {1, -2}, {1}, {-1, 2}, {-1, -2}, {-1}, {}}},
		// Variables that no clause has are decided all the same, the least first.
		{impl.Cnf{N: 3, Clauses: fourOf(nil, 2, 3)}, [][]int{{1, 2}, {1, -2}, {1}, {-1, 2}, {-1, -2}, {-1}, {}}},
		{impl.Cnf{N: 4, Clauses: fourOf(nil, 1, 2)}, [][]int{{1}, {-1}, {}}},
		// What is forced is no decision, and is passed over by the next: 1 forces 2, and -1 forces 3.
		{impl.Cnf{N: 5, Clauses: append([][]int{{-1, 2}, {1, 3}}, fourOf(nil, 4, 5)...)}, [][]int{{1, 2, 4}, {1, 2, -4}, {1, 2}, {1, -2, 4}, {1, -2, -4}, {1, -2}, {1}, {-1, 3, 4}, {-1, 3, -4}, {-1, 3}, {-1, -3, 4}, {-1, -3, -4}, {-1, -3}, {-1}, {}}},
		// One side fails at once, the other goes on.
		{impl.Cnf{N: 3, Clauses: append([][]int{{1, 2}, {1, -2}}, fourOf([]int{-1}, 2, 3)...)}, [][]int{{1}, {-1, 2}, {-1, -2}, {-1}, {}}},
		{impl.Cnf{N: 3, Clauses: append(fourOf([]int{1}, 3, 2), []int{-1, 2}, []int{-1, -2})}, [][]int{{1, 2}, {1, -2}, {1}, {-1}, {}}},
		{impl.Cnf{N: 3, Clauses: append(fourOf([]int{-1}, 2, 3), []int{1, 2, 3}, []int{1, 2, -3}, []int{1, -2})}, [][]int{{1}, {-1, 2}, {-1, -2}, {-1}, {}}},
		// The least variable has a single clause, so the first decision is of the second.
		{impl.Cnf{N: 3, Clauses: append([][]int{{-1, -1}}, fourOf([]int{1}, 2, 3)...)}, [][]int{{2}, {-2}, {}}},
		// Forced alone.
		{impl.Cnf{N: 1, Clauses: [][]int{{1}, {-1}}}, [][]int{{}}}, {impl.Cnf{N: 4, Clauses: [][]int{{-1, 2}, {-2, 3}, {-3, 4}, {1}, {-4, -4}}}, [][]int{{}}}, {impl.Cnf{Clauses: [][]int{{}}}, [][]int{{}}}, {impl.Cnf{N: 24, Clauses: [][]int{{1, 2}, nil}}, [][]int{{}}}, {repeatedClause(24, nil, 120), [][]int{{}}},
		// Both literals of a variable, and one literal twice.
		{impl.Cnf{N: 2, Clauses: append([][]int{{1, -1}, {2, -2, 1}}, fourOf(nil, 1, 2)...)}, [][]int{{1}, {-1}, {}}}, {impl.Cnf{N: 2, Clauses: [][]int{{1, 2, 1}, {1, -2, -2}, {-1, -1, 2}, {-1, -2, -1, -2}}}, [][]int{{1}, {-1}, {}}}, {impl.Cnf{N: 2, Clauses: [][]int{{2, 2, 2}, {-2, -2}}}, [][]int{{}}},
	} {
		checkRefute(t, k.f, k.want, true)
	}
}

func TestRefuteHasNoneWhereItCanBeTrue(t *testing.T) {
	for _, f := range []impl.Cnf{
		{}, {N: 1}, {N: 24}, {N: 1, Clauses: [][]int{{1}}}, {N: 1, Clauses: [][]int{{1, -1}}}, {N: 2, Clauses: fourOf(nil, 1, 2)[:3]}, {N: 2, Clauses: fourOf(nil, 1, 2)[1:]}, {N: 24, Clauses: [][]int{{24, 23}, {24, -23}, {-24, 23}}}, allAlike(24), {N: 24, Clauses: [][]int{upTo(24), opposites(upTo(24))}}, {N: 24, Clauses: [][]int{allLiterals()}}, repeatedClause(24, []int{24, -1}, 120),
		// The answer stands behind all that fails.
		{N: 3, Clauses: append(fourOf([]int{1}, 2, 3), fourOf([]int{-1}, 2, 3)[:3]...)},
		// Where every variable is forced, none is free.
		withLiterals(impl.Cnf{N: 24}, upTo(24)),
	} {
		checkRefute(t, f, nil, false)
	}
	for _, f := range notFormulas() {
		checkRefute(t, f, nil, false)
		// Nor where it could not be true, but for that.
		checkRefute(t, together(f, [][]int{{}}), nil, false)
		checkRefute(t, together(f, fourOf(nil, 1, 2)), nil, false)
	}
}

// A walk has a clause for each of its ends and one less for what is above them: it has 699 or 701, never 700.
func TestRefuteAtMaxProof(t *testing.T) {
	exponents := []int{8, 6, 4, 3, 2}
	within, beyond := combed(exponents, false), combed(exponents, true)
	want, _ := walkOf(within, nil)
	if more, _ := walkOf(beyond, nil); len(want) != 699 || len(more) != 701 {
		t.Fatal("these do not stand at the limit", len(want), len(more))
	}
	checkRefute(t, within, want, true)
	checkProof(t, within, want, true, 699)
	checkRefute(t, beyond, nil, false)
	checkRefute(t, combed([]int{10, 10, 10, 10}, false), nil, false)
	// Many more: the walk breaks off.
	checkRefute(t, nowhere(24), nil, false)
	checkRefute(t, combed([]int{21, 20}, true), nil, false)
	// An answer behind more than MaxProof clauses.
	f := nowhere(24)
	f.Clauses = f.Clauses[:7]
	checkRefute(t, f, nil, false)
}

func TestRefuteAsWorkedOut(t *testing.T) {
	d := &dice{61}
	fs := append(edgeFormulas(), proofsFormulas(61, 400)...)
	for i := range 120 {
		fs = append(fs, d.narrow(8+i%17, 120))
	}
	fs = append(fs, pigeons(2), pigeons(3), pigeons(4), pigeons(5), combed([]int{3, 1, 2}, true), combed([]int{7, 7}, false))
	refuted, long := 0, 0
	for _, f := range fs {
		want, ok := refutedOf(f)
		checkRefute(t, f, want, ok)
		if ok {
			refuted++
		}
		if len(want) > 20 {
			long++
		}
	}
	if refuted < 300 || long < 10 {
		t.Error("too few to tell", refuted, long)
	}
}

// Promise 6: a formula that cannot be true has a proof that checks, and one that can be true has none.
func TestFormulaThatCannotBeTrueHasAProof(t *testing.T) {
	d := &dice{62}
	fs := append(proofsFormulas(62, 500), pigeons(4), pigeons(5), impl.Cnf{}, impl.Cnf{Clauses: [][]int{{}}})
	for i := range 200 {
		fs = append(fs, d.narrow(10+i%15, 120))
	}
	some, none := 0, 0
	for _, f := range fs {
		_, can := impl.Solve(f)
		proof, ok := impl.Refute(f)
		if can {
			some++
			checkLists(t, fmt.Sprint("Refute of ", f), proof, ok, nil, false)
			continue
		}
		none++
		if walk, _ := walkOf(f, nil); !ok && len(walk) <= 700 {
			t.Errorf("Refute of %v has none", f)
		}
		if !ok {
			continue
		}
		checkProof(t, f, proof, true, len(proof))
		left, _ := impl.Trim(f, proof)
		checkProof(t, f, left, true, len(left))
		if len(left) > len(proof) || len(left[len(left)-1]) > 0 {
			t.Errorf("Trim of %v and %v: %v", f, proof, left)
		}
	}
	if some < 100 || none < 300 {
		t.Error("too few to tell", some, none)
	}
}

// spoiled are lists that a proof becomes by one change, and some that are put together at random.
func (d *dice) spoiled(n int, proof [][]int) [][][]int {
	n = max(n, 1)
	lists := [][][]int{append(slices.Clone(proof), d.clause(3, n)), slices.Insert(slices.Clone(proof), 0, d.clause(3, n))}
	for i := range proof {
		changed := slices.Clone(proof)
		changed[i] = d.clause(3, n)
		lists = append(lists, changed, slices.Delete(slices.Clone(proof), i, i+1), slices.Insert(slices.Clone(proof), i, d.clause(2, n)), slices.Insert(slices.Clone(proof), i, []int(nil)))
		if i > 0 {
			turned := slices.Clone(proof)
			turned[i-1], turned[i] = turned[i], turned[i-1]
			lists = append(lists, turned)
		}
	}
	for range 4 {
		var made [][]int
		for range d.below(5) {
			made = append(made, d.clause(3, n))
		}
		lists = append(lists, append(made, nil), made)
	}
	return lists
}

// Promise 6: what Check takes, whatever it is made of, shows that the formula cannot be true.
func TestWhatChecksCannotBeTrue(t *testing.T) {
	d := &dice{63}
	taken, refused := 0, 0
	for i, f := range proofsFormulas(63, 250) {
		proof, _ := refutedOf(f)
		if i%2 == 0 {
			proof, _ = trimmedOf(f, proof)
		}
		for _, list := range d.spoiled(f.N, proof) {
			checkProof(t, f, list, isProof(f, list), firstBadOf(f, list))
			if !impl.Check(f, list) {
				refused++
				continue
			}
			taken++
			if len(answersOf(f)) > 0 {
				t.Errorf("Check takes %v of %v, which can be true", list, f)
			}
		}
	}
	if taken < 500 || refused < 1000 {
		t.Error("too few to tell", taken, refused)
	}
}

func TestCheckAtTheEdges(t *testing.T) {
	four := impl.Cnf{N: 2, Clauses: fourOf(nil, 1, 2)}
	once := impl.Cnf{N: 2, Clauses: [][]int{{1}, {-1}}}
	can := impl.Cnf{N: 2, Clauses: [][]int{{1}, {-1, 2}}}
	for _, k := range []struct {
		f        impl.Cnf
		proof    [][]int
		want     bool
		firstBad int
	}{
		{four, [][]int{{1}, {}}, true, 2}, {four, [][]int{{-1}, {}}, true, 2}, {four, [][]int{{2}, nil}, true, 2}, {four, [][]int{{-2}, {}}, true, 2}, {four, [][]int{{1}, {-1}, {}}, true, 3}, {once, [][]int{{}}, true, 1}, {once, [][]int{nil}, true, 1},
		// The empty list, and one whose last clause is not empty.
		{four, nil, false, 0}, {once, nil, false, 0}, {can, nil, false, 0}, {impl.Cnf{}, nil, false, 0}, {impl.Cnf{Clauses: [][]int{{}}}, nil, false, 0},
		{four, [][]int{{1}}, false, 1}, {four, [][]int{{1}, {-1}}, false, 2}, {once, [][]int{{2}}, false, 1}, {four, [][]int{{1}, {}, {2}}, false, 3}, {once, [][]int{{}, {1}}, false, 2}, {can, [][]int{{2}}, false, 1}, {can, [][]int{{1}, {2}}, false, 2},
		// The empty clause ahead of the last: all follows from it, what has both literals of a variable too.
		{once, [][]int{{}, {}}, true, 2}, {four, [][]int{{1}, {}, {}}, true, 3}, {four, [][]int{{1}, {}, {2, -2}, {-2}, {}}, true, 5}, {once, [][]int{{}, {1, -1}, {}}, true, 3}, {four, [][]int{{}, {1}, {}}, false, 0},
		// What does not follow at once, at the first, in the middle and at the last.
		{four, [][]int{{}}, false, 0}, {can, [][]int{{-1}, {}}, false, 0}, {can, [][]int{{2}, {1}, {-2}, {}}, false, 2}, {can, [][]int{{2}, {}}, false, 1}, {can, [][]int{{}}, false, 0}, {impl.Cnf{}, [][]int{{}}, false, 0}, {impl.Cnf{N: 3}, [][]int{{1}, {}}, false, 0}, {impl.Cnf{N: 3}, [][]int{{}}, false, 0},
		// A clause does not follow from itself, nor from one behind it.
		{can, [][]int{{-1, -2}, {}}, false, 0}, {can, [][]int{{-2}, {-2}, {}}, false, 0}, {impl.Cnf{N: 3, Clauses: append(fourOf([]int{3}, 1, 2), fourOf([]int{-3}, 1, 2)...)}, [][]int{{3}, {3, 1}, {-3, 1}, {}}, false, 0}, {impl.Cnf{N: 3, Clauses: append(fourOf([]int{3}, 1, 2), fourOf([]int{-3}, 1, 2)...)}, [][]int{{3, 1}, {3}, {-3, 1}, {}}, true, 4},
		// Variables beyond N, and what is no clause.
		{four, [][]int{{1}, {3}, {}}, false, 1}, {four, [][]int{{-3}, {1}, {}}, false, 0}, {four, [][]int{{1}, {1, -3}, {}}, false, 1}, {once, [][]int{{3, 1}, {}}, false, 0}, {once, [][]int{{0}, {}}, false, 0}, {once, [][]int{{1, 0}, {}}, false, 0}, {once, [][]int{{25}, {}}, false, 0}, {once, [][]int{{257}, {}}, false, 0}, {once, [][]int{{math.MinInt}, {}}, false, 0}, {once, [][]int{{math.MaxInt}, {}}, false, 0}, {once, [][]int{repeated(1, 48), {}}, true, 2}, {once, [][]int{repeated(1, 49), {}}, false, 0}, {once, [][]int{{}, {3}, {}}, false, 1}, {once, [][]int{{}, {0}}, false, 1}, {once, [][]int{{}, {}, {1}, {-256}, {}}, false, 3},
		{impl.Cnf{Clauses: [][]int{{}}}, [][]int{{1}, {}}, false, 0}, {impl.Cnf{N: 24, Clauses: [][]int{{}}}, [][]int{{24, -24}, {25}, {}}, false, 1}, {impl.Cnf{N: 24, Clauses: [][]int{{}}}, [][]int{allLiterals(), {}}, true, 2},
		// Both literals of a variable: taken both, they close what has it.
		{once, [][]int{{1, -1}, {}}, false, 0}, {once, [][]int{{2, -2}, {}}, true, 2}, {four, [][]int{{1, -1}, {1}, {}}, false, 0}, {four, [][]int{{1}, {2, -2}, {}}, false, 1}, {can, [][]int{{1, -1}}, false, 0}, {impl.Cnf{N: 3, Clauses: fourOf(nil, 1, 2)}, [][]int{{1}, {3, -3}, {}}, true, 3}, {impl.Cnf{N: 3, Clauses: fourOf(nil, 1, 2)}, [][]int{{3, -3}, {1}, {}}, false, 0},
		// One literal twice.
		{four, [][]int{{1, 1}, {}}, true, 2}, {four, [][]int{{-2, -2, -2}, {2, 2}, {}}, true, 3}, {four, [][]int{{1, 2, 1}, {1, 1, 2}, {-1, -1}, {}}, true, 4}, {can, [][]int{{2, 2}, {-2, -2}, {}}, false, 1},
		// At the limits.
		{repeatedClause(24, nil, 120), times(nil, 700), true, 700}, {repeatedClause(24, nil, 120), times(nil, 701), false, -1}, {once, times(nil, 700), true, 700}, {once, times(nil, 701), false, -1}, {once, append(times([]int{2}, 699), nil), true, 700}, {once, append(times([]int{2}, 700), nil), false, -1}, {four, append(times([]int{1}, 699), nil), true, 700}, {four, append(times([]int{1}, 700), nil), false, -1}, {once, times([]int{2}, 700), false, 700}, {once, times([]int{2}, 701), false, -1}, {once, times([]int{0}, 701), false, -1}, {once, append(times([]int{2}, 699), []int{3}), false, 699}, {four, times(nil, 5000), false, -1},
		{withLiterals(allAlike(24), []int{1, -24}), [][]int{{12}, {-12}, {}}, true, 3},
	} {
		checkProof(t, k.f, k.proof, k.want, k.firstBad)
		if isProof(k.f, k.proof) != k.want || firstBadOf(k.f, k.proof) != k.firstBad {
			t.Errorf("what is worked out of %v and %v is something else", k.f, k.proof)
		}
	}
	for _, f := range notFormulas() {
		for _, proof := range [][][]int{nil, {{}}, {{1}, {}}, {{1}, {-1}, {}}, {{0}}, times(nil, 701)} {
			checkProof(t, f, proof, false, -1)
			checkProof(t, together(f, [][]int{{}}), proof, false, -1)
		}
	}
}

func TestTrim(t *testing.T) {
	four := impl.Cnf{N: 2, Clauses: fourOf(nil, 1, 2)}
	once := impl.Cnf{N: 2, Clauses: [][]int{{1}, {-1}}}
	eight := impl.Cnf{N: 3, Clauses: append(fourOf([]int{3}, 1, 2), fourOf([]int{-3}, 1, 2)...)}
	// From the first on: what stands last stays.
	checkTrim(t, four, [][]int{{1}, {-1}, {}}, []int{-1}, nil)
	checkTrim(t, four, [][]int{{-1}, {1}, {}}, []int{1}, nil)
	checkTrim(t, four, [][]int{{1}, {2}, {-1}, {-2}, {}}, []int{-2}, nil)
	checkTrim(t, eight, [][]int{{3, 1}, {3}, {-3, 1}, {-3}, {}}, []int{3, 1}, []int{-3, 1}, []int{-3}, nil)
	checkTrim(t, eight, [][]int{{3, 1}, {-3, -1}, {2, 3}, {3}, {}}, []int{-3, -1}, []int{2, 3}, []int{3}, nil)
	// Nothing can be taken out.
	checkTrim(t, four, [][]int{{1}, {}}, []int{1}, nil)
	checkTrim(t, once, [][]int{{}}, nil)
	checkTrim(t, eight, [][]int{{3, 1}, {3}, {1}, {}}, []int{3, 1}, []int{3}, []int{1}, nil)
	checkTrim(t, eight, [][]int{{3, 1}, {3}, {-3, 1}, {}}, []int{3, 1}, []int{3}, []int{-3, 1}, nil)
	// One clause twice: the one ahead goes, where the other stands ahead of what asks for it; the other is told as it is there.
	checkTrim(t, four, [][]int{{1}, {1}, {}}, []int{1}, nil)
	checkTrim(t, four, [][]int{{1}, {1, 1}, {}}, []int{1, 1}, nil)
	checkTrim(t, four, [][]int{{1, 1}, {1}, {}}, []int{1}, nil)
	checkTrim(t, eight, [][]int{{1, 3}, {3, 1}, {3}, {1}, {}}, []int{3, 1}, []int{3}, []int{1}, nil)
	checkTrim(t, eight, [][]int{{1, 3}, {3}, {3, 1}, {1}, {}}, []int{1, 3}, []int{3}, []int{1}, nil)
	// Each is asked about once, with all behind it: one that only what goes later asks for stays.
	apart := impl.Cnf{N: 5, Clauses: append(fourOf(nil, 1, 2), fourOf([]int{5}, 3, 4)...)}
	checkTrim(t, apart, [][]int{{5, 3}, {5}, {1}, {}}, []int{5, 3}, []int{1}, nil)
	checkTrim(t, apart, [][]int{{5, 3}, {1}, {}}, []int{1}, nil)
	checkTrim(t, four, [][]int{{1}, {}, {2, -2}, {}}, []int{1}, nil, nil)
	checkTrim(t, once, [][]int{{}, {1, -1}, {}}, nil, nil)
	// The empty clause ahead of the last is taken out where what is behind follows without it.
	checkTrim(t, once, [][]int{{}, {}}, nil)
	checkTrim(t, once, [][]int{{}, {2}, {}, {}}, nil)
	checkTrim(t, four, [][]int{{1}, {}, {}}, []int{1}, nil)
	checkTrim(t, once, [][]int{{2, -2}, {1}, {}}, nil)
	// What is in the formula is taken out.
	checkTrim(t, four, [][]int{{1, 2}, {2, 1}, {1}, {-1, 2}, {}}, []int{1}, nil)
	checkTrim(t, four, append(times([]int{1}, 699), nil), []int{1}, nil)
	checkTrim(t, repeatedClause(24, nil, 120), times(nil, 700), nil)
}

func TestTrimAsWorkedOut(t *testing.T) {
	d := &dice{64}
	less, alike := 0, 0
	for _, f := range append(proofsFormulas(64, 150), pigeons(3), pigeons(4), combed([]int{3, 1, 2}, true)) {
		proof, ok := refutedOf(f)
		if !ok {
			continue
		}
		lists := [][][]int{proof}
		if f.N < 7 {
			lists = append(d.spoiled(f.N, proof), proof, slices.Concat(proof, proof))
		}
		for _, list := range lists {
			want, wantOk := trimmedOf(f, list)
			got, ok := impl.Trim(f, list)
			checkLists(t, fmt.Sprint("Trim of ", f, " and ", list), got, ok, want, wantOk)
			if ok && len(got) == len(list) {
				alike++
			} else if ok {
				less++
			}
		}
	}
	if less < 200 || alike < 20 {
		t.Error("too few to tell", less, alike)
	}
}

func TestProofSize(t *testing.T) {
	for _, k := range []struct {
		proof [][]int
		want  int
	}{
		{nil, 0}, {[][]int{{}}, 0}, {[][]int{nil, {}, nil}, 0}, {[][]int{{1}, {-1}, {}}, 2}, {[][]int{{1, 2, 3}, {}, {-4, -4}}, 5}, {times([]int{1, -1, 1}, 700), 2100}, {times([]int{2, 2}, 701), 1402}, {[][]int{repeated(1, 48), repeated(2, 49), repeated(3, 5000)}, 5097},
		// At any lists: each place of a clause counts, whatever stands there.
		{[][]int{{0}, {25, -25}, {math.MinInt, 257}}, 5},
	} {
		if got := impl.ProofSize(k.proof); got != k.want {
			t.Errorf("ProofSize of %v: %d, want %d", k.proof, got, k.want)
		}
	}
}

func TestProofText(t *testing.T) {
	for _, k := range []struct {
		proof [][]int
		want  string
	}{
		{nil, ""}, {[][]int{{}}, "0\n"}, {[][]int{nil, {}}, "0\n0\n"}, {[][]int{{1}, {-1}, {}}, "1 0\n-1 0\n0\n"}, {[][]int{{24, -24, 24}, {3, -1, 3}}, "24 -24 24 0\n3 -1 3 0\n"}, {[][]int{repeated(-24, 48)}, strings.Repeat("-24 ", 48) + "0\n"},
		// One is no clause: at the first, in the middle, at the last.
		{[][]int{{0}}, ""}, {[][]int{{0}, {1}, {}}, ""}, {[][]int{{1}, {0}, {}}, ""}, {[][]int{{1}, {}, {0}}, ""}, {[][]int{{1}, {25}}, ""}, {[][]int{{1}, {-25}, {}}, ""}, {[][]int{{1, 257}}, ""}, {[][]int{{math.MinInt}}, ""}, {[][]int{repeated(1, 49)}, ""}, {[][]int{{}, repeated(1, 5000)}, ""},
		{times(nil, 700), strings.Repeat("0\n", 700)}, {times(nil, 701), ""}, {times([]int{-3, 4}, 700), strings.Repeat("-3 4 0\n", 700)}, {times([]int{-3, 4}, 701), ""}, {times(repeated(-10, 48), 700), strings.Repeat(strings.Repeat("-10 ", 48)+"0\n", 700)}, {append(times(nil, 699), []int{0}), ""},
	} {
		if got := impl.ProofText(k.proof); got != k.want {
			t.Errorf("ProofText of %v: %q, want %q", k.proof, got, k.want)
		}
		if proofTextOf(k.proof) != k.want {
			t.Errorf("what is worked out of %v is something else", k.proof)
		}
	}
}

func checkReadProof(t *testing.T, s string) {
	t.Helper()
	got, ok := impl.ReadProof(s)
	want, wantOk := proofOf(s)
	checkLists(t, fmt.Sprintf("ReadProof of %q", s), got, ok, want, wantOk)
	// What is taken is the ProofText of what is answered.
	if ok && impl.ProofText(got) != s {
		t.Errorf("ReadProof of %q: %v has another text", s, got)
	}
}

func TestReadProofAtTheEdges(t *testing.T) {
	for _, k := range []struct {
		s    string
		want [][]int
		ok   bool
	}{
		// The proof of no clauses has the empty text.
		{"", nil, true}, {"0\n", [][]int{{}}, true}, {"0\n0\n", [][]int{{}, {}}, true}, {"1 0\n0\n", [][]int{{1}, {}}, true}, {"3 -1 3 0\n24 -24 0\n", [][]int{{3, -1, 3}, {24, -24}}, true}, {"0\n1 0\n", [][]int{{}, {1}}, true},
		// The last line has no newline.
		{"0", nil, false}, {"1 0\n0", nil, false}, {"1 0\n-1 0", nil, false}, {"1 0\n ", nil, false},
		// An empty line at any place.
		{"\n", nil, false}, {"\n0\n", nil, false}, {"1 0\n\n0\n", nil, false}, {"1 0\n0\n\n", nil, false}, {"\n\n", nil, false},
		// Not as ClauseText writes them.
		{" 0\n", nil, false}, {"0 \n", nil, false}, {"00\n", nil, false}, {"-0\n", nil, false}, {"+1 0\n", nil, false}, {"01 0\n", nil, false}, {"1  0\n", nil, false}, {"1 0 0\n", nil, false}, {"1\n", nil, false}, {"1 0\r\n", nil, false}, {"1 0\n0\r\n", nil, false}, {"25 0\n", nil, false}, {"1 -25 0\n0\n", nil, false}, {"257 0\n", nil, false}, {"1 2 0\n0x\n", nil, false}, {"c\n", nil, false}, {"c note\n0\n", nil, false}, {"p cnf 1 1\n1 0\n", nil, false}, {"1 0 -1 0\n", nil, false}, {"1\t0\n", nil, false}, {"1 0\n0\n\x00", nil, false}, {"\ufeff0\n", nil, false}, {"99999999999999999999 0\n", nil, false},
		{strings.Repeat("1 ", 48) + "0\n", [][]int{repeated(1, 48)}, true}, {strings.Repeat("1 ", 49) + "0\n", nil, false}, {"0\n" + strings.Repeat("1 ", 100000) + "0\n", nil, false},
		// MaxProof lines and one more.
		{strings.Repeat("0\n", 700), times(nil, 700), true}, {strings.Repeat("0\n", 701), nil, false}, {strings.Repeat("2 -1 0\n", 700), times([]int{2, -1}, 700), true}, {strings.Repeat("2 -1 0\n", 701), nil, false}, {strings.Repeat("0\n", 700) + "0", nil, false}, {strings.Repeat("0\n", 700) + "\n", nil, false}, {strings.Repeat("0\n", 100000), nil, false}, {strings.Repeat(strings.Repeat("-10 ", 48)+"0\n", 700), times(repeated(-10, 48), 700), true},
	} {
		got, ok := impl.ReadProof(k.s)
		checkLists(t, fmt.Sprintf("ReadProof of %.80q", k.s), got, ok, k.want, k.ok)
		checkReadProof(t, k.s)
	}
}

// Promise 6: a proof comes back from its text.
func TestProofComesBack(t *testing.T) {
	d := &dice{65}
	var proofs [][][]int
	for _, f := range proofsFormulas(65, 100) {
		proof, _ := impl.Refute(f)
		left, _ := impl.Trim(f, proof)
		proofs = append(proofs, proof, left)
	}
	for range 100 {
		var made [][]int
		for range d.below(20) {
			made = append(made, d.clause(48, 24))
		}
		proofs = append(proofs, made)
	}
	for _, proof := range proofs {
		s := impl.ProofText(proof)
		if s != proofTextOf(proof) {
			t.Errorf("ProofText of %v: %q", proof, s)
		}
		got, ok := impl.ReadProof(s)
		checkLists(t, fmt.Sprintf("ReadProof of %q", s), got, ok, proof, true)
	}
}

// Promise 6: a text that is no ProofText is refused.
func TestReadProofOfTextsWithOneFault(t *testing.T) {
	const signs = "012 -+\nx"
	for _, s := range []string{"", "0\n", "1 0\n0\n", "-2 14 0\n0\n23 -3 0\n", "1 0\n-1 0\n0\n"} {
		for i := 0; i <= len(s); i++ {
			checkReadProof(t, s[:i])
			for _, b := range signs {
				checkReadProof(t, s[:i]+string(b)+s[i:])
				if i < len(s) {
					checkReadProof(t, s[:i]+s[i+1:])
					checkReadProof(t, s[:i]+string(b)+s[i+1:])
				}
			}
		}
	}
}

func TestReadProofOfEveryShortText(t *testing.T) {
	texts := []string{""}
	for range 6 {
		var longer []string
		for _, s := range texts {
			for _, b := range "01- \n" {
				longer = append(longer, s+string(b))
			}
		}
		texts = longer
		for _, s := range texts {
			checkReadProof(t, s)
		}
	}
}

// Promise 15: every function of the chapter answers at any arguments, and writes into none.
func TestProofFunctionsWriteIntoNothing(t *testing.T) {
	d := &dice{66}
	fs := slices.Concat(edgeFormulas(), notFormulas(), proofsFormulas(66, 40), []impl.Cnf{pigeons(3), pigeons(4), nowhere(24), combed([]int{3, 1}, true)})
	for range 20 {
		fs = append(fs, d.formula(24, 120, 48), d.narrow(24, 120), impl.Cnf{N: d.below(30), Clauses: [][]int{d.edges(5), d.edges(5)}})
	}
	for _, one := range fs {
		f := guardCnf(one)
		proof, _ := impl.Refute(f.f)
		lists := [][][]int{nil, {{}}, {d.edges(4), d.edges(4), nil}, slices.Clone(proof)}
		if len(proof) < 20 {
			lists = append(lists, d.spoiled(min(max(one.N, 1), 24), slices.Clone(proof))...)
		}
		// Clones, since what was answered is written over.
		for i := range lists {
			for j, c := range lists[i] {
				lists[i][j] = slices.Clone(c)
			}
		}
		checkApartLists(t, "Refute", proof, f)
		for _, list := range lists {
			checkProofFunctionsApart(t, f, guardLists(list))
		}
	}
	// One list told at several places is several lists in an answer.
	shared := guard([]int{1})
	four := impl.Cnf{N: 2, Clauses: fourOf(nil, 1, 2)}
	left, ok := impl.Trim(four, [][]int{shared.list, {}, shared.list, {1, -1}, {}})
	if !ok {
		t.Error("refused")
	}
	checkApartLists(t, "Trim of one list told often", left, shared)
}

func checkProofFunctionsApart(t *testing.T, f guardedCnf, proof guardedLists) {
	t.Helper()
	impl.Check(f.f, proof.lists)
	f.check(t, "Check")
	proof.check(t, "Check")
	impl.FirstBad(f.f, proof.lists)
	f.check(t, "FirstBad")
	proof.check(t, "FirstBad")
	impl.ProofSize(proof.lists)
	proof.check(t, "ProofSize")
	left, _ := impl.Trim(f.f, proof.lists)
	checkApartLists(t, "Trim", left, f, proof)
	text := impl.ProofText(proof.lists)
	proof.check(t, "ProofText")
	read, _ := impl.ReadProof(text)
	checkApartLists(t, "ReadProof", read, f, proof)
	// The answer that was written over is not what the next call answers.
	checkReadProof(t, text)
}
