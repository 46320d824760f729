package tests

import (
	"fmt"
	"math"
	"slices"
	"testing"

	"loop.example/g00123/impl"
)

func isLiteralsOf(a []int, n int) bool {
	return !slices.ContainsFunc(a, func(x int) bool { return x == 0 || x > min(n, 24) || x < -min(n, 24) })
}

// openOf tells the different literals of a clause whose opposites a has not, and whether the clause is closed.
func openOf(c []int, a []int) ([]int, bool) {
	var open []int
	closed := false
	for _, x := range c {
		closed = closed || slices.Contains(a, x)
		if !slices.Contains(a, -x) && !slices.Contains(open, x) {
			open = append(open, x)
		}
	}
	return open, closed
}

// firstSingle looks at every clause in order, as the chapter tells it.
func firstSingle(f impl.Cnf, a []int) (int, bool) {
	first := 0
	for _, c := range f.Clauses {
		open, closed := openOf(c, a)
		if closed {
			continue
		}
		if len(open) == 0 {
			return 0, false
		}
		if len(open) == 1 && first == 0 {
			first = open[0]
		}
	}
	return first, true
}

func unitOf(f impl.Cnf, a []int) (int, bool) {
	if !isFormula(f) || !isLiteralsOf(a, f.N) {
		return 0, false
	}
	return firstSingle(f, a)
}

func forceOf(f impl.Cnf, a []int) ([]int, bool) {
	if !isFormula(f) || !isLiteralsOf(a, f.N) {
		return nil, false
	}
	return forcedTo(f, a)
}

// forcedTo takes any number of clauses.
func forcedTo(f impl.Cnf, a []int) ([]int, bool) {
	out := slices.Clone(a)
	for {
		x, ok := firstSingle(f, out)
		if !ok || x == 0 {
			return out, ok
		}
		out = append(out, x)
	}
}

func leavesOf(f impl.Cnf, c []int) bool {
	if !isFormula(f) || !isClauseOf(c, f.N) {
		return false
	}
	_, ok := forceOf(f, opposites(c))
	return !ok
}

func pureOf(f impl.Cnf) []int {
	if !isFormula(f) {
		return nil
	}
	met := slices.Concat(f.Clauses...)
	return slices.DeleteFunc(allLiterals(), func(x int) bool { return !slices.Contains(met, x) || slices.Contains(met, -x) })
}

func freeOf(f impl.Cnf, a []int) []int {
	var out []int
	for v := 1; isFormula(f) && v <= f.N; v++ {
		if !slices.Contains(a, v) && !slices.Contains(a, -v) {
			out = append(out, v)
		}
	}
	return out
}

// allTrue tells whether every literal of a is true at an assignment.
func allTrue(a []int, at []int) bool {
	return !slices.ContainsFunc(a, func(x int) bool { return !literalAt(x, at) })
}

// takenLists are lists to take for a formula of n variables: some with a literal twice, with both of a variable, or with what is no literal of its.
func (d *dice) takenLists(n int) [][]int {
	lists := [][]int{nil, {0}, {n + 1}, {-n - 1}, {math.MinInt}, {257}}
	if n == 0 {
		return lists
	}
	for i := range 8 {
		lists = append(lists, d.clause(i, n))
	}
	some := d.clause(3, n)
	return append(lists, append(some, some...), append(some, opposites(some)...), append(d.clause(2, n), n+1, n), append(d.clause(2, n), 0))
}

func checkUnit(t *testing.T, f impl.Cnf, a []int, want int, wantOk bool) {
	t.Helper()
	if x, ok := impl.Unit(f, a); x != want || ok != wantOk {
		t.Errorf("Unit of %v and %v: %d %v, want %d %v", f, a, x, ok, want, wantOk)
	}
}

func checkForce(t *testing.T, f impl.Cnf, a []int, wantOk bool, want ...int) {
	t.Helper()
	got, ok := impl.Force(f, a)
	if ok != wantOk || !slices.Equal(got, want) {
		t.Errorf("Force of %v and %v: %v %v, want %v %v", f, a, got, ok, want, wantOk)
	}
}

func TestUnit(t *testing.T) {
	f := impl.Cnf{N: 4, Clauses: [][]int{{1, 2, 3}, {-1, 4}, {2, -3}}}
	for _, k := range []struct {
		a  []int
		x  int
		ok bool
	}{
		{nil, 0, true}, {[]int{1}, 4, true}, {[]int{-1}, 0, true}, {[]int{-1, -2}, 3, true}, {[]int{-2, -1}, 3, true}, {[]int{-2}, -3, true}, {[]int{3}, 2, true},
		{[]int{1, -2}, 4, true}, {[]int{3, 1}, 4, true}, {[]int{-1, -2, -3}, 0, false}, {[]int{1, -4}, 0, false}, {[]int{3, -2}, 0, false}, {[]int{2, 4}, 0, true},
		// A clause that is empty counts, whatever is single ahead of it or behind it.
		{[]int{-2, 3, 1}, 0, false}, {[]int{1, -4, -2}, 0, false},
		// A literal twice, and both of a variable: closed counts ahead of empty and of single.
		{[]int{1, 1, 1}, 4, true}, {[]int{1, -1}, 0, true}, {[]int{-1, 1, 4}, 0, true}, {[]int{1, 4, -4}, 0, true}, {[]int{3, -3}, 0, true}, {[]int{-2, 2, 3, -3, -1}, 0, true}, {[]int{-2, 1, -1, 4}, -3, true},
		// No literals of its variables.
		{[]int{0}, 0, false}, {[]int{1, 0}, 0, false}, {[]int{5}, 0, false}, {[]int{1, -5}, 0, false}, {[]int{25}, 0, false}, {[]int{math.MinInt, 1}, 0, false}, {[]int{257}, 0, false}, {[]int{1, -255}, 0, false},
	} {
		checkUnit(t, f, k.a, k.x, k.ok)
	}
}

func TestUnitAtTheEdges(t *testing.T) {
	for _, k := range []struct {
		f  impl.Cnf
		a  []int
		x  int
		ok bool
	}{
		{impl.Cnf{}, nil, 0, true}, {impl.Cnf{}, []int{1}, 0, false}, {impl.Cnf{}, []int{0}, 0, false}, {impl.Cnf{N: 3}, nil, 0, true}, {impl.Cnf{N: 3}, []int{3, -1}, 0, true}, {impl.Cnf{N: 24}, []int{-24}, 0, true}, {impl.Cnf{N: 24}, []int{-25}, 0, false},
		// One literal told twice or more often.
		{impl.Cnf{N: 2, Clauses: [][]int{{2, 2}}}, nil, 2, true}, {impl.Cnf{N: 2, Clauses: [][]int{{2, 2}}}, []int{-2}, 0, false}, {impl.Cnf{N: 2, Clauses: [][]int{{2, 2}}}, []int{2}, 0, true}, {impl.Cnf{N: 2, Clauses: [][]int{{-2, 1, -2, -2}}}, []int{-1}, -2, true},
		{impl.Cnf{N: 2, Clauses: [][]int{{1, -2, 1}}}, []int{2}, 1, true}, {impl.Cnf{N: 2, Clauses: [][]int{{1, 1, -2}}}, []int{-1}, -2, true}, {impl.Cnf{N: 2, Clauses: [][]int{{-2, 1, -2, 1}}}, []int{2, -1}, 0, false}, {impl.Cnf{N: 2, Clauses: [][]int{{1, 1, 2}}}, nil, 0, true},
		{impl.Cnf{N: 24, Clauses: [][]int{repeated(-24, 48)}}, nil, -24, true}, {impl.Cnf{N: 24, Clauses: [][]int{append(repeated(-24, 47), 1)}}, []int{24}, 1, true}, {impl.Cnf{N: 24, Clauses: [][]int{append(repeated(-24, 47), 1)}}, []int{-1}, -24, true},
		// Both literals of a variable: one of them stays open, or the clause is closed.
		{impl.Cnf{N: 2, Clauses: [][]int{{1, -1}}}, nil, 0, true}, {impl.Cnf{N: 2, Clauses: [][]int{{1, -1}}}, []int{1}, 0, true}, {impl.Cnf{N: 2, Clauses: [][]int{{1, -1}}}, []int{-1}, 0, true}, {impl.Cnf{N: 2, Clauses: [][]int{{1, -1, 2}}}, []int{-2}, 0, true}, {impl.Cnf{N: 2, Clauses: [][]int{{2, 1, -1}}}, []int{-2, -1}, 0, true}, {impl.Cnf{N: 2, Clauses: [][]int{{1, -1}}}, []int{1, -1}, 0, true},
		{impl.Cnf{N: 24, Clauses: [][]int{allLiterals()}}, []int{-24, 24, 3}, 0, true},
		// The empty clause alone, behind a single one, ahead of one.
		{impl.Cnf{Clauses: [][]int{{}}}, nil, 0, false}, {impl.Cnf{N: 2, Clauses: [][]int{{1}, {}}}, nil, 0, false}, {impl.Cnf{N: 2, Clauses: [][]int{{}, {1}}}, nil, 0, false}, {impl.Cnf{N: 2, Clauses: [][]int{nil}}, []int{1, -1, 2, -2}, 0, false}, {repeatedClause(3, nil, 120), []int{1}, 0, false},
		// The first clause that is single, not the first literal.
		{impl.Cnf{N: 3, Clauses: [][]int{{1, 2}, {3}, {-2}, {1}}}, nil, 3, true}, {impl.Cnf{N: 3, Clauses: [][]int{{1, 2}, {3}, {-2}, {1}}}, []int{3}, -2, true}, {impl.Cnf{N: 3, Clauses: [][]int{{1, 2}, {3}, {-2}, {1}}}, []int{-2}, 1, true},
		{impl.Cnf{N: 2, Clauses: [][]int{{2}, {-2}}}, nil, 2, true}, {impl.Cnf{N: 2, Clauses: [][]int{{-2}, {2}}}, nil, -2, true}, {impl.Cnf{N: 2, Clauses: [][]int{{2}, {-2}}}, []int{2}, 0, false}, {impl.Cnf{N: 2, Clauses: [][]int{{2}, {-2}}}, []int{2, -2}, 0, true},
		// No formulas.
		{impl.Cnf{N: 25}, nil, 0, false}, {impl.Cnf{N: -1}, nil, 0, false}, {impl.Cnf{N: 2, Clauses: [][]int{{1}, {3}}}, nil, 0, false}, {impl.Cnf{N: 2, Clauses: [][]int{{1}, {0}}}, nil, 0, false}, {repeatedClause(2, []int{1}, 121), nil, 0, false}, {impl.Cnf{N: 2, Clauses: [][]int{repeated(1, 49)}}, nil, 0, false}, {impl.Cnf{N: 25, Clauses: [][]int{{25}}}, nil, 0, false},
		{repeatedClause(2, []int{1}, 120), nil, 1, true},
	} {
		checkUnit(t, k.f, k.a, k.x, k.ok)
	}
}

func TestForceOrder(t *testing.T) {
	chain := impl.Cnf{N: 6, Clauses: [][]int{{-5, 6}, {-4, 5}, {-3, 4}, {-2, 3}, {-1, 2}}}
	checkForce(t, chain, nil, true)
	checkForce(t, chain, []int{1}, true, 1, 2, 3, 4, 5, 6)
	checkForce(t, chain, []int{-6}, true, -6, -5, -4, -3, -2, -1)
	checkForce(t, chain, []int{1, 4}, true, 1, 4, 5, 6, 2, 3)
	checkForce(t, chain, []int{4, 4, 1, 4}, true, 4, 4, 1, 4, 5, 6, 2, 3)
	// Each time from the first clause on: what became single ahead of what waits comes first.
	back := impl.Cnf{N: 5, Clauses: [][]int{{-3, 5}, {-2, 4}, {1}, {3, -1}, {2}}}
	checkForce(t, back, nil, true, 1, 3, 5, 2, 4)
	checkForce(t, back, []int{2}, true, 2, 4, 1, 3, 5)
	checkForce(t, back, []int{-5}, false, -5, -3, 1)
	// A clause that is empty ends it at once, though others are single.
	checkForce(t, impl.Cnf{N: 4, Clauses: [][]int{{1}, {2}, {3}, {-1, -2}, {4}}}, nil, false, 1, 2)
	checkForce(t, impl.Cnf{N: 4, Clauses: [][]int{{1}, {2}, {3}, {-1}, {4}}}, nil, false, 1)
	checkForce(t, impl.Cnf{N: 4, Clauses: [][]int{{-1, 3}, {-1, -3}, {2}}}, []int{1}, false, 1, 3)
	checkForce(t, impl.Cnf{N: 4, Clauses: [][]int{{-1, -3}, {-1, 3}, {2}}}, []int{1}, false, 1, -3)
	// One told twice is as if it were told once.
	checkForce(t, impl.Cnf{N: 3, Clauses: [][]int{{-1, 3, -1, 3}, {2, 2}, {-2, 1, -2}}}, nil, true, 2, 1, 3)
	checkForce(t, impl.Cnf{N: 3, Clauses: [][]int{{-1, -1}, {2, 2}, {-2, 1, -2}}}, nil, false, -1, 2)
	// Once more where a literal's watch has gone over the whole clause.
	checkForce(t, impl.Cnf{N: 5, Clauses: [][]int{{1, 2, 3, 4, 5}}}, []int{-1, -2, -3, -4}, true, -1, -2, -3, -4, 5)
	checkForce(t, impl.Cnf{N: 5, Clauses: [][]int{{1, 2, 3, 4, 5}}}, []int{-5, -4, -3, -2}, true, -5, -4, -3, -2, 1)
	checkForce(t, impl.Cnf{N: 5, Clauses: [][]int{{1, 2, 3, 4, 5}}}, []int{-5, -1, -4, -2, -3}, false, -5, -1, -4, -2, -3)
}

func TestForceAtTheEdges(t *testing.T) {
	checkForce(t, impl.Cnf{}, nil, true)
	checkForce(t, impl.Cnf{Clauses: [][]int{{}}}, nil, false)
	checkForce(t, impl.Cnf{}, []int{1}, false)
	checkForce(t, impl.Cnf{N: 3}, []int{3, -1, 3}, true, 3, -1, 3)
	checkForce(t, impl.Cnf{N: 3}, []int{3, -3, 1}, true, 3, -3, 1)
	// Both of a variable close every clause that has it.
	checkForce(t, impl.Cnf{N: 3, Clauses: [][]int{{1}, {-1}, {2}}}, []int{1, -1}, true, 1, -1, 2)
	checkForce(t, impl.Cnf{N: 3, Clauses: [][]int{{1}, {-1}, {2}}}, nil, false, 1)
	checkForce(t, impl.Cnf{N: 3, Clauses: [][]int{{2, -2, 3}, {-3}}}, nil, true, -3)
	// The empty clause: nothing is put behind.
	checkForce(t, impl.Cnf{N: 3, Clauses: [][]int{{1}, {}, {2}}}, []int{3, 3}, false, 3, 3)
	checkForce(t, impl.Cnf{N: 3, Clauses: [][]int{{}, {1}}}, nil, false)
	checkForce(t, impl.Cnf{N: 3, Clauses: [][]int{{1}, {}}}, nil, false)
	// No literals, no formulas.
	single := impl.Cnf{N: 2, Clauses: [][]int{{1}}}
	for _, a := range [][]int{{0}, {2, 0}, {3}, {2, -3}, {25}, {257}, {-255}, {math.MinInt}, {math.MaxInt, 2}} {
		checkForce(t, single, a, false)
	}
	for _, f := range []impl.Cnf{{N: 25}, {N: -1}, {N: 2, Clauses: [][]int{{1}, {-3}}}, {N: 2, Clauses: [][]int{{2}, {0}}}, repeatedClause(2, []int{1}, 121), {N: 2, Clauses: [][]int{repeated(1, 49)}}} {
		checkForce(t, f, nil, false)
		checkForce(t, f, []int{1, 2}, false)
	}
	// At the limits.
	all := impl.Cnf{N: 24}
	for i := range 120 {
		all.Clauses = append(all.Clauses, repeated(24-i%24, 48))
	}
	var down []int
	for v := 24; v > 0; v-- {
		down = append(down, v)
	}
	checkForce(t, all, nil, true, down...)
	long := repeated(-2, 1000)
	checkForce(t, impl.Cnf{N: 2, Clauses: [][]int{{2, 1}}}, long, true, append(slices.Clone(long), 1)...)
}

func TestForcedAsWorkedOut(t *testing.T) {
	d := &dice{41}
	fs := append(edgeFormulas(), someFormulas(41, 600)...)
	for range 150 {
		fs = append(fs, d.formula(24, 120, 4), d.formula(12, 60, 3), d.formula(24, 40, 8), d.formula(9, 30, 2))
	}
	for _, f := range fs {
		for _, a := range d.takenLists(min(max(f.N, 0), 24)) {
			x, ok := unitOf(f, a)
			checkUnit(t, f, a, x, ok)
			all, ok := forceOf(f, a)
			checkForce(t, f, a, ok, all...)
			if got, want := impl.Leaves(f, a), leavesOf(f, a); got != want {
				t.Errorf("Leaves of %v and %v is %v", f, a, got)
			}
			if got, want := impl.Free(f, a), freeOf(f, a); !slices.Equal(got, want) {
				t.Errorf("Free of %v and %v: %v, want %v", f, a, got, want)
			}
		}
		if got, want := impl.Pure(f), pureOf(f); !slices.Equal(got, want) {
			t.Errorf("Pure of %v: %v, want %v", f, got, want)
		}
	}
}

// Promise 4: what is forced is true wherever the formula and what was taken are; where it fails they nowhere are.
func TestForcedIsTrueWhereItMust(t *testing.T) {
	d := &dice{42}
	failed, forced := 0, 0
	for _, f := range someFormulas(42, 500) {
		answers := answersOf(f)
		for _, a := range d.takenLists(f.N) {
			if !isLiteralsOf(a, f.N) {
				continue
			}
			all, ok := impl.Force(f, a)
			if len(all) < len(a) || !slices.Equal(all[:len(a)], a) {
				t.Fatalf("Force of %v and %v does not begin with it: %v", f, a, all)
			}
			behind := all[len(a):]
			forced += len(behind)
			if !ok {
				failed++
			}
			for _, at := range answers {
				if !allTrue(a, at) {
					continue
				}
				if !ok {
					t.Errorf("Force of %v and %v is false, but both are true at %v", f, a, at)
				}
				if !allTrue(behind, at) {
					t.Errorf("Force of %v and %v puts %v behind, which is not true at %v", f, a, behind, at)
				}
			}
		}
	}
	if failed < 100 || forced < 100 {
		t.Error("too few to tell", failed, forced)
	}
}

// Promise 4: a clause that follows at once is implied.
func TestLeavesIsImplied(t *testing.T) {
	d := &dice{43}
	left := 0
	for _, f := range someFormulas(43, 500) {
		for range 12 {
			c := d.clause(4, max(f.N, 1))
			if !impl.Leaves(f, c) {
				continue
			}
			left++
			if !impl.Implies(f, c) {
				t.Errorf("%v follows at once from %v, but is not implied", c, f)
			}
			if slices.ContainsFunc(answersOf(f), func(a []int) bool { return !clauseAt(c, a) }) {
				t.Errorf("%v follows at once from %v, but is not true where it is", c, f)
			}
		}
		for _, c := range f.Clauses {
			if _, apart := sorted(c); apart && !impl.Leaves(f, c) {
				t.Errorf("%v does not follow at once from %v, which has it", c, f)
			}
		}
	}
	if left < 100 {
		t.Error("too few to tell", left)
	}
}

func TestLeavesAtTheEdges(t *testing.T) {
	chain := impl.Cnf{N: 4, Clauses: [][]int{{-1, 2}, {-2, 3}, {-3, 4, 4}}}
	for _, k := range []struct {
		f    impl.Cnf
		c    []int
		want bool
	}{
		{chain, []int{-1, 4}, true}, {chain, []int{4, -1, 4}, true}, {chain, []int{-1, 3}, true}, {chain, []int{-1}, false}, {chain, []int{4}, false}, {chain, []int{1, 4}, false}, {chain, nil, false}, {chain, []int{-1, 4, 2}, true},
		// The empty clause follows at once where the formula fails of itself.
		{impl.Cnf{}, nil, false}, {impl.Cnf{Clauses: [][]int{{}}}, nil, true}, {impl.Cnf{N: 1, Clauses: [][]int{{1}, {-1}}}, nil, true}, {impl.Cnf{N: 1, Clauses: [][]int{{1, 1}, {-1, -1, -1}}}, nil, true}, {impl.Cnf{N: 1, Clauses: [][]int{{1}}}, nil, false},
		{impl.Cnf{N: 2, Clauses: [][]int{{1, 2}, {-1, 2}, {1, -2}, {-1, -2}}}, nil, false}, {impl.Cnf{N: 2, Clauses: [][]int{{1, 2}, {-1, 2}, {1, -2}, {-1, -2}}}, []int{1}, true},
		// Both literals of a variable: what is taken closes whatever has it.
		{chain, []int{1, -1}, false}, {chain, []int{-1, 4, 1}, false}, {chain, []int{-1, 4, 2, -2}, false}, {impl.Cnf{N: 1, Clauses: [][]int{{1}, {-1}}}, []int{1, -1}, false}, {impl.Cnf{N: 2, Clauses: [][]int{{1}, {-1}}}, []int{2, -2}, true}, {impl.Cnf{N: 1, Clauses: [][]int{{}}}, []int{1, -1}, true}, {impl.Cnf{N: 1, Clauses: [][]int{{1, -1}}}, []int{1, -1}, false},
		// No clauses of its variables.
		{impl.Cnf{N: 2, Clauses: [][]int{{}}}, []int{1}, true}, {impl.Cnf{N: 2, Clauses: [][]int{{}}}, []int{3}, false}, {impl.Cnf{N: 2, Clauses: [][]int{{}}}, []int{0}, false}, {impl.Cnf{N: 2, Clauses: [][]int{{}}}, []int{1, -3}, false}, {impl.Cnf{N: 2, Clauses: [][]int{{}}}, repeated(1, 48), true}, {impl.Cnf{N: 2, Clauses: [][]int{{}}}, repeated(1, 49), false}, {impl.Cnf{N: 24, Clauses: [][]int{{}}}, []int{25}, false}, {impl.Cnf{N: 2, Clauses: [][]int{{}}}, []int{math.MinInt}, false}, {impl.Cnf{N: 2, Clauses: [][]int{{}}}, []int{257}, false},
		// No formulas.
		{impl.Cnf{N: -1, Clauses: [][]int{{}}}, nil, false}, {impl.Cnf{N: 25, Clauses: [][]int{{}}}, nil, false}, {repeatedClause(1, nil, 120), nil, true}, {repeatedClause(1, nil, 121), nil, false}, {impl.Cnf{N: 1, Clauses: [][]int{{}, {2}}}, nil, false}, {impl.Cnf{N: 1, Clauses: [][]int{{}, repeated(1, 49)}}, nil, false},
	} {
		if impl.Leaves(k.f, k.c) != k.want {
			t.Errorf("Leaves of %v and %v is not %v", k.f, k.c, k.want)
		}
	}
}

func TestPure(t *testing.T) {
	for _, k := range []struct {
		f    impl.Cnf
		want []int
	}{
		{impl.Cnf{}, nil}, {impl.Cnf{N: 24}, nil}, {impl.Cnf{N: 3, Clauses: [][]int{{}}}, nil},
		// In order, each once.
		{impl.Cnf{N: 5, Clauses: [][]int{{5, -3}, {-3, 1}, {5, 5}, {2, -4}, {-2}}}, []int{1, -3, -4, 5}},
		{impl.Cnf{N: 24, Clauses: [][]int{{-24, 23}, {-2}, {1, 1}}}, []int{1, -2, 23, -24}},
		// Both in one clause are opposites like others.
		{impl.Cnf{N: 2, Clauses: [][]int{{1, -1}, {2}}}, []int{2}}, {impl.Cnf{N: 2, Clauses: [][]int{{1, -1}, {1, 2}}}, []int{2}}, {impl.Cnf{N: 24, Clauses: [][]int{allLiterals()}}, nil}, {impl.Cnf{N: 2, Clauses: [][]int{{1}, {-1}}}, nil},
		{impl.Cnf{N: 2, Clauses: [][]int{{1}, {3}}}, nil}, {impl.Cnf{N: 2, Clauses: [][]int{{1}, {0}}}, nil}, {impl.Cnf{N: 25, Clauses: [][]int{{1}}}, nil}, {impl.Cnf{N: -1}, nil},
		{repeatedClause(2, []int{-2}, 120), []int{-2}}, {repeatedClause(2, []int{-2}, 121), nil}, {impl.Cnf{N: 2, Clauses: [][]int{repeated(2, 48)}}, []int{2}}, {impl.Cnf{N: 2, Clauses: [][]int{repeated(2, 49)}}, nil},
	} {
		checkList(t, fmt.Sprint("Pure of ", k.f), impl.Pure(k.f), k.want...)
	}
}

// Promise 4: pure literals may be taken.
func TestPureMayBeTaken(t *testing.T) {
	taken := 0
	for _, f := range someFormulas(44, 500) {
		g := f
		for _, x := range impl.Pure(f) {
			taken++
			next, ok := impl.Fix(g, x)
			if !ok {
				t.Fatalf("Pure of %v has %d", f, x)
			}
			g = next
		}
		if (impl.CountTrue(f) > 0) != (impl.CountTrue(g) > 0) {
			t.Errorf("%v with all its pure literals taken is %v", f, g)
		}
	}
	if taken < 100 {
		t.Error("too few to tell", taken)
	}
}

// Promise 4: a clause in order is the same clause: each of its literals once, true where it was, in order already.
func TestClauseInOrderIsTheSame(t *testing.T) {
	d := &dice{45}
	clauses := [][]int{nil, {5, -5}, {-2, 2, -2}, repeated(-3, 48), append(repeated(4, 47), -1), opposites(upTo(5)), append(opposites(upTo(5)), upTo(5)...)}
	for range 800 {
		clauses = append(clauses, d.clause(7, 5), d.clause(48, 5))
	}
	for _, c := range clauses {
		s, _ := impl.ClauseSort(c)
		for i, x := range s {
			if i > 0 && !impl.LitBefore(s[i-1], x) || !slices.Contains(c, x) {
				t.Errorf("%v in order is %v", c, s)
			}
		}
		for _, x := range c {
			if !slices.Contains(s, x) {
				t.Errorf("%v in order is %v", c, s)
			}
		}
		for _, a := range allAssignments(5) {
			if impl.ClauseTrue(s, a) != clauseAt(c, a) {
				t.Errorf("%v in order is another one at %v", c, a)
			}
		}
		again, _ := impl.ClauseSort(s)
		checkList(t, fmt.Sprint("in order once more ", s), again, s...)
	}
}

func TestFree(t *testing.T) {
	five := impl.Cnf{N: 5, Clauses: [][]int{{1, 5}}}
	for _, k := range []struct {
		f       impl.Cnf
		a, want []int
	}{
		{five, nil, []int{1, 2, 3, 4, 5}}, {five, []int{-2, 4}, []int{1, 3, 5}}, {five, []int{4, -2, 4, -2, -2}, []int{1, 3, 5}}, {five, []int{3, -3}, []int{1, 2, 4, 5}}, {five, []int{1, 2, 3, 4, 5}, nil}, {five, []int{-5, -4, -3, -2, -1, 1}, nil},
		// What is no literal of its variables takes none away.
		{five, []int{0, 6, -6, 25, -25, math.MinInt, math.MaxInt, 257, -254}, []int{1, 2, 3, 4, 5}}, {five, []int{6, 1, 0}, []int{2, 3, 4, 5}},
		{impl.Cnf{}, nil, nil}, {impl.Cnf{}, []int{1}, nil}, {impl.Cnf{N: 24}, allLiterals()[:46], []int{24}}, {impl.Cnf{N: 24}, []int{-24}, freeOf(impl.Cnf{N: 23}, nil)},
		{impl.Cnf{N: 25}, nil, nil}, {impl.Cnf{N: -1}, nil, nil}, {impl.Cnf{N: 2, Clauses: [][]int{{3}}}, nil, nil}, {repeatedClause(2, []int{1}, 120), nil, []int{1, 2}}, {repeatedClause(2, []int{1}, 121), nil, nil}, {impl.Cnf{N: 2, Clauses: [][]int{repeated(1, 49)}}, nil, nil},
	} {
		checkList(t, fmt.Sprint("Free of ", k.f, " and ", k.a), impl.Free(k.f, k.a), k.want...)
	}
}

func TestClash(t *testing.T) {
	for _, k := range []struct {
		a    []int
		want bool
	}{
		{nil, false}, {[]int{1}, false}, {[]int{1, 1}, false}, {[]int{1, -1}, true}, {[]int{-1, 2, 1}, true}, {[]int{24, 3, -24}, true}, {[]int{1, 2, -3, -4}, false}, {[]int{1, -2}, false}, {[]int{-1, -1}, false}, {allLiterals(), true},
		// What is no literal is none of a variable.
		{[]int{0, 0}, false}, {[]int{0}, false}, {[]int{25, -25}, false}, {[]int{math.MinInt}, false}, {[]int{math.MinInt, math.MinInt, math.MaxInt, -math.MaxInt}, false}, {[]int{257, -257}, false}, {[]int{1, -257}, false}, {[]int{1, 255}, false}, {[]int{128, -128}, false},
		{[]int{0, 25, 2, -2}, true}, {[]int{0, 25, 2, -25}, false},
		{append(repeated(1, 200), -1), true}, {repeated(1, 200), false},
	} {
		if impl.Clash(k.a) != k.want {
			t.Errorf("Clash of %v is not %v", k.a, k.want)
		}
	}
	for v := 1; v <= 24; v++ {
		for _, x := range allLiterals() {
			if impl.Clash([]int{v, x}) != (x == -v) || impl.Clash([]int{-v, x}) != (x == v) {
				t.Errorf("Clash of %d and %d", v, x)
			}
		}
	}
}

// Promise 15: every function of the chapter answers at any arguments, and writes into none.
func TestForceFunctionsWriteIntoNothing(t *testing.T) {
	d := &dice{46}
	fs := append(edgeFormulas(), someFormulas(46, 60)...)
	for range 30 {
		fs = append(fs, d.formula(24, 60, 48), impl.Cnf{N: d.below(30), Clauses: [][]int{d.edges(5), d.edges(5)}})
	}
	for _, one := range fs {
		f := guardCnf(one)
		for _, list := range append(d.takenLists(min(max(one.N, 0), 24)), d.edges(6)) {
			a := guard(list)
			impl.Unit(f.f, a.list)
			impl.Leaves(f.f, a.list)
			impl.Clash(a.list)
			all, _ := impl.Force(f.f, a.list)
			checkApart(t, "Force", all, f, a)
			checkApart(t, "Free", impl.Free(f.f, a.list), f, a)
			checkApart(t, "Pure", impl.Pure(f.f), f, a)
		}
	}
}
