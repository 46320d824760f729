package tests

import (
	"fmt"
	"math"
	"slices"
	"testing"

	"loop.example/g00123/impl"
)

func isClauseOf(c []int, n int) bool {
	return isClause(c) && !slices.ContainsFunc(c, func(x int) bool { return max(x, -x) > n })
}

func isFormula(f impl.Cnf) bool {
	if f.N < 0 || f.N > 24 || len(f.Clauses) > 120 {
		return false
	}
	return !slices.ContainsFunc(f.Clauses, func(c []int) bool { return !isClauseOf(c, f.N) })
}

// literalAt is for assignments; what a literal is elsewhere has tests of its own.
func literalAt(x int, a []int) bool {
	if x > 0 {
		return a[x-1] == 1
	}
	return a[-x-1] == 0
}

func clauseAt(c []int, a []int) bool {
	return slices.ContainsFunc(c, func(x int) bool { return literalAt(x, a) })
}

func formulaAt(f impl.Cnf, a []int) bool {
	return !slices.ContainsFunc(f.Clauses, func(c []int) bool { return !clauseAt(c, a) })
}

// allAssignments counts up with the first variable as the highest, so that the least comes first.
func allAssignments(n int) [][]int {
	if n == 0 {
		return [][]int{{}}
	}
	var out [][]int
	for _, first := range []int{0, 1} {
		for _, rest := range allAssignments(n - 1) {
			out = append(out, append([]int{first}, rest...))
		}
	}
	return out
}

func answersOf(f impl.Cnf) [][]int {
	var out [][]int
	for _, a := range allAssignments(f.N) {
		if formulaAt(f, a) {
			out = append(out, a)
		}
	}
	return out
}

// compareClauses is negative where x is ahead of y.
func compareClauses(x []int, y []int) int {
	order := allLiterals()
	return slices.CompareFunc(x, y, func(p, q int) int { return slices.Index(order, p) - slices.Index(order, q) })
}

func sortedFormula(f impl.Cnf) (impl.Cnf, bool) {
	if !isFormula(f) {
		return impl.Cnf{}, false
	}
	out := impl.Cnf{N: f.N}
	for _, c := range f.Clauses {
		if s, apart := sorted(c); apart {
			out.Clauses = append(out.Clauses, s)
		}
	}
	slices.SortFunc(out.Clauses, compareClauses)
	out.Clauses = slices.CompactFunc(out.Clauses, func(x, y []int) bool { return slices.Equal(x, y) })
	return out, true
}

func fixedFormula(f impl.Cnf, x int) (impl.Cnf, bool) {
	if !isFormula(f) || !isClauseOf([]int{x}, f.N) {
		return impl.Cnf{}, false
	}
	out := impl.Cnf{N: f.N}
	for _, c := range f.Clauses {
		if !slices.Contains(c, x) {
			out.Clauses = append(out.Clauses, without(c, -x))
		}
	}
	return out, true
}

func opposites(c []int) []int {
	out := make([]int, len(c))
	for i, x := range c {
		out[i] = -x
	}
	return out
}

// repeatedClause is a formula of n variables that has c times the same clause.
func repeatedClause(n int, clause []int, c int) impl.Cnf {
	f := impl.Cnf{N: n}
	for range c {
		f.Clauses = append(f.Clauses, clause)
	}
	return f
}

// edgeFormulas stand at the limits that the chapter names, on both sides of each.
func edgeFormulas() []impl.Cnf {
	fs := []impl.Cnf{
		repeatedClause(24, []int{24, -1}, 120), repeatedClause(24, []int{24, -1}, 121), repeatedClause(1, nil, 120), repeatedClause(1, nil, 121), repeatedClause(0, nil, 119),
		{N: 2, Clauses: [][]int{repeated(2, 48), repeated(-1, 48)}}, {N: 2, Clauses: [][]int{{1}, repeated(2, 49)}}, {N: 24, Clauses: [][]int{allLiterals()}},
		{N: 14, Clauses: [][]int{{14}, {-13, 1}}}, {N: 15, Clauses: [][]int{{15}}}, {N: 14, Clauses: [][]int{{15}}}, {N: 14, Clauses: [][]int{{-15, 1}}},
		{N: 0, Clauses: [][]int{{1}}}, {N: 0, Clauses: [][]int{{0}}}, {N: 3, Clauses: [][]int{{1, 0}}}, {N: 24, Clauses: [][]int{{25}}}, {N: 24, Clauses: [][]int{{-25}}}, {N: 25, Clauses: [][]int{{25}}},
		{N: 3, Clauses: [][]int{{1, -1}, {2, 2, -2}, {3}}}, {N: 3, Clauses: [][]int{{3, 3, 1}, {1, 3}, {1, 3, 1}}}, {N: 3, Clauses: [][]int{{1, 2, 3}, {1, 2}, {1}, {}}},
		{N: 3, Clauses: [][]int{{}, {1}, {}}}, {N: 2, Clauses: [][]int{{math.MinInt}}}, {N: 2, Clauses: [][]int{{1}, {257}}}, {N: 2, Clauses: [][]int{nil, {}, nil}},
	}
	for _, n := range edgeNumbers() {
		fs = append(fs, impl.Cnf{N: n}, impl.Cnf{N: n, Clauses: [][]int{{}}}, impl.Cnf{N: n, Clauses: [][]int{{1}}}, impl.Cnf{N: n, Clauses: [][]int{{n}, {-n}}})
	}
	return fs
}

// someFormulas are small enough to look at every assignment.
func someFormulas(seed uint64, many int) []impl.Cnf {
	d := &dice{seed}
	var fs []impl.Cnf
	for i := range many {
		n := i % 7
		fs = append(fs, d.formula(n, 3+2*n, 1+i%5))
	}
	return fs
}

func TestCnfOk(t *testing.T) {
	if impl.MaxClauses != 120 {
		t.Fatal("limit", impl.MaxClauses)
	}
	for _, f := range append(edgeFormulas(), someFormulas(1, 100)...) {
		if impl.CnfOk(f) != isFormula(f) {
			t.Errorf("CnfOk of %v is %v", f, impl.CnfOk(f))
		}
	}
	for _, k := range []struct {
		f    impl.Cnf
		want bool
	}{
		{impl.Cnf{}, true}, {impl.Cnf{N: 24}, true}, {impl.Cnf{N: 25}, false}, {impl.Cnf{N: -1}, false},
		{repeatedClause(1, []int{1}, 120), true}, {repeatedClause(1, []int{1}, 121), false},
		{impl.Cnf{N: 1, Clauses: [][]int{repeated(-1, 48)}}, true}, {impl.Cnf{N: 1, Clauses: [][]int{repeated(-1, 49)}}, false},
		{impl.Cnf{N: 3, Clauses: [][]int{{-3}}}, true}, {impl.Cnf{N: 3, Clauses: [][]int{{1}, {2, -4}}}, false},
	} {
		if impl.CnfOk(k.f) != k.want {
			t.Errorf("CnfOk of %v is not %v", k.f, k.want)
		}
	}
}

func TestAssignOk(t *testing.T) {
	three := impl.Cnf{N: 3, Clauses: [][]int{{1, -3}}}
	for _, k := range []struct {
		f    impl.Cnf
		a    []int
		want bool
	}{
		{three, []int{0, 1, 0}, true}, {three, []int{1, 1, 1}, true}, {three, []int{0, 1}, false}, {three, []int{0, 1, 0, 0}, false}, {three, nil, false},
		{three, []int{0, 2, 0}, false}, {three, []int{-1, 0, 0}, false}, {three, []int{0, 0, 256}, false}, {three, []int{0, 1 << 32, 0}, false}, {three, []int{math.MinInt, 0, 0}, false},
		{impl.Cnf{}, nil, true}, {impl.Cnf{}, []int{0}, false}, {impl.Cnf{N: 24}, repeated(1, 24), true}, {impl.Cnf{N: 24}, repeated(1, 25), false},
		{impl.Cnf{N: 25}, repeated(1, 25), false}, {impl.Cnf{N: -1}, nil, false}, {impl.Cnf{N: 2, Clauses: [][]int{{3}}}, []int{0, 1}, false},
		{repeatedClause(1, nil, 121), []int{0}, false},
	} {
		if impl.AssignOk(k.f, k.a) != k.want {
			t.Errorf("AssignOk of %v and %v is not %v", k.f, k.a, k.want)
		}
		if !k.want && impl.CnfTrue(k.f, k.a) {
			t.Errorf("CnfTrue of %v and %v, which is no assignment", k.f, k.a)
		}
	}
}

func TestClauseTrue(t *testing.T) {
	for _, k := range []struct {
		c, a []int
		want bool
	}{
		{nil, nil, false}, {nil, []int{1, 0}, false}, {[]int{1}, []int{1}, true}, {[]int{1}, []int{0}, false}, {[]int{-1}, []int{1}, false}, {[]int{-1}, []int{0}, true},
		{[]int{1, 2, -3}, []int{0, 0, 1}, false}, {[]int{1, 2, -3}, []int{0, 1, 1}, true}, {[]int{2, -2}, []int{0, 0}, true}, {[]int{2, -2}, []int{0, 1}, true},
		// Beyond the list's end.
		{[]int{2}, []int{1}, false}, {[]int{-2}, []int{1}, true}, {[]int{24}, nil, false}, {[]int{-24}, nil, true}, {[]int{-24}, repeated(1, 23), true}, {[]int{-24}, repeated(1, 24), false}, {[]int{24}, repeated(1, 24), true},
		// No literals.
		{[]int{0}, []int{1, 1}, false}, {[]int{0}, nil, false}, {[]int{25}, repeated(1, 30), false}, {[]int{-25}, repeated(0, 30), false}, {[]int{-25}, nil, false},
		{[]int{math.MinInt, math.MaxInt, 257, -257, 256}, []int{1}, false}, {[]int{math.MinInt, -1}, []int{0}, true}, {[]int{0, 25, 1}, []int{1}, true},
		// Longer than a clause.
		{append(repeated(1, 60), 2), []int{0, 1}, true}, {repeated(1, 60), []int{0, 1}, false},
	} {
		if impl.ClauseTrue(k.c, k.a) != k.want {
			t.Errorf("ClauseTrue of %v at %v is not %v", k.c, k.a, k.want)
		}
	}
}

// At a list that is no assignment -v is still what is not v.
func TestClauseTrueAtAnyNumbers(t *testing.T) {
	for _, value := range edgeNumbers() {
		yes, no := impl.ClauseTrue([]int{2}, []int{0, value}), impl.ClauseTrue([]int{-2}, []int{0, value})
		if yes == no || yes != (value == 1) {
			t.Errorf("at %d: %v %v", value, yes, no)
		}
	}
}

func TestCnfTrueAndCountTrue(t *testing.T) {
	for _, f := range someFormulas(2, 300) {
		count := 0
		for _, a := range allAssignments(f.N) {
			want := formulaAt(f, a)
			if want {
				count++
			}
			if impl.CnfTrue(f, a) != want {
				t.Errorf("CnfTrue of %v at %v is not %v", f, a, want)
			}
			for _, c := range f.Clauses {
				if impl.ClauseTrue(c, a) != clauseAt(c, a) {
					t.Errorf("ClauseTrue of %v at %v", c, a)
				}
			}
		}
		if got := impl.CountTrue(f); got != count {
			t.Errorf("CountTrue of %v: %d, want %d", f, got, count)
		}
	}
}

func TestCountTrueAtTheEdges(t *testing.T) {
	for _, k := range []struct {
		f    impl.Cnf
		want int
	}{
		{impl.Cnf{}, 1}, {impl.Cnf{Clauses: [][]int{{}}}, 0}, {impl.Cnf{N: 1}, 2}, {impl.Cnf{N: 14}, 16384}, {impl.Cnf{N: 15}, -1}, {impl.Cnf{N: 24}, -1}, {impl.Cnf{N: 25}, -1}, {impl.Cnf{N: -1}, -1},
		{impl.Cnf{N: 14, Clauses: [][]int{{14}}}, 8192}, {impl.Cnf{N: 14, Clauses: [][]int{{-14, -14}, {1}}}, 4096}, {impl.Cnf{N: 14, Clauses: [][]int{{}}}, 0},
		{impl.Cnf{N: 14, Clauses: [][]int{{3, -3}}}, 16384}, {impl.Cnf{N: 14, Clauses: [][]int{{15}}}, -1}, {impl.Cnf{N: 15, Clauses: [][]int{{}}}, -1},
		{repeatedClause(14, []int{1, 2}, 120), 12288}, {repeatedClause(14, []int{1, 2}, 121), -1}, {impl.Cnf{N: 2, Clauses: [][]int{repeated(1, 48)}}, 2}, {impl.Cnf{N: 2, Clauses: [][]int{repeated(1, 49)}}, -1},
		{impl.Cnf{N: 2, Clauses: [][]int{{1}, {-1}}}, 0},
	} {
		if got := impl.CountTrue(k.f); got != k.want {
			t.Errorf("CountTrue of %v: %d, want %d", k.f, got, k.want)
		}
	}
}

func TestCnfSortOrder(t *testing.T) {
	f := impl.Cnf{N: 24, Clauses: [][]int{{24}, {-3, 2}, {2, 3}, {-1}, {5, -5}, {1, 2, 3}, {-1, 4}, {2, 2}, {1, -2}, {3, 2, 3}, {}, {1}, {2, 1}, {-24}, {-2}, {1, -1, 1}, {10}, {9, -10}}}
	got, ok := impl.CnfSort(f)
	if !ok {
		t.Error("refused")
	}
	checkCnf(t, "CnfSort", got, 24, nil, []int{1}, []int{1, 2}, []int{1, 2, 3}, []int{1, -2}, []int{-1}, []int{-1, 4}, []int{2}, []int{2, 3}, []int{2, -3}, []int{-2}, []int{9, -10}, []int{10}, []int{24}, []int{-24})
	got, ok = impl.CnfSort(repeatedClause(3, []int{3, 1, 3}, 120))
	checkCnf(t, "one clause told 120 times", got, 3, []int{1, 3})
	if !ok {
		t.Error("refused")
	}
	got, ok = impl.CnfSort(repeatedClause(3, []int{3, 1, 3}, 121))
	checkCnf(t, "121 clauses", got, 0)
	if ok {
		t.Error("121 clauses in order")
	}
	got, ok = impl.CnfSort(impl.Cnf{N: 24, Clauses: [][]int{allLiterals(), repeated(-24, 48)}})
	checkCnf(t, "the longest clauses", got, 24, []int{-24})
	if !ok {
		t.Error("refused")
	}
	positive := slices.DeleteFunc(allLiterals(), func(x int) bool { return x < 0 })
	got, _ = impl.CnfSort(impl.Cnf{N: 24, Clauses: [][]int{positive, positive[:23], append(slices.Clone(positive[:23]), -24)}})
	checkCnf(t, "a literal of every variable", got, 24, positive[:23], positive, append(slices.Clone(positive[:23]), -24))
}

func TestCnfSortAsWorkedOut(t *testing.T) {
	d := &dice{3}
	fs := append(edgeFormulas(), someFormulas(3, 400)...)
	for range 60 {
		fs = append(fs, d.formula(24, 120, 6), d.formula(2, 120, 4), d.formula(24, 20, 48), d.formula(3, 40, 3))
	}
	for _, f := range fs {
		got, ok := impl.CnfSort(f)
		want, wantOk := sortedFormula(f)
		if ok != wantOk {
			t.Errorf("CnfSort of %v tells %v", f, ok)
		}
		checkCnf(t, fmt.Sprint("CnfSort of ", f), got, want.N, want.Clauses...)
	}
}

// Promise 2: a formula in order is true where it was, is in order already, and does not hang on the order it had.
func TestFormulaInOrderIsTrueWhereItWas(t *testing.T) {
	d := &dice{4}
	for _, f := range someFormulas(4, 300) {
		s, ok := impl.CnfSort(f)
		if !ok || !impl.CnfOk(s) {
			t.Fatalf("CnfSort of %v: %v %v", f, s, ok)
		}
		for _, a := range allAssignments(f.N) {
			if impl.CnfTrue(s, a) != formulaAt(f, a) {
				t.Errorf("%v in order is another one at %v", f, a)
			}
		}
		again, _ := impl.CnfSort(s)
		checkCnf(t, "in order once more", again, s.N, s.Clauses...)
		mixed := impl.Cnf{N: f.N, Clauses: slices.Clone(f.Clauses)}
		for i := range mixed.Clauses {
			j := d.below(i + 1)
			mixed.Clauses[i], mixed.Clauses[j] = mixed.Clauses[j], mixed.Clauses[i]
		}
		other, _ := impl.CnfSort(mixed)
		checkCnf(t, fmt.Sprint("the clauses of ", f, " as ", mixed), other, s.N, s.Clauses...)
	}
}

func TestFix(t *testing.T) {
	f := impl.Cnf{N: 3, Clauses: [][]int{{2, -1, 3, -1}, {1, 2}, {-1}, {3, -3}, {}, {1, -1}, {3, 2}, {3, 2}}}
	got, ok := impl.Fix(f, 1)
	checkCnf(t, "1 is true", got, 3, []int{2, 3}, nil, []int{3, -3}, nil, []int{3, 2}, []int{3, 2})
	if !ok {
		t.Error("refused")
	}
	got, _ = impl.Fix(f, -1)
	checkCnf(t, "-1 is true", got, 3, []int{2}, []int{3, -3}, nil, []int{3, 2}, []int{3, 2})
	got, _ = impl.Fix(f, 3)
	checkCnf(t, "3 is true", got, 3, []int{1, 2}, []int{-1}, nil, []int{1, -1})
	for _, g := range append(edgeFormulas(), someFormulas(5, 60)...) {
		for _, x := range append(edgeNumbers(), 3, -3, 14, 15, -15, g.N, -g.N, g.N+1, -g.N-1) {
			got, ok := impl.Fix(g, x)
			want, wantOk := fixedFormula(g, x)
			if ok != wantOk {
				t.Errorf("Fix of %v with %d tells %v", g, x, ok)
			}
			checkCnf(t, fmt.Sprint("Fix of ", g, " with ", x), got, want.N, want.Clauses...)
		}
	}
}

// Promise 2: taking a literal to be true makes up with its opposite how often the formula is true.
func TestFixMakesUp(t *testing.T) {
	for _, f := range someFormulas(6, 300) {
		for v := 1; v <= f.N; v++ {
			counts := 0
			for _, x := range []int{v, -v} {
				g, ok := impl.Fix(f, x)
				if !ok {
					t.Fatalf("Fix of %v with %d is refused", f, x)
				}
				for _, a := range allAssignments(f.N) {
					there := slices.Clone(a)
					there[v-1] = (x/v + 1) / 2
					if impl.CnfTrue(g, a) != formulaAt(f, there) {
						t.Errorf("Fix of %v with %d at %v", f, x, a)
					}
				}
				counts += impl.CountTrue(g)
			}
			if counts != 2*len(answersOf(f)) {
				t.Errorf("Fix of %v with %d and -%d: %d", f, v, v, counts)
			}
		}
	}
}

// Promise 2: a formula implies a clause just when it cannot be true with the clause's opposites.
func TestImplies(t *testing.T) {
	d := &dice{7}
	for i, f := range someFormulas(7, 300) {
		answers := answersOf(f)
		clauses := [][]int{nil, {0}, {f.N + 1}, {-f.N - 1}}
		for range 8 {
			clauses = append(clauses, d.clause(1+i%4, max(f.N, 1)))
		}
		for _, c := range clauses {
			want := isClauseOf(c, f.N) && !slices.ContainsFunc(answers, func(a []int) bool { return !clauseAt(c, a) })
			if impl.Implies(f, c) != want {
				t.Errorf("Implies of %v and %v is not %v", f, c, want)
			}
			if !isClauseOf(c, f.N) {
				continue
			}
			against := impl.Cnf{N: f.N, Clauses: slices.Clone(f.Clauses)}
			for _, x := range opposites(c) {
				against.Clauses = append(against.Clauses, []int{x})
			}
			if impl.Implies(f, c) != (impl.CountTrue(against) == 0) {
				t.Errorf("Implies of %v and %v against its opposites", f, c)
			}
		}
		for _, c := range f.Clauses {
			if !impl.Implies(f, c) {
				t.Errorf("%v does not imply its own %v", f, c)
			}
		}
	}
}

func TestImpliesAtTheEdges(t *testing.T) {
	for _, k := range []struct {
		f    impl.Cnf
		c    []int
		want bool
	}{
		{impl.Cnf{}, nil, false}, {impl.Cnf{Clauses: [][]int{{}}}, nil, true}, {impl.Cnf{Clauses: [][]int{{}}}, []int{1}, false}, {impl.Cnf{Clauses: [][]int{{}}}, []int{0}, false},
		{impl.Cnf{N: 14, Clauses: [][]int{{14}}}, []int{14}, true}, {impl.Cnf{N: 14, Clauses: [][]int{{14}}}, []int{-14}, false}, {impl.Cnf{N: 14}, []int{7, -7}, true}, {impl.Cnf{N: 14}, []int{15}, false},
		{impl.Cnf{N: 15, Clauses: [][]int{{15}}}, []int{15}, false}, {impl.Cnf{N: 15, Clauses: [][]int{{}}}, nil, false}, {impl.Cnf{N: 25, Clauses: [][]int{{}}}, nil, false}, {impl.Cnf{N: -1, Clauses: [][]int{{}}}, nil, false},
		{impl.Cnf{N: 1, Clauses: [][]int{{1}}}, repeated(1, 48), true}, {impl.Cnf{N: 1, Clauses: [][]int{{1}}}, repeated(1, 49), false}, {impl.Cnf{N: 1, Clauses: [][]int{{1}}}, []int{1, 257}, false},
		{repeatedClause(2, []int{2}, 120), []int{2, 1}, true}, {repeatedClause(2, []int{2}, 121), []int{2, 1}, false},
		{impl.Cnf{N: 2, Clauses: [][]int{{1, -1}}}, nil, false}, {impl.Cnf{N: 2, Clauses: [][]int{{1}, {-1}}}, []int{2}, true}, {impl.Cnf{N: 2, Clauses: [][]int{{1}, {-1}}}, nil, true},
	} {
		if impl.Implies(k.f, k.c) != k.want {
			t.Errorf("Implies of %v and %v is not %v", k.f, k.c, k.want)
		}
	}
}

// Promise 2: what two clauses are resolved to is true where both are.
func TestResolvedIsTrueWhereBothAre(t *testing.T) {
	d := &dice{8}
	for range 2000 {
		a, b, v := d.clause(4, 4), d.clause(4, 4), 1+d.below(4)
		a, b = append(a, v), append([]int{-v}, b...)
		r, _ := impl.Resolve(a, b, v)
		for _, at := range allAssignments(4) {
			if clauseAt(a, at) && clauseAt(b, at) && !impl.ClauseTrue(r, at) {
				t.Errorf("%v and %v are true at %v, %v is not", a, b, at, r)
			}
		}
		if !impl.Implies(impl.Cnf{N: 4, Clauses: [][]int{a, b}}, r) {
			t.Errorf("%v and %v do not imply %v", a, b, r)
		}
	}
}

func TestCnfJoin(t *testing.T) {
	f := impl.Cnf{N: 2, Clauses: [][]int{{2, 1}, {}, {2, 1}}}
	g := impl.Cnf{N: 5, Clauses: [][]int{{5, 5}, {1, -1}, {2, 1}}}
	got, ok := impl.CnfJoin(f, g)
	checkCnf(t, "f and g", got, 5, []int{2, 1}, nil, []int{2, 1}, []int{5, 5}, []int{1, -1}, []int{2, 1})
	if !ok {
		t.Error("refused")
	}
	got, ok = impl.CnfJoin(g, f)
	checkCnf(t, "g and f", got, 5, []int{5, 5}, []int{1, -1}, []int{2, 1}, []int{2, 1}, nil, []int{2, 1})
	if !ok {
		t.Error("refused")
	}
	got, ok = impl.CnfJoin(impl.Cnf{}, impl.Cnf{})
	checkCnf(t, "nothing and nothing", got, 0)
	if !ok {
		t.Error("refused")
	}
	for _, k := range []struct {
		f, g impl.Cnf
		ok   bool
	}{
		{repeatedClause(1, []int{1}, 60), repeatedClause(2, nil, 60), true}, {repeatedClause(1, []int{1}, 60), repeatedClause(2, nil, 61), false}, {repeatedClause(1, []int{1}, 61), repeatedClause(2, nil, 60), false},
		{repeatedClause(1, []int{1}, 120), impl.Cnf{N: 24}, true}, {repeatedClause(1, []int{1}, 120), repeatedClause(1, nil, 1), false}, {impl.Cnf{N: 24}, repeatedClause(1, []int{1}, 120), true},
		{repeatedClause(1, []int{1}, 121), impl.Cnf{}, false}, {impl.Cnf{}, repeatedClause(1, []int{1}, 121), false},
		{impl.Cnf{N: 25}, impl.Cnf{}, false}, {impl.Cnf{}, impl.Cnf{N: 25}, false}, {impl.Cnf{N: -1}, impl.Cnf{N: 3}, false}, {impl.Cnf{N: 3}, impl.Cnf{N: -1}, false},
		// Each must be a formula of its own variables, not of the greater N.
		{impl.Cnf{N: 1, Clauses: [][]int{{2}}}, impl.Cnf{N: 2}, false}, {impl.Cnf{N: 2}, impl.Cnf{N: 1, Clauses: [][]int{{2}}}, false},
	} {
		got, ok := impl.CnfJoin(k.f, k.g)
		if ok != k.ok {
			t.Errorf("CnfJoin of %v and %v tells %v", k.f, k.g, ok)
		}
		if !k.ok {
			checkCnf(t, "refused", got, 0)
			continue
		}
		checkCnf(t, "joined", got, max(k.f.N, k.g.N), slices.Concat(k.f.Clauses, k.g.Clauses)...)
	}
}

func TestCnfJoinIsTrueWhereBothAre(t *testing.T) {
	fs := someFormulas(9, 60)
	for i, f := range fs {
		g := fs[(i*7+3)%len(fs)]
		j, ok := impl.CnfJoin(f, g)
		if !ok {
			t.Fatalf("CnfJoin of %v and %v is refused", f, g)
		}
		for _, a := range allAssignments(max(f.N, g.N)) {
			if impl.CnfTrue(j, a) != (formulaAt(f, a[:f.N]) && formulaAt(g, a[:g.N])) {
				t.Errorf("CnfJoin of %v and %v at %v", f, g, a)
			}
		}
	}
}

// Promise 15: every function of the chapter answers at any arguments, and writes into none.
func TestFormulaFunctionsWriteIntoNothing(t *testing.T) {
	d := &dice{10}
	fs := append(edgeFormulas(), someFormulas(10, 60)...)
	for range 30 {
		f := d.formula(24, 60, 48)
		fs = append(fs, f, impl.Cnf{N: d.below(30), Clauses: [][]int{d.edges(5), d.edges(5)}})
	}
	for _, one := range fs {
		f := guardCnf(one)
		a, c := guard(d.assignment(d.below(8))), guard(d.clause(3, 5))
		if d.below(3) == 0 {
			a, c = guard(d.edges(5)), guard(d.edges(5))
		}
		impl.CnfOk(f.f)
		impl.AssignOk(f.f, a.list)
		impl.ClauseTrue(c.list, a.list)
		impl.CnfTrue(f.f, a.list)
		impl.CountTrue(f.f)
		impl.Implies(f.f, c.list)
		s, _ := impl.CnfSort(f.f)
		checkApartLists(t, "CnfSort", s.Clauses, f, a, c)
		for _, x := range []int{1, -1, 2, 0, 24, -25} {
			g, _ := impl.Fix(f.f, x)
			checkApartLists(t, "Fix", g.Clauses, f)
		}
		self, _ := impl.CnfJoin(f.f, f.f)
		checkApartLists(t, "CnfJoin of one formula", self.Clauses, f)
		other := guardCnf(fs[d.below(len(fs))])
		j, _ := impl.CnfJoin(f.f, other.f)
		checkApartLists(t, "CnfJoin", j.Clauses, f, other)
	}
	// One list told at several places is several lists in an answer.
	shared := guard([]int{1, 2})
	f := impl.Cnf{N: 3, Clauses: [][]int{shared.list, shared.list, shared.list}}
	g, _ := impl.Fix(f, 3)
	checkApartLists(t, "Fix of one list told often", g.Clauses, shared)
	j, _ := impl.CnfJoin(f, f)
	checkApartLists(t, "CnfJoin of one list told often", j.Clauses, shared)
}
