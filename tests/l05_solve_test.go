package tests

import (
	"fmt"
	"iter"
	"math"
	"slices"
	"testing"

	"loop.example/g00123/impl"
)

// answersWith are the answers of a small formula at which every literal of a is true, the least first.
func answersWith(f impl.Cnf, a []int) [][]int {
	if !isFormula(f) || !isLiteralsOf(a, f.N) {
		return nil
	}
	return slices.DeleteFunc(answersOf(f), func(at []int) bool { return !allTrue(a, at) })
}

// coreOf takes places out of a one by one, as the chapter tells it.
func coreOf(f impl.Cnf, a []int) ([]int, bool) {
	if !isFormula(f) || !isLiteralsOf(a, f.N) || len(answersWith(f, a)) > 0 {
		return nil, false
	}
	left := slices.Clone(a)
	for i := 0; i < len(left); {
		rest := slices.Delete(slices.Clone(left), i, i+1)
		if len(answersWith(f, rest)) > 0 {
			i++
		} else {
			left = rest
		}
	}
	return left, true
}

func nextOf(f impl.Cnf, a []int) ([]int, bool) {
	for _, at := range answersOf(f) {
		if slices.Compare(at, a) > 0 {
			return at, true
		}
	}
	return nil, false
}

func backboneOf(f impl.Cnf) []int {
	answers := answersOf(f)
	if len(answers) == 0 {
		return nil
	}
	return slices.DeleteFunc(allLiterals(), func(x int) bool {
		return max(x, -x) > f.N || slices.ContainsFunc(answers, func(at []int) bool { return !literalAt(x, at) })
	})
}

// answersDown tells the answers of a formula of many variables, the least first: one variable after the other, asking a clause where its last variable has its value.
func answersDown(f impl.Cnf) iter.Seq[[]int] {
	ending := make([][][]int, f.N+1)
	for _, c := range f.Clauses {
		end := 0
		for _, x := range c {
			end = max(end, x, -x)
		}
		ending[end] = append(ending[end], c)
	}
	return func(yield func([]int) bool) {
		var down func(path []int) bool
		down = func(path []int) bool {
			if slices.ContainsFunc(ending[len(path)], func(c []int) bool { return !clauseAt(c, path) }) {
				return true
			}
			if len(path) == f.N {
				return yield(slices.Clone(path))
			}
			return down(append(path, 0)) && down(append(path, 1))
		}
		down(nil)
	}
}

func leastDown(f impl.Cnf) []int {
	for a := range answersDown(f) {
		return a
	}
	return nil
}

// withLiterals is f with each literal of a as a clause of its own.
func withLiterals(f impl.Cnf, a []int) impl.Cnf {
	g := impl.Cnf{N: f.N, Clauses: slices.Clone(f.Clauses)}
	for _, x := range a {
		g.Clauses = append(g.Clauses, []int{x})
	}
	return g
}

// narrow has that many clauses of three places each.
func (d *dice) narrow(n int, clauses int) impl.Cnf {
	f := impl.Cnf{N: n}
	for range clauses {
		c := make([]int, 3)
		for i := range c {
			c[i] = (1 + d.below(n)) * (1 - 2*d.below(2))
		}
		f.Clauses = append(f.Clauses, c)
	}
	return f
}

// allAlike is true where all n variables have one value.
func allAlike(n int) impl.Cnf {
	f := impl.Cnf{N: n}
	for v := 1; v < n; v++ {
		f.Clauses = append(f.Clauses, []int{-v, v + 1}, []int{v, -v - 1})
	}
	return f
}

// nowhere cannot be true, for its last three variables alone.
func nowhere(n int) impl.Cnf {
	f := impl.Cnf{N: n}
	for _, a := range allAssignments(3) {
		f.Clauses = append(f.Clauses, []int{(n - 2) * (1 - 2*a[0]), (n - 1) * (1 - 2*a[1]), n * (1 - 2*a[2])})
	}
	return f
}

// upTo are the numbers 1 .. n.
func upTo(n int) []int {
	var out []int
	for v := 1; v <= n; v++ {
		out = append(out, v)
	}
	return out
}

// notFormulas stand just beyond the limits; each has an answer, but for that.
func notFormulas() []impl.Cnf {
	return []impl.Cnf{
		{N: -1}, {N: 25}, {N: 26, Clauses: [][]int{{1}}}, {N: math.MinInt}, {N: math.MaxInt}, {N: 280}, {N: 2, Clauses: [][]int{{1}, {3, 1}}}, {N: 2, Clauses: [][]int{{1, 0}}}, {N: 2, Clauses: [][]int{{1, -3}}}, {N: 2, Clauses: [][]int{{257, 1}}}, {N: 0, Clauses: [][]int{{1}}},
		repeatedClause(2, []int{1}, 121), {N: 2, Clauses: [][]int{repeated(1, 49)}}, {N: 2, Clauses: [][]int{{2}, {1, math.MinInt}}},
	}
}

func checkNone(t *testing.T, what string, got []int, ok bool) {
	t.Helper()
	if ok || len(got) != 0 {
		t.Errorf("%s: %v %v, want nothing and false", what, got, ok)
	}
}

// checkTold asks for want and true.
func checkTold(t *testing.T, what string, got []int, ok bool, want ...int) {
	t.Helper()
	if !ok || !slices.Equal(got, want) {
		t.Errorf("%s: %v %v, want %v and true", what, got, ok, want)
	}
}

func checkSolve(t *testing.T, f impl.Cnf, a []int, want []int, wantOk bool) {
	t.Helper()
	if got, ok := impl.SolveWith(f, a); ok != wantOk || !slices.Equal(got, want) {
		t.Errorf("SolveWith of %v and %v: %v %v, want %v %v", f, a, got, ok, want, wantOk)
	}
	if len(a) > 0 {
		return
	}
	if got, ok := impl.Solve(f); ok != wantOk || !slices.Equal(got, want) {
		t.Errorf("Solve of %v: %v %v, want %v %v", f, got, ok, want, wantOk)
	}
}

func checkCore(t *testing.T, f impl.Cnf, a []int, want []int, wantOk bool) {
	t.Helper()
	if got, ok := impl.Core(f, a); ok != wantOk || !slices.Equal(got, want) {
		t.Errorf("Core of %v and %v: %v %v, want %v %v", f, a, got, ok, want, wantOk)
	}
}

func TestSolveAtTheEdges(t *testing.T) {
	for _, k := range []struct {
		f    impl.Cnf
		want []int
		ok   bool
	}{
		// No clauses, no variables, the empty clause.
		{impl.Cnf{}, nil, true}, {impl.Cnf{N: 3}, repeated(0, 3), true}, {impl.Cnf{N: 24}, repeated(0, 24), true}, {impl.Cnf{Clauses: [][]int{{}}}, nil, false}, {impl.Cnf{N: 3, Clauses: [][]int{{1}, nil}}, nil, false}, {impl.Cnf{N: 24, Clauses: [][]int{{}}}, nil, false}, {repeatedClause(0, nil, 120), nil, false},
		// The first variable counts most.
		{impl.Cnf{N: 3, Clauses: [][]int{{1, 2, 3}}}, []int{0, 0, 1}, true}, {impl.Cnf{N: 3, Clauses: [][]int{{3, 2, 1}}}, []int{0, 0, 1}, true}, {impl.Cnf{N: 3, Clauses: [][]int{{1, 2}, {1, 3}}}, []int{0, 1, 1}, true}, {impl.Cnf{N: 3, Clauses: [][]int{{1, 2}, {1, -2}}}, []int{1, 0, 0}, true}, {impl.Cnf{N: 2, Clauses: [][]int{{1}, {2}}}, []int{1, 1}, true}, {impl.Cnf{N: 2, Clauses: [][]int{{-1}, {2, 1}}}, []int{0, 1}, true},
		{impl.Cnf{N: 1, Clauses: [][]int{{1}, {-1}}}, nil, false}, {impl.Cnf{N: 2, Clauses: [][]int{{1, 2}, {1, -2}, {-1, 2}, {-1, -2}}}, nil, false},
		// Both literals of a variable, a literal twice.
		{impl.Cnf{N: 2, Clauses: [][]int{{1, -1}}}, []int{0, 0}, true}, {impl.Cnf{N: 2, Clauses: [][]int{{2, -2}, {1, 1}}}, []int{1, 0}, true}, {impl.Cnf{N: 2, Clauses: [][]int{{-2, 1, 2}, {2}, {2}}}, []int{0, 1}, true}, {impl.Cnf{N: 24, Clauses: [][]int{allLiterals(), repeated(24, 48)}}, append(repeated(0, 23), 1), true},
		// The last variable and the last clause.
		{impl.Cnf{N: 24, Clauses: [][]int{{24}}}, append(repeated(0, 23), 1), true}, {impl.Cnf{N: 24, Clauses: [][]int{upTo(24)}}, append(repeated(0, 23), 1), true}, {impl.Cnf{N: 24, Clauses: [][]int{opposites(upTo(24)), upTo(23)}}, append(repeated(0, 22), 1, 0), true},
		{repeatedClause(24, []int{24, -1}, 120), repeated(0, 24), true}, {impl.Cnf{N: 2, Clauses: append(repeatedClause(2, []int{1, 2}, 119).Clauses, []int{-2})}, []int{1, 0}, true}, {impl.Cnf{N: 2, Clauses: append(repeatedClause(2, []int{1, 2}, 119).Clauses, nil)}, nil, false}, {impl.Cnf{N: 1, Clauses: append(repeatedClause(1, []int{1}, 64).Clauses, []int{-1})}, nil, false}, {impl.Cnf{N: 1, Clauses: append(repeatedClause(1, []int{1, -1}, 63).Clauses, []int{1})}, []int{1}, true},
		{nowhere(24), nil, false}, {nowhere(3), nil, false}, {allAlike(24), repeated(0, 24), true}, {withLiterals(allAlike(24), []int{13}), repeated(1, 24), true}, {withLiterals(allAlike(24), []int{24, -1}), nil, false},
	} {
		checkSolve(t, k.f, nil, k.want, k.ok)
	}
	for _, f := range notFormulas() {
		checkSolve(t, f, nil, nil, false)
		checkSolve(t, f, []int{1}, nil, false)
	}
}

func TestSolveWith(t *testing.T) {
	f := impl.Cnf{N: 3, Clauses: [][]int{{1, 2}, {-1, 3}, {-2, 3}}}
	for _, k := range []struct {
		f    impl.Cnf
		a    []int
		want []int
		ok   bool
	}{
		{f, []int{1}, []int{1, 0, 1}, true}, {f, []int{-2}, []int{1, 0, 1}, true}, {f, []int{2, 1}, []int{1, 1, 1}, true}, {f, []int{3}, []int{0, 1, 1}, true}, {f, []int{-3}, nil, false}, {f, []int{-1, -2}, nil, false}, {f, nil, []int{0, 1, 1}, true}, {f, []int{}, []int{0, 1, 1}, true},
		// A literal twice, a long list.
		{f, []int{-2, -2, 3, -2}, []int{1, 0, 1}, true}, {f, repeated(-2, 1000), []int{1, 0, 1}, true},
		// Both literals of a variable: no assignment has both true, though the clauses would be closed.
		{f, []int{1, -1}, nil, false}, {f, []int{2, 3, -2}, nil, false}, {impl.Cnf{N: 3}, []int{3, -3}, nil, false}, {impl.Cnf{N: 3, Clauses: [][]int{{1}, {-1}}}, []int{1, -1}, nil, false}, {impl.Cnf{N: 24}, []int{-24, 24}, nil, false}, {impl.Cnf{N: 24}, []int{1, -1}, nil, false}, {impl.Cnf{N: 24}, allLiterals(), nil, false}, {impl.Cnf{N: 3, Clauses: [][]int{{2, -2}}}, []int{2, -2}, nil, false},
		{allAlike(24), []int{24}, repeated(1, 24), true}, {allAlike(24), []int{-24}, repeated(0, 24), true}, {allAlike(24), []int{-24, 24}, nil, false}, {allAlike(24), []int{-24, 1}, nil, false}, {nowhere(24), []int{1}, nil, false}, {nowhere(24), []int{-24}, nil, false},
		// All variables.
		{f, []int{-1, 2, 3}, []int{0, 1, 1}, true}, {f, []int{1, 2, -3}, nil, false}, {impl.Cnf{N: 24}, upTo(24), repeated(1, 24), true}, {impl.Cnf{N: 24}, opposites(upTo(24)), repeated(0, 24), true},
		// No literals of its variables.
		{f, []int{0}, nil, false}, {f, []int{1, 0}, nil, false}, {f, []int{4}, nil, false}, {f, []int{1, -4}, nil, false}, {f, []int{25}, nil, false}, {f, []int{257}, nil, false}, {f, []int{-255}, nil, false}, {f, []int{math.MinInt}, nil, false}, {f, []int{2, math.MaxInt}, nil, false}, {impl.Cnf{}, []int{1}, nil, false}, {impl.Cnf{}, []int{0}, nil, false}, {impl.Cnf{N: 24}, []int{-25}, nil, false}, {impl.Cnf{N: 24}, []int{24}, append(repeated(0, 23), 1), true},
	} {
		checkSolve(t, k.f, k.a, k.want, k.ok)
	}
}

// Promise 5: what Solve answers makes the formula true, and nothing ahead of it does; none is told just when there is none.
func TestAnswerIsTheLeast(t *testing.T) {
	none := 0
	for _, f := range someFormulas(51, 700) {
		got, ok := impl.Solve(f)
		if ok != (impl.CountTrue(f) > 0) {
			t.Errorf("Solve of %v tells %v", f, ok)
		}
		if !ok {
			none++
			checkNone(t, fmt.Sprint("Solve of ", f), got, ok)
			continue
		}
		if !impl.CnfTrue(f, got) {
			t.Errorf("Solve of %v: %v, at which it is not true", f, got)
		}
		for _, a := range allAssignments(f.N) {
			if slices.Compare(a, got) < 0 && impl.CnfTrue(f, a) {
				t.Errorf("Solve of %v: %v, but %v is ahead of it", f, got, a)
			}
		}
	}
	if none < 100 || none > 600 {
		t.Error("too few to tell", none)
	}
}

func TestAnswersAsWorkedOut(t *testing.T) {
	d := &dice{52}
	for _, f := range someFormulas(52, 500) {
		for _, a := range d.takenLists(f.N) {
			var want []int
			answers := answersWith(f, a)
			if len(answers) > 0 {
				want = answers[0]
			}
			checkSolve(t, f, a, want, len(answers) > 0)
			core, ok := coreOf(f, a)
			checkCore(t, f, a, core, ok)
		}
		for _, a := range allAssignments(f.N) {
			want, wantOk := nextOf(f, a)
			if got, ok := impl.Next(f, a); ok != wantOk || !slices.Equal(got, want) {
				t.Errorf("Next of %v and %v: %v %v, want %v %v", f, a, got, ok, want, wantOk)
			}
		}
		checkList(t, fmt.Sprint("Backbone of ", f), impl.Backbone(f), backboneOf(f)...)
	}
}

// Formulas of 24 variables, some of them of 120 clauses, against a search of the tests' own.
func TestAnswersOfManyVariables(t *testing.T) {
	d := &dice{53}
	some, none := 0, 0
	for i := range 120 {
		f := d.narrow(24, 80+i%41)
		if i%10 == 0 {
			f = d.formula(24, 120, 48)
		}
		want := leastDown(f)
		if want == nil {
			none++
		} else {
			some++
		}
		checkSolve(t, f, nil, want, want != nil)
		a := d.clause(3, 24)
		want = leastDown(withLiterals(f, a))
		checkSolve(t, f, a, want, want != nil)
		core, ok := impl.Core(f, a)
		if ok == (want != nil) {
			t.Errorf("Core of %v and %v tells %v", f, a, ok)
		}
		if ok {
			checkCoreHolds(t, f, a, core)
		}
	}
	if some < 20 || none < 20 {
		t.Error("too few to tell", some, none)
	}
}

// With 24 variables too the answers one behind the other are all, and Backbone is what they have in common.
func TestAllAnswersOfManyVariables(t *testing.T) {
	d := &dice{54}
	many, alike := 0, 0
	for range 60 {
		f := d.narrow(24, 96+d.below(25))
		common := allLiterals()
		var told [][]int
		for a, ok := impl.Solve(f); ok; a, ok = impl.Next(f, a) {
			told = append(told, a)
		}
		at := 0
		for a := range answersDown(f) {
			if at >= len(told) || !slices.Equal(told[at], a) {
				t.Fatalf("answer %d of %v is %v", at, f, a)
			}
			common = slices.DeleteFunc(common, func(x int) bool { return !literalAt(x, a) })
			at++
		}
		if at != len(told) {
			t.Fatalf("%v has %d answers, %d were told", f, at, len(told))
		}
		if at == 0 {
			common = nil
		}
		many += at
		alike += len(common)
		checkList(t, fmt.Sprint("Backbone of ", f), impl.Backbone(f), common...)
	}
	if many < 200 || alike < 50 {
		t.Error("too few to tell", many, alike)
	}
}

// Promise 5: the answers one behind the other are all that there are, each once, ascending.
func TestAnswersOneBehindTheOther(t *testing.T) {
	fs := append(someFormulas(55, 500), impl.Cnf{}, impl.Cnf{N: 6}, impl.Cnf{N: 14, Clauses: [][]int{{14}, {1, 2}, {-3, 4}, {5, 6, 7}, {-8, -9}, {10}, {11, -12}}}, allAlike(14))
	for _, f := range fs {
		var told [][]int
		for a, ok := impl.Solve(f); ok && len(told) <= 1<<14; a, ok = impl.Next(f, a) {
			told = append(told, a)
		}
		if len(told) != impl.CountTrue(f) {
			t.Fatalf("%v has %d answers, %d were told", f, impl.CountTrue(f), len(told))
		}
		for i, a := range told {
			if !impl.CnfTrue(f, a) {
				t.Errorf("%v is not true at %v", f, a)
			}
			if i > 0 && slices.Compare(told[i-1], a) >= 0 {
				t.Errorf("of %v %v comes behind %v", f, a, told[i-1])
			}
		}
	}
}

func TestNextAtTheEdges(t *testing.T) {
	f := impl.Cnf{N: 3, Clauses: [][]int{{1, 2}, {-1, 3}, {-2, 3}}}
	for _, k := range []struct {
		f       impl.Cnf
		a, want []int
	}{
		{f, []int{0, 1, 1}, []int{1, 0, 1}}, {f, []int{1, 0, 1}, []int{1, 1, 1}},
		// From an assignment that does not make it true, too.
		{f, []int{0, 0, 0}, []int{0, 1, 1}}, {f, []int{0, 1, 0}, []int{0, 1, 1}}, {f, []int{1, 0, 0}, []int{1, 0, 1}}, {f, []int{1, 1, 0}, []int{1, 1, 1}},
		{impl.Cnf{N: 1}, []int{0}, []int{1}}, {impl.Cnf{N: 3}, []int{0, 1, 1}, []int{1, 0, 0}}, {impl.Cnf{N: 24}, append([]int{0}, repeated(1, 23)...), append([]int{1}, repeated(0, 23)...)}, {allAlike(24), repeated(0, 24), repeated(1, 24)}, {allAlike(24), append(repeated(1, 23), 0), repeated(1, 24)}, {allAlike(24), append(repeated(0, 23), 1), repeated(1, 24)},
		{impl.Cnf{N: 3, Clauses: [][]int{{1, -1}, {2, 2}}}, []int{0, 1, 1}, []int{1, 1, 0}},
	} {
		got, ok := impl.Next(k.f, k.a)
		checkTold(t, fmt.Sprint("Next of ", k.f, " and ", k.a), got, ok, k.want...)
	}
	for _, k := range []struct {
		f impl.Cnf
		a []int
	}{
		// The last one, and where there is none behind.
		{f, []int{1, 1, 1}}, {impl.Cnf{}, nil}, {impl.Cnf{N: 1}, []int{1}}, {impl.Cnf{N: 24}, repeated(1, 24)}, {allAlike(24), repeated(1, 24)}, {impl.Cnf{N: 3, Clauses: [][]int{{-1}, {-2}}}, []int{0, 0, 1}}, {impl.Cnf{N: 3, Clauses: [][]int{{-1}}}, []int{1, 0, 0}}, {nowhere(24), repeated(0, 24)}, {impl.Cnf{N: 2, Clauses: [][]int{{}}}, []int{0, 0}}, {impl.Cnf{Clauses: [][]int{{}}}, nil},
		// No assignments of its variables.
		{f, nil}, {f, []int{0, 0}}, {f, []int{0, 0, 0, 0}}, {f, []int{0, 2, 0}}, {f, []int{0, -1, 0}}, {f, []int{0, 0, 256}}, {f, []int{math.MinInt, 0, 0}}, {impl.Cnf{}, []int{0}}, {impl.Cnf{N: 24}, repeated(0, 25)}, {impl.Cnf{N: 24}, repeated(0, 23)}, {impl.Cnf{N: 1}, nil},
	} {
		got, ok := impl.Next(k.f, k.a)
		checkNone(t, fmt.Sprint("Next of ", k.f, " and ", k.a), got, ok)
	}
	for _, g := range notFormulas() {
		for _, a := range [][]int{nil, {0}, {0, 0}, repeated(0, 25), repeated(0, 26), {1, 0}} {
			got, ok := impl.Next(g, a)
			checkNone(t, fmt.Sprint("Next of ", g, " and ", a), got, ok)
		}
	}
}

// Without clauses the next assignment is the next number, the first variable being the highest.
func TestNextCountsUp(t *testing.T) {
	d := &dice{56}
	for range 300 {
		a := d.assignment(24)
		want := slices.Clone(a)
		for i := 23; i >= 0; i-- {
			want[i] = 1 - want[i]
			if want[i] == 1 {
				break
			}
		}
		got, ok := impl.Next(impl.Cnf{N: 24}, a)
		checkTold(t, fmt.Sprint("Next of ", a), got, ok, want...)
	}
}

func TestCoreAtTheEdges(t *testing.T) {
	f := impl.Cnf{N: 4, Clauses: [][]int{{-1, -2}, {-2, -3}, {-3, -4, 1}}}
	alone := impl.Cnf{N: 4, Clauses: [][]int{{4}, {-4}}}
	for _, k := range []struct {
		f    impl.Cnf
		a    []int
		want []int
		ok   bool
	}{
		// Places are taken out from the first on, so what stands last stays.
		{f, []int{1, 2}, []int{1, 2}, true}, {f, []int{1, 2, 3}, []int{2, 3}, true}, {f, []int{3, 2, 1}, []int{2, 1}, true}, {f, []int{2, 1, 3}, []int{2, 3}, true}, {f, []int{3, 1, 2}, []int{1, 2}, true}, {f, []int{4, 1, 2, 3}, []int{2, 3}, true}, {f, []int{2, 3, 4, -1}, []int{3, 4, -1}, true}, {f, []int{4, -1, 3, 2}, []int{3, 2}, true}, {f, []int{-1, 3, 4}, []int{-1, 3, 4}, true},
		// A literal twice: the last place stays.
		{f, []int{1, 2, 1}, []int{2, 1}, true}, {f, []int{2, 1, 2, 1}, []int{2, 1}, true}, {f, []int{1, 1, 2, 2}, []int{1, 2}, true}, {f, []int{1, 2, 2, 1, 4}, []int{2, 1}, true}, {f, slices.Concat(repeated(1, 20000), repeated(2, 20000), repeated(1, 20000)), []int{2, 1}, true},
		// Both literals of a variable.
		{f, []int{1, -1}, []int{1, -1}, true}, {f, []int{-1, 1}, []int{-1, 1}, true}, {f, []int{1, 3, -1}, []int{1, -1}, true}, {f, []int{1, -1, 2}, []int{1, 2}, true}, {f, []int{2, 1, -1}, []int{1, -1}, true}, {f, []int{1, -1, 1}, []int{-1, 1}, true}, {f, []int{1, -1, 1, -1}, []int{1, -1}, true}, {f, []int{4, -4, 3, -3}, []int{3, -3}, true}, {impl.Cnf{N: 24}, []int{-24, 24}, []int{-24, 24}, true}, {impl.Cnf{N: 24}, allLiterals(), []int{24, -24}, true}, {impl.Cnf{N: 1}, []int{1, -1, 1}, []int{-1, 1}, true},
		{impl.Cnf{N: 2, Clauses: [][]int{{1}}}, []int{1, -1}, []int{-1}, true}, {impl.Cnf{N: 2, Clauses: [][]int{{1}}}, []int{-1, 1}, []int{-1}, true}, {impl.Cnf{N: 2, Clauses: [][]int{{1}}}, []int{-1, 2, -2}, []int{2, -2}, true}, {impl.Cnf{N: 2, Clauses: [][]int{{1}}}, []int{2, -2, -1}, []int{-1}, true}, {impl.Cnf{N: 2, Clauses: [][]int{{1, -1}}}, []int{1, 2, -1}, []int{1, -1}, true},
		// Where the formula alone cannot be true nothing is left.
		{alone, nil, nil, true}, {alone, []int{1}, nil, true}, {alone, []int{4, -4, 4}, nil, true}, {alone, []int{1, 2, -3}, nil, true}, {impl.Cnf{Clauses: [][]int{{}}}, nil, nil, true}, {impl.Cnf{N: 24, Clauses: [][]int{{}}}, allLiterals(), nil, true}, {nowhere(24), []int{1, 24, -24, 3}, nil, true}, {nowhere(24), upTo(24), nil, true},
		{allAlike(24), []int{3, 5, -20, 7}, []int{-20, 7}, true}, {allAlike(24), append(upTo(23), -24), []int{23, -24}, true}, {allAlike(24), append([]int{-24}, upTo(23)...), []int{-24, 23}, true},
		{impl.Cnf{N: 24, Clauses: [][]int{upTo(24)}}, opposites(upTo(24)), opposites(upTo(24)), true}, {impl.Cnf{N: 24, Clauses: [][]int{upTo(24), upTo(23)}}, opposites(upTo(24)), opposites(upTo(23)), true}, {repeatedClause(2, []int{1, 2}, 120), []int{-2, -1, -2}, []int{-1, -2}, true},
		// Where SolveWith is true.
		{f, nil, nil, false}, {f, []int{1}, nil, false}, {f, []int{1, 3, 4}, nil, false}, {f, []int{2, 2, -1}, nil, false}, {impl.Cnf{}, nil, nil, false}, {impl.Cnf{N: 24}, upTo(24), nil, false},
		// No literals of its variables, though SolveWith is false.
		{f, []int{1, 2, 0}, nil, false}, {f, []int{0}, nil, false}, {f, []int{5}, nil, false}, {f, []int{1, 2, -5}, nil, false}, {f, []int{25, 1, -1}, nil, false}, {f, []int{1, -1, 257}, nil, false}, {f, []int{math.MinInt, 1, 2}, nil, false}, {alone, []int{5}, nil, false}, {alone, []int{0}, nil, false}, {impl.Cnf{Clauses: [][]int{{}}}, []int{1}, nil, false},
	} {
		checkCore(t, k.f, k.a, k.want, k.ok)
	}
	for _, g := range notFormulas() {
		for _, a := range [][]int{nil, {1}, {1, -1}, {-1}, {25, -25}} {
			checkCore(t, g, a, nil, false)
		}
	}
}

// checkCoreHolds asks for places of a that cannot be true together, and can without any one of them.
func checkCoreHolds(t *testing.T, f impl.Cnf, a []int, core []int) {
	t.Helper()
	rest := a
	for _, x := range core {
		at := slices.Index(rest, x)
		if at < 0 {
			t.Fatalf("Core of %v and %v: %v", f, a, core)
		}
		rest = rest[at+1:]
	}
	if _, ok := impl.SolveWith(f, core); ok {
		t.Errorf("Core of %v and %v: %v, which can be true", f, a, core)
	}
	for i := range core {
		less := slices.Delete(slices.Clone(core), i, i+1)
		if _, ok := impl.SolveWith(f, less); !ok {
			t.Errorf("Core of %v and %v: %v, but %v does", f, a, core, less)
		}
	}
}

// Promise 5: a core cannot be true and cannot do without any of it.
func TestCoreCannotDoWithoutAnyOfIt(t *testing.T) {
	d := &dice{57}
	told, long := 0, 0
	for _, f := range someFormulas(57, 500) {
		for _, a := range d.takenLists(f.N) {
			core, ok := impl.Core(f, a)
			if _, can := impl.SolveWith(f, a); ok != (isLiteralsOf(a, f.N) && !can) {
				t.Errorf("Core of %v and %v tells %v", f, a, ok)
			}
			if !ok {
				checkNone(t, fmt.Sprint("Core of ", f, " and ", a), core, ok)
				continue
			}
			told++
			if len(core) > 1 {
				long++
			}
			checkCoreHolds(t, f, a, core)
		}
	}
	if told < 200 || long < 100 {
		t.Error("too few to tell", told, long)
	}
}

func TestBackbone(t *testing.T) {
	for _, k := range []struct {
		f    impl.Cnf
		want []int
	}{
		{impl.Cnf{}, nil}, {impl.Cnf{N: 24}, nil}, {impl.Cnf{N: 3, Clauses: [][]int{{1, 2}, {-1, 3}, {-2, 3}}}, []int{3}}, {impl.Cnf{N: 3, Clauses: [][]int{{-3}, {3, 2}, {1, -1}}}, []int{2, -3}}, {impl.Cnf{N: 2, Clauses: [][]int{{-2, -2}, {1, 1}}}, []int{1, -2}}, {impl.Cnf{N: 1, Clauses: [][]int{{1, -1}}}, nil},
		// In order, at the last variable too.
		{impl.Cnf{N: 24, Clauses: [][]int{{24}, {-23}, {-1}, {2}}}, []int{-1, 2, -23, 24}}, {impl.Cnf{N: 24, Clauses: [][]int{{24, 23}, {24, -23}}}, []int{24}}, {impl.Cnf{N: 24, Clauses: [][]int{{-24, 23}, {-24, -23}}}, []int{-24}}, {allAlike(24), nil}, {withLiterals(allAlike(24), []int{7}), upTo(24)}, {withLiterals(allAlike(24), []int{-24}), opposites(upTo(24))}, {repeatedClause(24, []int{-24}, 120), []int{-24}},
		// No answer at all.
		{impl.Cnf{N: 1, Clauses: [][]int{{1}, {-1}}}, nil}, {impl.Cnf{N: 2, Clauses: [][]int{{1}, {2}, {}}}, nil}, {impl.Cnf{Clauses: [][]int{{}}}, nil}, {nowhere(24), nil}, {withLiterals(nowhere(24), []int{1, 2, 3}), nil},
	} {
		checkList(t, fmt.Sprint("Backbone of ", k.f), impl.Backbone(k.f), k.want...)
	}
	for _, f := range notFormulas() {
		checkList(t, fmt.Sprint("Backbone of ", f), impl.Backbone(f))
	}
}

// Promise 5: Backbone tells what is true at every answer, and of every other variable there are answers both ways.
func TestBackboneIsTrueAtEveryAnswer(t *testing.T) {
	told := 0
	for _, f := range someFormulas(58, 500) {
		all := impl.Backbone(f)
		_, can := impl.Solve(f)
		if !can {
			checkList(t, fmt.Sprint("Backbone of ", f), all)
			continue
		}
		told += len(all)
		for v := 1; v <= f.N; v++ {
			_, yes := impl.SolveWith(f, []int{v})
			_, no := impl.SolveWith(f, []int{-v})
			if slices.Contains(all, v) != !no || slices.Contains(all, -v) != !yes {
				t.Errorf("Backbone of %v: %v", f, all)
			}
		}
	}
	if told < 100 {
		t.Error("too few to tell", told)
	}
}

func TestBlocked(t *testing.T) {
	f := impl.Cnf{N: 3, Clauses: [][]int{{2, 1}, {3, -3, 3}, {2, 1}}}
	got, ok := impl.Blocked(f, []int{0, 1, 1})
	checkCnf(t, "Blocked", got, 3, []int{2, 1}, []int{3, -3, 3}, []int{2, 1}, []int{1, -2, -3})
	if !ok {
		t.Error("refused")
	}
	// Where it does not make it true, too.
	got, ok = impl.Blocked(f, []int{0, 0, 0})
	checkCnf(t, "Blocked", got, 3, []int{2, 1}, []int{3, -3, 3}, []int{2, 1}, []int{1, 2, 3})
	if !ok {
		t.Error("refused")
	}
	got, ok = impl.Blocked(impl.Cnf{}, nil)
	checkCnf(t, "Blocked without variables", got, 0, nil)
	if !ok || len(got.Clauses) != 1 {
		t.Error("refused")
	}
	got, ok = impl.Blocked(impl.Cnf{N: 24}, repeated(1, 24))
	checkCnf(t, "Blocked of 24 variables", got, 24, opposites(upTo(24)))
	if !ok {
		t.Error("refused")
	}
	// 119 clauses and one more are accepted, 120 have no room.
	got, ok = impl.Blocked(repeatedClause(2, []int{1, 2}, 119), []int{1, 0})
	checkCnf(t, "Blocked of 119 clauses", got, 2, append(repeatedClause(2, []int{1, 2}, 119).Clauses, []int{-1, 2})...)
	if !ok || !impl.CnfOk(got) {
		t.Error("refused")
	}
	_, ok = impl.Blocked(repeatedClause(0, nil, 119), nil)
	if !ok {
		t.Error("refused")
	}
}

func TestBlockedRefuses(t *testing.T) {
	f := impl.Cnf{N: 3, Clauses: [][]int{{2, 1}}}
	for _, k := range []struct {
		f impl.Cnf
		a []int
	}{
		{repeatedClause(2, []int{1, 2}, 120), []int{1, 0}}, {repeatedClause(2, []int{1, 2}, 121), []int{1, 0}}, {repeatedClause(0, nil, 120), nil},
		{f, nil}, {f, []int{0, 1}}, {f, []int{0, 1, 1, 0}}, {f, []int{0, 1, 2}}, {f, []int{-1, 1, 1}}, {f, []int{0, 1, 257}}, {f, []int{0, math.MinInt, 1}}, {impl.Cnf{}, []int{0}}, {impl.Cnf{N: 24}, repeated(1, 25)}, {impl.Cnf{N: 24}, repeated(1, 23)}, {impl.Cnf{N: 25}, repeated(1, 25)}, {impl.Cnf{N: -1}, nil},
	} {
		got, ok := impl.Blocked(k.f, k.a)
		checkCnf(t, fmt.Sprint("Blocked of ", k.f, " and ", k.a), got, 0)
		if ok {
			t.Errorf("Blocked of %v and %v is true", k.f, k.a)
		}
	}
	for _, g := range notFormulas() {
		for _, a := range [][]int{nil, {0}, {1, 0}, repeated(0, 25), repeated(0, 26)} {
			got, ok := impl.Blocked(g, a)
			checkCnf(t, fmt.Sprint("Blocked of ", g, " and ", a), got, 0)
			if ok {
				t.Errorf("Blocked of %v and %v is true", g, a)
			}
		}
	}
}

// Promise 5: a formula that one answer was blocked of has one answer less, and no other is lost.
func TestBlockedHasOneAnswerLess(t *testing.T) {
	for _, f := range someFormulas(59, 300) {
		for _, a := range allAssignments(f.N) {
			g, ok := impl.Blocked(f, a)
			if !ok {
				t.Fatalf("Blocked of %v and %v is refused", f, a)
			}
			less := 0
			if formulaAt(f, a) {
				less = 1
			}
			if impl.CountTrue(g) != impl.CountTrue(f)-less || impl.CnfTrue(g, a) {
				t.Errorf("%v blocked at %v: %v", f, a, g)
			}
			for _, at := range answersOf(f) {
				if impl.CnfTrue(g, at) == slices.Equal(at, a) {
					t.Errorf("%v blocked at %v is wrong at %v", f, a, at)
				}
			}
		}
	}
}

// Promise 15: every function of the chapter answers at any arguments, and writes into none.
func TestSolveFunctionsWriteIntoNothing(t *testing.T) {
	d := &dice{60}
	fs := slices.Concat(edgeFormulas(), notFormulas(), someFormulas(60, 80), []impl.Cnf{allAlike(24), nowhere(24), repeatedClause(3, []int{2, 1}, 119)})
	for range 30 {
		fs = append(fs, d.formula(24, 60, 48), d.narrow(24, 119), impl.Cnf{N: d.below(30), Clauses: [][]int{d.edges(5), d.edges(5)}})
	}
	for _, one := range fs {
		f := guardCnf(one)
		n := min(max(one.N, 0), 24)
		solved, _ := impl.Solve(f.f)
		checkApart(t, "Solve", solved, f)
		checkApart(t, "Backbone", impl.Backbone(f.f), f)
		for _, list := range append(d.takenLists(n), d.edges(6), d.assignment(n), repeated(0, n), repeated(1, n), repeated(0, n+1)) {
			a := guard(list)
			solved, _ = impl.SolveWith(f.f, a.list)
			checkApart(t, "SolveWith", solved, f, a)
			core, _ := impl.Core(f.f, a.list)
			checkApart(t, "Core", core, f, a)
			next, _ := impl.Next(f.f, a.list)
			checkApart(t, "Next", next, f, a)
			blocked, _ := impl.Blocked(f.f, a.list)
			checkApartLists(t, "Blocked", blocked.Clauses, f, a)
		}
	}
	// One list told at several places, and the assignment among them, is several lists in an answer.
	shared := guard([]int{1, 1})
	g, ok := impl.Blocked(impl.Cnf{N: 2, Clauses: [][]int{shared.list, shared.list}}, shared.list)
	if !ok {
		t.Error("refused")
	}
	checkApartLists(t, "Blocked of one list told often", g.Clauses, shared)
}
