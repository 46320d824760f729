package tests

import (
	"fmt"
	"math"
	"slices"
	"sync"
	"testing"

	"loop.example/g00123/impl"
)

// variableOf is for literals.
func variableOf(x int) int {
	return max(x, -x)
}

func isVariableOf(f impl.Cnf, v int) bool {
	return isFormula(f) && v >= 1 && v <= f.N
}

func subsumeOf(f impl.Cnf) (impl.Cnf, bool) {
	g, ok := sortedFormula(f)
	out := impl.Cnf{N: g.N}
	for i, c := range g.Clauses {
		alone := func(other []int) bool {
			return !slices.ContainsFunc(other, func(x int) bool { return !slices.Contains(c, x) })
		}
		if !slices.ContainsFunc(slices.Concat(g.Clauses[:i], g.Clauses[i+1:]), alone) {
			out.Clauses = append(out.Clauses, c)
		}
	}
	return out, ok
}

// resolvents are those that Eliminate tells behind the clauses without v; more than there may be, too.
func resolvents(g impl.Cnf, v int) [][]int {
	var out [][]int
	for _, a := range g.Clauses {
		for _, b := range g.Clauses {
			if !slices.Contains(a, v) || !slices.Contains(b, -v) {
				continue
			}
			if c, apart := resolved(a, b, v); apart {
				out = append(out, c)
			}
		}
	}
	return out
}

func eliminateOf(f impl.Cnf, v int) (impl.Cnf, bool) {
	if !isVariableOf(f, v) {
		return impl.Cnf{}, false
	}
	g, _ := sortedFormula(f)
	out := impl.Cnf{N: f.N}
	for _, c := range g.Clauses {
		if !slices.Contains(c, v) && !slices.Contains(c, -v) {
			out.Clauses = append(out.Clauses, c)
		}
	}
	out.Clauses = append(out.Clauses, resolvents(g, v)...)
	return sortedFormula(out)
}

func unitsOf(f impl.Cnf) (impl.Cnf, bool) {
	if !isFormula(f) {
		return impl.Cnf{}, false
	}
	forced, ok := forceOf(f, nil)
	if !ok {
		return impl.Cnf{N: f.N, Clauses: [][]int{{}}}, true
	}
	out := f
	for _, x := range forced {
		out, _ = fixedFormula(out, x)
	}
	out = withLiterals(out, forced)
	if !isFormula(out) {
		return impl.Cnf{}, false
	}
	return out, true
}

func lessOf(f impl.Cnf) (impl.Cnf, bool) {
	g, ok := unitsOf(f)
	if !ok {
		return impl.Cnf{}, false
	}
	return subsumeOf(g)
}

// groupOf goes from v on over clauses, as long as there is anything to come to.
func groupOf(f impl.Cnf, v int) []int {
	group := []int{v}
	for i := 0; i < len(group); i++ {
		for _, c := range f.Clauses {
			if !slices.Contains(c, group[i]) && !slices.Contains(c, -group[i]) {
				continue
			}
			for _, x := range c {
				if !slices.Contains(group, variableOf(x)) {
					group = append(group, variableOf(x))
				}
			}
		}
	}
	slices.Sort(group)
	return group
}

func groupsOf(f impl.Cnf) [][]int {
	var out [][]int
	for v := 1; isFormula(f) && v <= f.N; v++ {
		if group := groupOf(f, v); group[0] == v {
			out = append(out, group)
		}
	}
	return out
}

func partOf(f impl.Cnf, vars []int) (impl.Cnf, bool) {
	if !isFormula(f) {
		return impl.Cnf{}, false
	}
	out := impl.Cnf{N: f.N}
	for _, c := range f.Clauses {
		if !slices.ContainsFunc(c, func(x int) bool { return !slices.Contains(vars, variableOf(x)) }) {
			out.Clauses = append(out.Clauses, c)
		}
	}
	return out, true
}

// literalsTold is f with each literal told anew.
func literalsTold(f impl.Cnf, told func(x int) int) impl.Cnf {
	out := impl.Cnf{N: f.N}
	for _, c := range f.Clauses {
		var anew []int
		for _, x := range c {
			anew = append(anew, told(x))
		}
		out.Clauses = append(out.Clauses, anew)
	}
	return out
}

func flipOf(f impl.Cnf, v int) (impl.Cnf, bool) {
	if !isVariableOf(f, v) {
		return impl.Cnf{}, false
	}
	return literalsTold(f, func(x int) int {
		if variableOf(x) == v {
			return -x
		}
		return x
	}), true
}

func swapOf(f impl.Cnf, v int, w int) (impl.Cnf, bool) {
	if !isVariableOf(f, v) || !isVariableOf(f, w) {
		return impl.Cnf{}, false
	}
	names := append([]int{0}, upTo(f.N)...)
	names[v], names[w] = w, v
	return literalsTold(f, func(x int) int {
		if x < 0 {
			return -names[-x]
		}
		return names[x]
	}), true
}

// valuedAt is an assignment of the other variables with a value for v.
func valuedAt(others []int, v int, value int) []int {
	return slices.Insert(slices.Clone(others), v-1, value)
}

func projectOf(f impl.Cnf, v int) int {
	if !isVariableOf(f, v) || f.N > 14 {
		return -1
	}
	count := 0
	for _, others := range allAssignments(f.N - 1) {
		if formulaAt(f, valuedAt(others, v, 0)) || formulaAt(f, valuedAt(others, v, 1)) {
			count++
		}
	}
	return count
}

func hornOf(f impl.Cnf) bool {
	return isFormula(f) && !slices.ContainsFunc(f.Clauses, func(c []int) bool {
		positive := slices.DeleteFunc(slices.Clone(c), func(x int) bool { return x < 0 })
		return len(positive) > 1
	})
}

func occursOf(f impl.Cnf, x int) int {
	count := 0
	for _, c := range f.Clauses {
		if isFormula(f) && slices.Contains(c, x) {
			count++
		}
	}
	return count
}

func widthOf(f impl.Cnf) int {
	if !isFormula(f) {
		return -1
	}
	width := 0
	for _, c := range f.Clauses {
		width = max(width, len(c))
	}
	return width
}

// checkMade asks for a formula and a flag.
func checkMade(t *testing.T, what string, got impl.Cnf, ok bool, want impl.Cnf, wantOk bool) {
	t.Helper()
	if ok != wantOk || got.N != want.N || !sameLists(got.Clauses, want.Clauses) {
		t.Errorf("%s: %v %v, want %v %v", what, got, ok, want, wantOk)
	}
}

func checkCount(t *testing.T, what string, got int, want int) {
	t.Helper()
	if got != want {
		t.Errorf("%s: %d, want %d", what, got, want)
	}
}

func checkSubsume(t *testing.T, f impl.Cnf, want impl.Cnf, wantOk bool) {
	t.Helper()
	got, ok := impl.Subsume(f)
	checkMade(t, fmt.Sprint("Subsume of ", f), got, ok, want, wantOk)
}

func checkEliminate(t *testing.T, f impl.Cnf, v int, want impl.Cnf, wantOk bool) {
	t.Helper()
	got, ok := impl.Eliminate(f, v)
	checkMade(t, fmt.Sprint("Eliminate of ", f, " and ", v), got, ok, want, wantOk)
}

func checkUnits(t *testing.T, f impl.Cnf, want impl.Cnf, wantOk bool) {
	t.Helper()
	got, ok := impl.Units(f)
	checkMade(t, fmt.Sprint("Units of ", f), got, ok, want, wantOk)
}

func checkLess(t *testing.T, f impl.Cnf, want impl.Cnf, wantOk bool) {
	t.Helper()
	got, ok := impl.Less(f)
	checkMade(t, fmt.Sprint("Less of ", f), got, ok, want, wantOk)
}

func checkGroups(t *testing.T, f impl.Cnf, want ...[]int) {
	t.Helper()
	if got := impl.Groups(f); !sameLists(got, want) {
		t.Errorf("Groups of %v: %v, want %v", f, got, want)
	}
}

func checkPart(t *testing.T, f impl.Cnf, vars []int, want impl.Cnf, wantOk bool) {
	t.Helper()
	got, ok := impl.Part(f, vars)
	checkMade(t, fmt.Sprint("Part of ", f, " and ", vars), got, ok, want, wantOk)
}

func checkFlip(t *testing.T, f impl.Cnf, v int, want impl.Cnf, wantOk bool) {
	t.Helper()
	got, ok := impl.FlipVar(f, v)
	checkMade(t, fmt.Sprint("FlipVar of ", f, " and ", v), got, ok, want, wantOk)
}

func checkSwap(t *testing.T, f impl.Cnf, v int, w int, want impl.Cnf, wantOk bool) {
	t.Helper()
	got, ok := impl.SwapVars(f, v, w)
	checkMade(t, fmt.Sprint("SwapVars of ", f, ", ", v, " and ", w), got, ok, want, wantOk)
}

func checkProject(t *testing.T, f impl.Cnf, v int, want int) {
	t.Helper()
	checkCount(t, fmt.Sprint("Project of ", f, " and ", v), impl.Project(f, v), want)
}

func checkHorn(t *testing.T, f impl.Cnf, want bool) {
	t.Helper()
	if got := impl.Horn(f); got != want {
		t.Errorf("Horn of %v: %v", f, got)
	}
}

func checkOccurs(t *testing.T, f impl.Cnf, x int, want int) {
	t.Helper()
	checkCount(t, fmt.Sprint("Occurs of ", f, " and ", x), impl.Occurs(f, x), want)
}

func checkWidth(t *testing.T, f impl.Cnf, want int) {
	t.Helper()
	checkCount(t, fmt.Sprint("Width of ", f), impl.Width(f), want)
}

// checkOfFormula holds all that asks for a formula alone against what is worked out.
func checkOfFormula(t *testing.T, f impl.Cnf) {
	t.Helper()
	want, ok := subsumeOf(f)
	checkSubsume(t, f, want, ok)
	want, ok = unitsOf(f)
	checkUnits(t, f, want, ok)
	want, ok = lessOf(f)
	checkLess(t, f, want, ok)
	checkGroups(t, f, groupsOf(f)...)
	checkHorn(t, f, hornOf(f))
	checkWidth(t, f, widthOf(f))
}

func checkOfVariables(t *testing.T, f impl.Cnf, v int, w int) {
	t.Helper()
	want, ok := eliminateOf(f, v)
	checkEliminate(t, f, v, want, ok)
	want, ok = flipOf(f, v)
	checkFlip(t, f, v, want, ok)
	want, ok = swapOf(f, v, w)
	checkSwap(t, f, v, w, want, ok)
	checkProject(t, f, v, projectOf(f, v))
	checkOccurs(t, f, v, occursOf(f, v))
	checkOccurs(t, f, -v, occursOf(f, -v))
}

func checkPartAsWorkedOut(t *testing.T, f impl.Cnf, vars []int) {
	t.Helper()
	want, ok := partOf(f, vars)
	checkPart(t, f, vars, want, ok)
}

// pairs are clauses of two literals: x with each of the numbers first .. last.
func pairs(x int, first int, last int) [][]int {
	var out [][]int
	for y := first; y <= last; y++ {
		out = append(out, []int{x, y})
	}
	return out
}

// singles are the numbers first .. last as clauses of their own.
func singles(first int, last int) [][]int {
	var out [][]int
	for y := first; y <= last; y++ {
		out = append(out, []int{y})
	}
	return out
}

func TestSubsume(t *testing.T) {
	for _, k := range []struct {
		n             int
		clauses, want [][]int
	}{
		{0, nil, nil},
		{24, nil, nil},
		{0, [][]int{{}}, [][]int{{}}},
		{0, [][]int{{}, nil, {}}, [][]int{{}}},
		{3, [][]int{{1}, {2, 3}, {}, {-1}}, [][]int{{}}},
		{2, [][]int{{1, 2}, {1, 2}}, [][]int{{1, 2}}},
		{2, [][]int{{1, 2}, {2, 1}}, [][]int{{1, 2}}},
		{2, [][]int{{2, 1, 2}, {1, 1, 2}, {2, 1}}, [][]int{{1, 2}}},
		{2, [][]int{{-1, -1}, {-1}}, [][]int{{-1}}},
		{3, [][]int{{1, 2}, {2, 3}, {1, 3}}, [][]int{{1, 2}, {1, 3}, {2, 3}}},
		{3, [][]int{{1, 2, 3}, {1, 2}, {1}}, [][]int{{1}}},
		{3, [][]int{{1}, {1, 2}, {1, 2, 3}}, [][]int{{1}}},
		{3, [][]int{{1, 2, 3}, {3, 2}}, [][]int{{2, 3}}},
		{3, [][]int{{1, 2, 3}, {3, 1}}, [][]int{{1, 3}}},
		{3, [][]int{{1, 2, 3}, {3}, {2, 1}}, [][]int{{1, 2}, {3}}},
		{3, [][]int{{1, 2}, {-1}, {-2}}, [][]int{{1, 2}, {-1}, {-2}}},
		{3, [][]int{{1, 2, 3}, {1, -2}}, [][]int{{1, 2, 3}, {1, -2}}},
		{3, [][]int{{3}, {-1}, {1, 2}}, [][]int{{1, 2}, {-1}, {3}}},
		{3, [][]int{{1, -1}, {1, -1, 2}, {3, 2}}, [][]int{{2, 3}}},
		{3, [][]int{{1, -1, 2}, {2, 3}, {2, -2}}, [][]int{{2, 3}}},
		{1, [][]int{{1, -1}}, nil},
		{24, [][]int{allLiterals(), upTo(24), opposites(upTo(24))}, [][]int{upTo(24), opposites(upTo(24))}},
		{24, [][]int{upTo(24), upTo(23), {24, 23}}, [][]int{upTo(23), {23, 24}}},
		{24, times([]int{24, 3}, 120), [][]int{{3, 24}}},
		{24, append(times([]int{24, 3}, 119), []int{24}), [][]int{{24}}},
	} {
		checkSubsume(t, impl.Cnf{N: k.n, Clauses: k.clauses}, impl.Cnf{N: k.n, Clauses: k.want}, true)
	}
}

func TestEliminate(t *testing.T) {
	for _, k := range []struct {
		n, v          int
		clauses, want [][]int
	}{
		{1, 1, nil, nil},
		{24, 24, nil, nil},
		{1, 1, [][]int{{}}, [][]int{{}}},
		{1, 1, [][]int{{1}}, nil},
		{1, 1, [][]int{{-1}}, nil},
		{1, 1, [][]int{{1}, {-1}}, [][]int{{}}},
		{1, 1, [][]int{{1, -1}}, nil},
		{1, 1, [][]int{{-1, 1}, {-1}}, nil},
		{2, 1, [][]int{{1, -1, 2}, {-1, 2}}, nil},
		{2, 1, [][]int{{1, 1, 2}, {-1, 2, -1}}, [][]int{{2}}},
		{2, 1, [][]int{{1, 2}, {-1, -2}}, nil},
		{2, 1, [][]int{{1, 2}, {-1, -2}, {-1}}, [][]int{{2}}},
		{2, 2, [][]int{{1, 2}, {-1, -2}, {1, -2}}, [][]int{{1}}},
		{3, 3, [][]int{{2, 1}, {1, 2}, {-1}}, [][]int{{1, 2}, {-1}}},
		{3, 2, [][]int{{3, 3}, {-2, 2}, {1}}, [][]int{{1}, {3}}},
		{3, 1, [][]int{{2, 3}, {1, 2}, {-1, 3}}, [][]int{{2, 3}}},
		{4, 1, [][]int{{4}, {1, 3}, {1, 2}, {-1, -2}, {-1, -4}}, [][]int{{2, -4}, {-2, 3}, {3, -4}, {4}}},
		{4, 3, [][]int{{3, 4}, {-3, 1}, {3, -1, 2}, {-3, -2, -4}}, [][]int{{1, 4}}},
		{2, 1, append(times([]int{1, 2}, 60), times([]int{-1, 2}, 60)...), [][]int{{2}}},
		{24, 24, [][]int{upTo(24), append(opposites(upTo(24))[23:], upTo(23)...)}, [][]int{upTo(23)}},
		{24, 24, [][]int{allLiterals(), {24}, {-24}}, [][]int{{}}},
	} {
		checkEliminate(t, impl.Cnf{N: k.n, Clauses: k.clauses}, k.v, impl.Cnf{N: k.n, Clauses: k.want}, true)
	}
}

func TestEliminateAtMaxClauses(t *testing.T) {
	for _, k := range []struct {
		with, against, rest [][]int
		ok                  bool
		many                int
	}{
		{pairs(1, 2, 11), pairs(-1, 12, 23), nil, true, 120},
		{pairs(1, 2, 11), pairs(-1, 12, 23), singles(24, 24), false, 0},
		{pairs(1, 2, 12), pairs(-1, 13, 22), singles(23, 24), true, 112},
		{pairs(1, 2, 12), pairs(-1, 13, 23), nil, false, 0},
		// Those told twice count ahead of the last CnfSort.
		{pairs(1, 2, 11), pairs(-1, 2, 13), nil, true, 75},
		{pairs(1, 2, 12), pairs(-1, 2, 12), nil, false, 0},
		// Those that have both literals of a variable are not told, and so do not count.
		{pairs(1, 2, 12), pairs(-1, -12, -2), nil, true, 110},
		{pairs(1, 2, 12), pairs(-1, -12, -2), singles(13, 22), true, 120},
		{pairs(1, 2, 12), pairs(-1, -12, -2), singles(13, 23), false, 0},
		// What is dropped from f by its own CnfSort does not count either.
		{pairs(1, 2, 11), pairs(-1, 12, 23), times([]int{3, -3}, 98), true, 120},
		{pairs(1, 2, 11), pairs(-1, 12, 22), times([]int{24}, 99), true, 111},
		{pairs(1, 2, 24), pairs(-1, -24, -2), nil, false, 0},
	} {
		f := impl.Cnf{N: 24, Clauses: slices.Concat(k.rest, k.with, k.against)}
		want, ok := eliminateOf(f, 1)
		if ok != k.ok || len(want.Clauses) != k.many {
			t.Errorf("worked out for %v: %d %v", f, len(want.Clauses), ok)
		}
		checkEliminate(t, f, 1, want, k.ok)
	}
	// A variable in no clause leaves as many as there are.
	for _, v := range []int{1, 23, 24} {
		want, _ := sortedFormula(impl.Cnf{N: 24, Clauses: slices.Concat(pairs(3, 4, 22), pairs(-3, 4, 22), pairs(5, 6, 22))})
		checkEliminate(t, want, v, want, true)
	}
	full := impl.Cnf{N: 24}
	for _, a := range []int{2, 3, 4, 5, 6} {
		full.Clauses = append(full.Clauses, slices.Concat(pairs(a, 7, 18), pairs(-a, 7, 18))...)
	}
	if len(full.Clauses) != 120 {
		t.Fatal("clauses", len(full.Clauses))
	}
	want, _ := sortedFormula(full)
	checkEliminate(t, full, 1, want, true)
}

func TestUnits(t *testing.T) {
	for _, k := range []struct {
		n             int
		clauses, want [][]int
	}{
		{0, nil, nil},
		{24, nil, nil},
		{0, [][]int{{}}, [][]int{{}}},
		{0, [][]int{{}, {}}, [][]int{{}}},
		{3, [][]int{{1}, {}, {2, 3}}, [][]int{{}}},
		{1, [][]int{{1}, {-1}}, [][]int{{}}},
		{3, [][]int{{2, 3}, {1}, {-1, 2}, {-2, -1}}, [][]int{{}}},
		{1, [][]int{{1}}, [][]int{{1}}},
		{1, [][]int{{1}, {1}, {1, 1}}, [][]int{{1}}},
		{1, [][]int{{-1, -1}}, [][]int{{-1}}},
		{3, [][]int{{3, 2}, {2, 3}, {3, 2}, {1, 1, 2}}, [][]int{{3, 2}, {2, 3}, {3, 2}, {1, 1, 2}}},
		{3, [][]int{{3, -3}, {2, 1}, {-2, 2, 2}}, [][]int{{3, -3}, {2, 1}, {-2, 2, 2}}},
		{3, [][]int{{3, -3}, {-3}}, [][]int{{-3}}},
		{3, [][]int{{3, -3}, {3}}, [][]int{{3}}},
		{3, [][]int{{3, -3}, {1}, {-2, 3, -2}}, [][]int{{3, -3}, {-2, 3, -2}, {1}}},
		{3, [][]int{{1}, {-1, 3, 2, 3, -1}}, [][]int{{3, 2, 3}, {1}}},
		{3, [][]int{{-2}, {1}, {2, -1, 3}}, [][]int{{-2}, {1}, {3}}},
		{3, [][]int{{-3, 2}, {-1, 3}, {1}}, [][]int{{1}, {3}, {2}}},
		{4, [][]int{{3}, {1, 2, 4}, {-3, -4}, {2, 1}}, [][]int{{1, 2}, {2, 1}, {3}, {-4}}},
		{5, [][]int{{4, 5}, {-2, -4, 5}, {2}, {-5, 1, 3}, {-1}}, [][]int{{4, 5}, {-4, 5}, {-5, 3}, {2}, {-1}}},
		{24, singles(1, 24), singles(1, 24)},
		{24, append([][]int{upTo(24)}, singles(-23, -1)...), append(singles(-23, -1), []int{24})},
	} {
		checkUnits(t, impl.Cnf{N: k.n, Clauses: k.clauses}, impl.Cnf{N: k.n, Clauses: k.want}, true)
	}
}

// Each literal behind has a clause of its own that Fix drops, so that only what has too many clauses itself comes beyond the limit.
func TestUnitsAtMaxClauses(t *testing.T) {
	rest := times([]int{24, -1, 23}, 98)
	fixed := times([]int{24, 23}, 98)
	f := impl.Cnf{N: 24, Clauses: slices.Concat(singles(1, 22), rest)}
	checkUnits(t, f, impl.Cnf{N: 24, Clauses: slices.Concat(fixed, singles(1, 22))}, true)
	checkLess(t, f, impl.Cnf{N: 24, Clauses: append(singles(1, 22), []int{23, 24})}, true)

	f.Clauses = append(f.Clauses, []int{24, -1, 23})
	checkUnits(t, f, impl.Cnf{}, false)
	checkLess(t, f, impl.Cnf{}, false)
	checkUnits(t, repeatedClause(3, []int{1}, 120), impl.Cnf{N: 3, Clauses: [][]int{{1}}}, true)
	checkUnits(t, repeatedClause(3, []int{1}, 121), impl.Cnf{}, false)
	checkUnits(t, repeatedClause(3, nil, 120), impl.Cnf{N: 3, Clauses: [][]int{{}}}, true)
	checkUnits(t, repeatedClause(3, nil, 121), impl.Cnf{}, false)

	d := &dice{140}
	full := 0
	for range 300 {
		f := impl.Cnf{N: 24, Clauses: slices.Concat(singles(1, d.below(5)), d.narrow(24, 110).Clauses)}
		for len(f.Clauses) < 120 {
			f.Clauses = append(f.Clauses, []int{22, 23, 24})
		}
		want, ok := unitsOf(f)
		checkUnits(t, f, want, ok)
		if !ok || len(want.Clauses) > len(f.Clauses) {
			t.Errorf("worked out for %v: %v %v", f, want, ok)
		}
		if len(want.Clauses) == 120 {
			full++
		}
	}
	if full < 20 {
		t.Error("too few to tell", full)
	}
}

func TestLess(t *testing.T) {
	for _, k := range []struct {
		n             int
		clauses, want [][]int
	}{
		{0, nil, nil},
		{0, [][]int{{}}, [][]int{{}}},
		{2, [][]int{{1, 2}, {}, {1}}, [][]int{{}}},
		{1, [][]int{{1}, {-1}}, [][]int{{}}},
		{3, [][]int{{3, 2}, {2, 3}, {1, 2, 3}}, [][]int{{2, 3}}},
		{4, [][]int{{-1, 3, 2}, {2, 3, 4}, {1}}, [][]int{{1}, {2, 3}}},
		{4, [][]int{{3}, {4, -4}, {1, 3}, {1, 2}}, [][]int{{1, 2}, {3}}},
		{3, [][]int{{3}, {-3, 2}, {-2, 1}}, [][]int{{1}, {2}, {3}}},
	} {
		checkLess(t, impl.Cnf{N: k.n, Clauses: k.clauses}, impl.Cnf{N: k.n, Clauses: k.want}, true)
	}
	for _, f := range notFormulas() {
		checkLess(t, f, impl.Cnf{}, false)
	}
}

func TestGroups(t *testing.T) {
	for _, k := range []struct {
		n             int
		clauses, want [][]int
	}{
		{0, nil, nil},
		{0, [][]int{{}}, nil},
		{1, nil, [][]int{{1}}},
		{1, [][]int{{}}, [][]int{{1}}},
		{3, nil, [][]int{{1}, {2}, {3}}},
		{3, [][]int{{2}, {-2}, {3, -3, 3}}, [][]int{{1}, {2}, {3}}},
		{2, [][]int{{2, -1}}, [][]int{{1, 2}}},
		{3, [][]int{{-3, 1}, {}}, [][]int{{1, 3}, {2}}},
		{4, [][]int{{4, 1}, {3, 2}}, [][]int{{1, 4}, {2, 3}}},
		{4, [][]int{{4, 1}, {3, 2}, {-1, 1, 3}}, [][]int{{1, 2, 3, 4}}},
		{5, [][]int{{5, 4}, {3, 4}, {1, 3}}, [][]int{{1, 3, 4, 5}, {2}}},
		{6, [][]int{{1, 2}, {3, 4}, {5, 6}, {6, 1}, {2, -2}}, [][]int{{1, 2, 5, 6}, {3, 4}}},
		{7, [][]int{{7, -7, 3}, {2, 2, 6}, {5}}, [][]int{{1}, {2, 6}, {3, 7}, {4}, {5}}},
		{24, nil, singles(1, 24)},
		{24, [][]int{{24, -1}}, append([][]int{{1, 24}}, singles(2, 23)...)},
		{24, [][]int{allLiterals()}, [][]int{upTo(24)}},
		{24, allAlike(24).Clauses, [][]int{upTo(24)}},
		{24, nowhere(24).Clauses, append(singles(1, 21), []int{22, 23, 24})},
	} {
		checkGroups(t, impl.Cnf{N: k.n, Clauses: k.clauses}, k.want...)
	}
	for _, f := range notFormulas() {
		checkGroups(t, f)
	}
}

func TestPart(t *testing.T) {
	f := impl.Cnf{N: 5, Clauses: [][]int{{5, -1}, {2}, {}, {1, -1, 5, 1}, {-3, 2}, {4}, {2}, nil}}
	for _, k := range []struct {
		vars []int
		want [][]int
	}{
		{nil, [][]int{{}, {}}},
		{[]int{0}, [][]int{{}, {}}},
		{[]int{6, 25, -1, -5, math.MaxInt, math.MinInt, 257, 261}, [][]int{{}, {}}},
		{[]int{2}, [][]int{{2}, {}, {2}, {}}},
		{[]int{2, 2, 9, 2, -3}, [][]int{{2}, {}, {2}, {}}},
		{[]int{3}, [][]int{{}, {}}},
		{[]int{3, 2}, [][]int{{2}, {}, {-3, 2}, {2}, {}}},
		{[]int{5, 1}, [][]int{{5, -1}, {}, {1, -1, 5, 1}, {}}},
		{[]int{1, -5}, [][]int{{}, {}}},
		{[]int{4, 5, 1, 4}, [][]int{{5, -1}, {}, {1, -1, 5, 1}, {4}, {}}},
		{[]int{5, 4, 3, 2, 1}, f.Clauses},
		{upTo(100), f.Clauses},
		{repeated(2, 1000), [][]int{{2}, {}, {2}, {}}},
	} {
		checkPart(t, f, k.vars, impl.Cnf{N: 5, Clauses: k.want}, true)
	}
	checkPart(t, impl.Cnf{}, nil, impl.Cnf{}, true)
	checkPart(t, impl.Cnf{}, []int{1}, impl.Cnf{}, true)
	checkPart(t, impl.Cnf{N: 24, Clauses: [][]int{{24}, {-24}}}, []int{24}, impl.Cnf{N: 24, Clauses: [][]int{{24}, {-24}}}, true)
	checkPart(t, repeatedClause(1, []int{-1}, 120), []int{1}, repeatedClause(1, []int{-1}, 120), true)
	checkPart(t, repeatedClause(1, []int{-1}, 120), []int{-1}, impl.Cnf{N: 1}, true)
	for _, f := range notFormulas() {
		checkPart(t, f, nil, impl.Cnf{}, false)
		checkPart(t, f, upTo(24), impl.Cnf{}, false)
	}
}

func TestFlipVar(t *testing.T) {
	f := impl.Cnf{N: 3, Clauses: [][]int{{1, -2, 1}, {}, {3, -3}, {-1, 1}, {1, -2, 1}, {-3, -1}}}
	for v, want := range map[int][][]int{
		1: {{-1, -2, -1}, {}, {3, -3}, {1, -1}, {-1, -2, -1}, {-3, 1}},
		2: {{1, 2, 1}, {}, {3, -3}, {-1, 1}, {1, 2, 1}, {-3, -1}},
		3: {{1, -2, 1}, {}, {-3, 3}, {-1, 1}, {1, -2, 1}, {3, -1}},
	} {
		checkFlip(t, f, v, impl.Cnf{N: 3, Clauses: want}, true)
	}
	checkFlip(t, impl.Cnf{N: 1}, 1, impl.Cnf{N: 1}, true)
	checkFlip(t, impl.Cnf{N: 4, Clauses: [][]int{{1}}}, 4, impl.Cnf{N: 4, Clauses: [][]int{{1}}}, true)
	checkFlip(t, repeatedClause(24, []int{24, -23}, 120), 24, repeatedClause(24, []int{-24, -23}, 120), true)
	checkFlip(t, impl.Cnf{N: 2, Clauses: [][]int{repeated(2, 48)}}, 2, impl.Cnf{N: 2, Clauses: [][]int{repeated(-2, 48)}}, true)
}

func TestSwapVars(t *testing.T) {
	f := impl.Cnf{N: 4, Clauses: [][]int{{1, -2, 1}, {}, {3, -3}, {-1, 2}, {1, -2, 1}, {-3, -1, 4}}}
	for pair, want := range map[[2]int][][]int{
		{1, 2}: {{2, -1, 2}, {}, {3, -3}, {-2, 1}, {2, -1, 2}, {-3, -2, 4}},
		{1, 3}: {{3, -2, 3}, {}, {1, -1}, {-3, 2}, {3, -2, 3}, {-1, -3, 4}},
		{1, 4}: {{4, -2, 4}, {}, {3, -3}, {-4, 2}, {4, -2, 4}, {-3, -4, 1}},
		{3, 4}: {{1, -2, 1}, {}, {4, -4}, {-1, 2}, {1, -2, 1}, {-4, -1, 3}},
	} {
		checkSwap(t, f, pair[0], pair[1], impl.Cnf{N: 4, Clauses: want}, true)
		checkSwap(t, f, pair[1], pair[0], impl.Cnf{N: 4, Clauses: want}, true)
	}
	for v := 1; v <= 4; v++ {
		checkSwap(t, f, v, v, f, true)
	}
	checkSwap(t, impl.Cnf{N: 2}, 1, 2, impl.Cnf{N: 2}, true)
	checkSwap(t, impl.Cnf{N: 24, Clauses: [][]int{{-1}, {24}}}, 24, 1, impl.Cnf{N: 24, Clauses: [][]int{{-24}, {1}}}, true)
	checkSwap(t, repeatedClause(24, []int{24, -23}, 120), 23, 24, repeatedClause(24, []int{23, -24}, 120), true)
}

func TestProject(t *testing.T) {
	for _, k := range []struct {
		n, v, want int
		clauses    [][]int
	}{
		{1, 1, 1, nil}, {1, 1, 1, [][]int{{1}}}, {1, 1, 1, [][]int{{-1}}}, {1, 1, 1, [][]int{{1, -1}}}, {1, 1, 0, [][]int{{1}, {-1}}}, {1, 1, 0, [][]int{{}}},
		{2, 1, 2, [][]int{{1, 2}}}, {2, 1, 1, [][]int{{2}}}, {2, 2, 2, [][]int{{2}}}, {2, 2, 1, [][]int{{1, 2}, {1, -2}}}, {2, 2, 0, [][]int{{2}, {-2}}},
		{3, 2, 3, [][]int{{1, 2}, {-2, 3}}}, {3, 2, 4, [][]int{{2, -2}, {2, 2}}}, {3, 1, 0, [][]int{{2, 3}, {}}}, {3, 3, 1, [][]int{{1}, {-2}}},
		{14, 1, 8192, nil}, {14, 14, 8192, nil}, {14, 7, 8192, [][]int{{7}}}, {14, 14, 4096, [][]int{{13}, {-14}}}, {14, 1, 0, nowhere(14).Clauses}, {14, 13, 0, nowhere(14).Clauses}, {14, 5, 0, [][]int{{}}},
		{14, 1, 2, allAlike(14).Clauses}, {14, 7, 2, allAlike(14).Clauses}, {14, 14, 8191, [][]int{upTo(13)}}, {14, 14, 8192, [][]int{upTo(14)}},
		{15, 1, -1, nil}, {15, 15, -1, [][]int{{15}}}, {15, 1, -1, [][]int{{}}}, {24, 24, -1, nil}, {0, 0, -1, nil}, {0, 1, -1, nil},
	} {
		checkProject(t, impl.Cnf{N: k.n, Clauses: k.clauses}, k.v, k.want)
	}
}

func TestHorn(t *testing.T) {
	for _, k := range []struct {
		want    bool
		clauses [][]int
	}{
		{true, nil}, {true, [][]int{{}}}, {true, [][]int{{1}}}, {true, [][]int{{-1, -2, -3}}}, {true, [][]int{{-1, 2, -3}, {3}, {-1, -1, -1}}},
		{true, [][]int{{1, -1}}}, {true, [][]int{{-1, 1, -1}}}, {true, [][]int{{1}, {2}, {3}}},
		{false, [][]int{{1, 2}}}, {false, [][]int{{1, 1}}}, {false, [][]int{{3, -1, 3}}}, {false, [][]int{{-1}, {1, -1, 2}}}, {false, [][]int{{1, -1, 1}}},
		{false, [][]int{{1, 2, 3}, {-1}}}, {false, [][]int{{}, {1}, {-1, -2, 2, -3, 3}}},
	} {
		checkHorn(t, impl.Cnf{N: 3, Clauses: k.clauses}, k.want)
	}
	checkHorn(t, impl.Cnf{}, true)
	checkHorn(t, repeatedClause(24, append(opposites(upTo(24)), 24), 120), true)
	checkHorn(t, repeatedClause(24, append(opposites(upTo(24)), 24), 121), false)
	for _, f := range notFormulas() {
		checkHorn(t, f, false)
	}
}

func TestOccurs(t *testing.T) {
	f := impl.Cnf{N: 4, Clauses: [][]int{{1, 1, -2}, {}, {2, -2, 1}, {-1}, {-2, -2, -2}, {-1}, {1}}}
	for x, want := range map[int]int{1: 3, -1: 2, 2: 1, -2: 3, 3: 0, -3: 0, 4: 0, -4: 0, 5: 0, -5: 0, 0: 0, 24: 0, 25: 0, 257: 0, -257: 0, math.MaxInt: 0, math.MinInt: 0} {
		checkOccurs(t, f, x, want)
	}
	checkOccurs(t, repeatedClause(24, []int{-24, -24}, 120), -24, 120)
	checkOccurs(t, repeatedClause(24, []int{-24, -24}, 121), -24, 0)
	checkOccurs(t, impl.Cnf{}, 1, 0)
	checkOccurs(t, impl.Cnf{N: 2, Clauses: [][]int{{1, 0}}}, 0, 0)
	for _, f := range notFormulas() {
		for _, x := range []int{1, -1, 2, 0, 3, -3, 257, math.MinInt} {
			checkOccurs(t, f, x, 0)
		}
	}
}

func TestWidth(t *testing.T) {
	for _, k := range []struct {
		n, want int
		clauses [][]int
	}{
		{0, 0, nil}, {24, 0, nil}, {0, 0, [][]int{{}}}, {3, 0, [][]int{{}, nil}}, {3, 1, [][]int{{}, {1}}}, {3, 3, [][]int{{1}, {1, 2, 3}, {2, 1}}}, {3, 3, [][]int{{1}, {2, 1}, {3, -3, 2}}},
		{3, 4, [][]int{{1, 1, 1, 1}, {1, 2, 3}}}, {2, 48, [][]int{{1}, repeated(2, 48), {2}}}, {24, 48, [][]int{allLiterals()}}, {24, 24, [][]int{upTo(24)}},
		{24, -1, [][]int{append(allLiterals(), 1)}}, {2, -1, [][]int{repeated(2, 49)}}, {2, -1, [][]int{{3}}}, {25, -1, nil}, {-1, -1, nil},
	} {
		checkWidth(t, impl.Cnf{N: k.n, Clauses: k.clauses}, k.want)
	}
	for _, f := range notFormulas() {
		checkWidth(t, f, -1)
	}
}

// What is no formula, and what is no variable of one, is refused by each function.
func TestSimpleRefuses(t *testing.T) {
	for _, f := range notFormulas() {
		checkOfFormula(t, f)
		checkSubsume(t, f, impl.Cnf{}, false)
		checkUnits(t, f, impl.Cnf{}, false)
		for _, v := range []int{0, 1, 2, 24, -1} {
			checkEliminate(t, f, v, impl.Cnf{}, false)
			checkFlip(t, f, v, impl.Cnf{}, false)
			checkSwap(t, f, v, 1, impl.Cnf{}, false)
			checkSwap(t, f, 1, v, impl.Cnf{}, false)
			checkProject(t, f, v, -1)
		}
	}
	for n := range 25 {
		f := impl.Cnf{N: n}
		for _, v := range append(edgeNumbers(), -n, n+1, -n-1) {
			if v >= 1 && v <= n {
				continue
			}
			checkEliminate(t, f, v, impl.Cnf{}, false)
			checkFlip(t, f, v, impl.Cnf{}, false)
			checkSwap(t, f, v, v, impl.Cnf{}, false)
			checkSwap(t, f, v, n, impl.Cnf{}, false)
			checkSwap(t, f, n, v, impl.Cnf{}, false)
			checkProject(t, f, v, -1)
		}
	}
}

func TestSimpleAsWorkedOut(t *testing.T) {
	d := &dice{141}
	fs := slices.Concat(edgeFormulas(), proofsFormulas(141, 400))
	for i := range 120 {
		fs = append(fs, d.formula(24, 120, 1+i%4), d.narrow(24, 1+i), d.formula(16+i%9, 40, 48), impl.Cnf{N: d.below(27), Clauses: [][]int{d.edges(4), d.clause(4, 24)}})
	}
	for _, f := range fs {
		checkOfFormula(t, f)
		n := min(max(f.N, 0), 24)
		for range 3 {
			checkOfVariables(t, f, d.below(n+2), d.below(n+2))
			checkPartAsWorkedOut(t, f, d.edges(4))
			vars := d.clause(2*n, n+1)
			checkPartAsWorkedOut(t, f, vars)
			checkPartAsWorkedOut(t, f, slices.Concat(upTo(n/2), vars))
		}
	}
}

// checkTrueWhere asks that g is true just where f is.
func checkTrueWhere(t *testing.T, what string, g impl.Cnf, f impl.Cnf) {
	t.Helper()
	for _, a := range allAssignments(f.N) {
		if impl.CnfTrue(g, a) != formulaAt(f, a) {
			t.Fatalf("%s of %v is %v, which is wrong at %v", what, f, g, a)
		}
	}
}

// Promise 14: a formula without what is subsumed, with its forced literals, is true where it was.
func TestSimplerIsTrueWhereItWas(t *testing.T) {
	shorter, forced, never := 0, 0, 0
	for _, f := range proofsFormulas(142, 900) {
		g, ok := impl.Subsume(f)
		u, okUnits := impl.Units(f)
		l, okLess := impl.Less(f)
		if !ok || !okUnits || !okLess {
			t.Fatalf("%v is refused", f)
		}
		checkTrueWhere(t, "Subsume", g, f)
		checkTrueWhere(t, "Units", u, f)
		checkTrueWhere(t, "Less", l, f)
		s, _ := sortedFormula(f)
		if len(g.Clauses) < len(s.Clauses) {
			shorter++
		}
		list, ok := forceOf(f, nil)
		if ok && len(list) > 0 {
			forced++
		}
		if !ok {
			never++
		}
		again, _ := impl.Subsume(g)
		checkCnf(t, fmt.Sprint("Subsume once more of ", g), again, g.N, g.Clauses...)
	}
	if shorter < 300 || forced < 200 || never < 200 {
		t.Error("too few to tell", shorter, forced, never)
	}
}

// Promise 14: with a variable taken out a formula can be true just when it could; and just with those values of the others.
func TestEliminatedCanBeTrueJustWhenItCould(t *testing.T) {
	can, cannot := 0, 0
	for _, f := range proofsFormulas(143, 500) {
		for v := 1; v <= f.N; v++ {
			g, ok := impl.Eliminate(f, v)
			if !ok {
				t.Fatalf("Eliminate of %v and %d is refused", f, v)
			}
			if impl.Occurs(g, v) != 0 || impl.Occurs(g, -v) != 0 || occursOf(g, v) != 0 || occursOf(g, -v) != 0 {
				t.Errorf("%v without %d: %v", f, v, g)
			}
			if (len(answersOf(g)) > 0) != (len(answersOf(f)) > 0) {
				t.Errorf("%v without %d can be true otherwise: %v", f, v, g)
			}
			count := 0
			for _, others := range allAssignments(f.N - 1) {
				could := formulaAt(f, valuedAt(others, v, 0)) || formulaAt(f, valuedAt(others, v, 1))
				if impl.CnfTrue(g, valuedAt(others, v, 0)) != could || impl.CnfTrue(g, valuedAt(others, v, 1)) != could {
					t.Fatalf("%v without %d is wrong at %v: %v", f, v, others, g)
				}
				if could {
					count++
				}
			}
			checkProject(t, f, v, count)
			checkCount(t, fmt.Sprint("CountTrue of ", g), impl.CountTrue(g), 2*count)
			if count > 0 {
				can++
			} else {
				cannot++
			}
		}
	}
	if can < 500 || cannot < 300 {
		t.Error("too few to tell", can, cannot)
	}
}

// Promise 14: also where there are too many variables to look at every assignment.
func TestEliminatedOfManyVariables(t *testing.T) {
	d := &dice{144}
	taken, refused := 0, 0
	for i := range 200 {
		f := d.narrow(15+i%10, 70+d.below(51))
		v := 1 + d.below(f.N)
		g, ok := impl.Eliminate(f, v)
		if !ok {
			refused++
			continue
		}
		taken++
		_, could := solvedOf(f)
		if _, can := solvedOf(g); can != could || occursOf(g, v)+occursOf(g, -v) != 0 {
			t.Errorf("%v without %d: %v", f, v, g)
		}
	}
	if taken < 40 || refused < 10 {
		t.Error("too few to tell", taken, refused)
	}
}

// sparse has variables of no clause, and clauses of few variables that stand near each other.
func (d *dice) sparse(n int) impl.Cnf {
	f := impl.Cnf{N: n}
	for range d.below(2*n + 1) {
		first := 1 + d.below(n)
		c := []int{}
		for range 1 + d.below(3) {
			c = append(c, min(n, first+d.below(2))*(1-2*d.below(2)))
		}
		f.Clauses = append(f.Clauses, c)
	}
	return f
}

func TestGroupsHaveEachVariableOnce(t *testing.T) {
	d := &dice{145}
	fs := proofsFormulas(145, 300)
	for i := range 900 {
		fs = append(fs, d.sparse(1+i%24))
	}
	several := 0
	for _, f := range fs {
		groups := impl.Groups(f)
		at := map[int]int{}
		least := 0
		for i, group := range groups {
			if len(group) == 0 || !slices.IsSorted(group) || group[0] <= least {
				t.Fatalf("Groups of %v: %v", f, groups)
			}
			least = group[0]
			for _, v := range group {
				if _, met := at[v]; met || v < 1 || v > f.N {
					t.Fatalf("Groups of %v: %v", f, groups)
				}
				at[v] = i
			}
		}
		checkCount(t, fmt.Sprint("variables in the groups of ", f), len(at), f.N)
		for v := 1; v <= f.N; v++ {
			way := groupOf(f, v)
			for w := 1; w <= f.N; w++ {
				if (at[v] == at[w]) != slices.Contains(way, w) {
					t.Errorf("Groups of %v: %v, at %d and %d", f, groups, v, w)
				}
			}
		}
		if len(groups) > 1 && len(groups) < f.N {
			several++
		}
	}
	if several < 300 {
		t.Error("too few to tell", several)
	}
}

// Promise 14: a formula without an empty clause can be true just when each of its groups can.
func TestFormulaCanBeTrueWhenItsGroupsCan(t *testing.T) {
	d := &dice{146}
	fs := proofsFormulas(146, 300)
	for i := range 900 {
		fs = append(fs, d.sparse(1+i%14))
	}
	can, cannot := 0, 0
	for _, f := range fs {
		f.Clauses = slices.DeleteFunc(f.Clauses, func(c []int) bool { return len(c) == 0 })
		all, told := true, 0
		groups := impl.Groups(f)
		for _, group := range groups {
			part, ok := impl.Part(f, group)
			if !ok || part.N != f.N {
				t.Fatalf("Part of %v and %v: %v %v", f, group, part, ok)
			}
			_, ok = impl.Solve(part)
			if _, could := solvedOf(part); could != ok {
				t.Errorf("Solve of %v: %v", part, ok)
			}
			all = all && ok
			told += len(part.Clauses)
		}
		checkCount(t, fmt.Sprint("clauses in the parts of ", f), told, len(f.Clauses))
		if _, could := solvedOf(f); could != all {
			t.Errorf("%v can be true: %v, its groups: %v", f, could, all)
		}
		if len(groups) > 1 && all {
			can++
		}
		if len(groups) > 1 && !all {
			cannot++
		}
	}
	if can < 200 || cannot < 200 {
		t.Error("too few to tell", can, cannot)
	}
}

// Promise 14 of what FlipVar and SwapVars tell: it is true as often as f, where the values of the variables are changed alike.
func TestTurnedIsTrueAsOften(t *testing.T) {
	for _, f := range proofsFormulas(147, 200) {
		often := len(answersOf(f))
		for v := 1; v <= f.N; v++ {
			g, _ := impl.FlipVar(f, v)
			checkCount(t, fmt.Sprint("CountTrue of ", f, " with ", v, " turned"), impl.CountTrue(g), often)
			for _, a := range allAssignments(f.N) {
				turned := slices.Clone(a)
				turned[v-1] = 1 - a[v-1]
				if impl.CnfTrue(g, turned) != formulaAt(f, a) {
					t.Fatalf("%v with %d turned is wrong at %v: %v", f, v, turned, g)
				}
			}
			checkFlip(t, g, v, f, true)
			for w := 1; w <= f.N; w++ {
				h, _ := impl.SwapVars(f, v, w)
				checkCount(t, fmt.Sprint("CountTrue of ", f, " with ", v, " for ", w), impl.CountTrue(h), often)
				for _, a := range allAssignments(f.N) {
					swapped := slices.Clone(a)
					swapped[v-1], swapped[w-1] = a[w-1], a[v-1]
					if impl.CnfTrue(h, swapped) != formulaAt(f, a) {
						t.Fatalf("%v with %d for %d is wrong at %v: %v", f, v, w, swapped, h)
					}
				}
				checkSwap(t, h, w, v, f, true)
			}
		}
	}
}

// Promise 15: every function of the chapter answers at any arguments, and writes into none.
func TestSimpleFunctionsWriteIntoNothing(t *testing.T) {
	d := &dice{148}
	numbers := edgeNumbers()
	fs := slices.Concat(edgeFormulas(), notFormulas(), proofsFormulas(148, 60), []impl.Cnf{allAlike(24), nowhere(24), repeatedClause(3, []int{2, 1}, 120), repeatedClause(3, []int{2}, 120)})
	for range 40 {
		fs = append(fs, d.formula(24, 60, 48), d.narrow(24, 119), d.sparse(24), impl.Cnf{N: d.below(30), Clauses: [][]int{d.edges(5), d.edges(5)}}, impl.Cnf{N: numbers[d.below(len(numbers))], Clauses: [][]int{d.edges(2)}})
	}
	for _, one := range fs {
		f := guardCnf(one)
		made, _ := impl.Subsume(f.f)
		checkApartLists(t, "Subsume", made.Clauses, f)
		made, _ = impl.Units(f.f)
		checkApartLists(t, "Units", made.Clauses, f)
		made, _ = impl.Less(f.f)
		checkApartLists(t, "Less", made.Clauses, f)
		checkApartLists(t, "Groups", impl.Groups(f.f), f)
		impl.Horn(f.f)
		impl.Width(f.f)
		f.check(t, "Horn or Width")
		for _, list := range [][]int{nil, upTo(24), d.edges(9), d.clause(24, 24), append(upTo(d.below(24)), d.edges(3)...)} {
			vars := guard(list)
			made, _ = impl.Part(f.f, vars.list)
			checkApartLists(t, "Part", made.Clauses, f, vars)
		}
		for _, v := range []int{1, one.N, 1 + d.below(24), numbers[d.below(len(numbers))], numbers[d.below(len(numbers))]} {
			w := numbers[d.below(len(numbers))]
			if d.below(2) == 0 {
				w = 1 + d.below(min(max(one.N, 1), 24))
			}
			made, _ = impl.Eliminate(f.f, v)
			checkApartLists(t, "Eliminate", made.Clauses, f)
			made, _ = impl.FlipVar(f.f, v)
			checkApartLists(t, "FlipVar", made.Clauses, f)
			made, _ = impl.SwapVars(f.f, v, w)
			checkApartLists(t, "SwapVars", made.Clauses, f)
			impl.Project(f.f, v)
			impl.Occurs(f.f, v)
			f.check(t, "Project or Occurs")
			checkOfVariables(t, one, v, w)
		}
	}
}

// One list told at several places, and for the variables too, is several lists in an answer.
func TestSimpleOfOneListToldOften(t *testing.T) {
	shared := guard([]int{2, 1, 3})
	f := impl.Cnf{N: 3, Clauses: [][]int{shared.list, shared.list, shared.list}}
	single := guard([]int{1})
	units := impl.Cnf{N: 3, Clauses: [][]int{single.list, shared.list[:2:3], single.list, shared.list[1:]}}
	for _, told := range []func() (impl.Cnf, bool){
		func() (impl.Cnf, bool) { return impl.Subsume(f) },
		func() (impl.Cnf, bool) { return impl.Subsume(units) },
		func() (impl.Cnf, bool) { return impl.Eliminate(f, 1) },
		func() (impl.Cnf, bool) { return impl.Eliminate(units, 2) },
		func() (impl.Cnf, bool) { return impl.Units(f) },
		func() (impl.Cnf, bool) { return impl.Units(units) },
		func() (impl.Cnf, bool) { return impl.Less(f) },
		func() (impl.Cnf, bool) { return impl.Less(units) },
		func() (impl.Cnf, bool) { return impl.Part(f, shared.list) },
		func() (impl.Cnf, bool) { return impl.Part(units, single.list) },
		func() (impl.Cnf, bool) { return impl.FlipVar(f, 1) },
		func() (impl.Cnf, bool) { return impl.SwapVars(f, 1, 3) },
		func() (impl.Cnf, bool) { return impl.SwapVars(units, 2, 2) },
	} {
		made, ok := told()
		if !ok {
			t.Error("refused")
		}
		checkApartLists(t, "a function of one list told often", made.Clauses, shared, single)
	}
	checkApartLists(t, "Groups of one list told often", impl.Groups(f), shared)
}

// Nothing is kept from one call to another: calls at the same time answer as one alone does.
func TestSimpleAtTheSameTime(t *testing.T) {
	d := &dice{149}
	fs := append(proofsFormulas(149, 10), d.narrow(24, 100), d.sparse(24))
	var group sync.WaitGroup
	for i := range 8 {
		group.Go(func() {
			for at := range fs {
				f := fs[(at+i)%len(fs)]
				checkOfFormula(t, f)
				checkOfVariables(t, f, 1+i%3, 1+at%3)
				checkPartAsWorkedOut(t, f, upTo(i))
			}
		})
	}
	group.Wait()
}
