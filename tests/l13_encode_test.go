package tests

import (
	"fmt"
	"math"
	"slices"
	"sync"
	"testing"

	"loop.example/g00123/impl"
)

// isList is for what the chapter calls a list: at most 24 literals.
func isList(list []int) bool {
	return len(list) <= 24 && isClause(list)
}

// subsetsOf counts the places of a subset up, as the figures of a counter.
func subsetsOf(list []int, size int) [][]int {
	if size > len(list) {
		return nil
	}
	places := make([]int, size)
	for i := range places {
		places[i] = i
	}
	var out [][]int
	for {
		subset := make([]int, size)
		for i, at := range places {
			subset[i] = list[at]
		}
		out = append(out, subset)
		turn := size - 1
		for turn >= 0 && places[turn] == len(list)-size+turn {
			turn--
		}
		if turn < 0 {
			return out
		}
		places[turn]++
		for i := turn + 1; i < size; i++ {
			places[i] = places[i-1] + 1
		}
	}
}

// subsetsAsked is how many subsets there are, worked out without telling them.
func subsetsAsked(n int, size int) int {
	if size > n {
		return 0
	}
	count := 1
	for i := range size {
		count = count * (n - i) / (i + 1)
	}
	return count
}

// subsetClauses refuses what has too many subsets.
func subsetClauses(list []int, size int) ([][]int, bool) {
	if subsetsAsked(len(list), size) > 120 {
		return nil, false
	}
	return subsetsOf(list, size), true
}

func atMostOf(list []int, k int) ([][]int, bool) {
	switch {
	case !isList(list) || k < 0:
		return nil, false
	case k >= len(list):
		return nil, true
	}
	return subsetClauses(opposites(list), k+1)
}

func atLeastOf(list []int, k int) ([][]int, bool) {
	switch {
	case !isList(list):
		return nil, false
	case k < 1:
		return nil, true
	case k > len(list):
		return [][]int{{}}, true
	}
	return subsetClauses(list, len(list)-k+1)
}

func exactlyOf(list []int, k int) ([][]int, bool) {
	least, okLeast := atLeastOf(list, k)
	most, okMost := atMostOf(list, k)
	if !okLeast || !okMost || len(least)+len(most) > 120 {
		return nil, false
	}
	return slices.Concat(least, most), true
}

func parityOf(list []int, odd bool) ([][]int, bool) {
	if !isList(list) || len(list) > 7 {
		return nil, false
	}
	var out [][]int
	for _, way := range allAssignments(len(list)) {
		c, trues := []int{}, 0
		for i, value := range way {
			trues += value
			c = append(c, list[i]*(1-2*value))
		}
		if (trues%2 == 1) != odd {
			out = append(out, c)
		}
	}
	return out, true
}

func andOf(x int, list []int) ([][]int, bool) {
	if !isLiteral(x) || !isList(list) {
		return nil, false
	}
	var out [][]int
	last := []int{x}
	for _, y := range list {
		out = append(out, []int{-x, y})
		last = append(last, -y)
	}
	return append(out, last), true
}

func sameOf(x int, y int) ([][]int, bool) {
	if !isLiteral(x) || !isLiteral(y) {
		return nil, false
	}
	return [][]int{{-x, y}, {x, -y}}, true
}

func ifOf(x int, a int, b int, c int) ([][]int, bool) {
	if !isClause([]int{x, a, b, c}) {
		return nil, false
	}
	return [][]int{{-a, -b, x}, {-a, b, -x}, {a, -c, x}, {a, c, -x}}, true
}

func pigeonOf(n int) (impl.Cnf, bool) {
	if n < 1 || n > 4 {
		return impl.Cnf{}, false
	}
	f := impl.Cnf{N: n * (n + 1)}
	for first := 1; first <= f.N; first += n {
		var c []int
		for x := first; x < first+n; x++ {
			c = append(c, x)
		}
		f.Clauses = append(f.Clauses, c)
	}
	for place := 1; place <= n; place++ {
		for x := place; x <= f.N; x += n {
			for y := x + n; y <= f.N; y += n {
				f.Clauses = append(f.Clauses, []int{-x, -y})
			}
		}
	}
	return f, true
}

func colorOf(n int, edges [][2]int, k int) (impl.Cnf, bool) {
	if n < 1 || n > 12 || k < 1 || k > 6 || n*k > 24 {
		return impl.Cnf{}, false
	}
	f := impl.Cnf{N: n * k}
	for i := range n {
		var c []int
		for x := i*k + 1; x <= i*k+k; x++ {
			c = append(c, x)
		}
		f.Clauses = append(f.Clauses, c)
		for p := range c {
			for q := p + 1; q < k; q++ {
				f.Clauses = append(f.Clauses, []int{-c[p], -c[q]})
			}
		}
	}
	for _, e := range edges {
		if e[0] < 1 || e[0] > n || e[1] < 1 || e[1] > n || e[0] == e[1] {
			return impl.Cnf{}, false
		}
		for c := range k {
			f.Clauses = append(f.Clauses, []int{k - k*e[0] - c - 1, k - k*e[1] - c - 1})
		}
	}
	if len(f.Clauses) > 120 {
		return impl.Cnf{}, false
	}
	return f, true
}

// colourings counts the ways to give each of n points one of k colours so that no edge has one colour at both ends.
func colourings(n int, edges [][2]int, k int) int {
	count := 0
	given := make([]int, n)
	var give func(point int)
	give = func(point int) {
		if point == n {
			count++
			return
		}
		for c := range k {
			given[point] = c
			bad := slices.ContainsFunc(edges, func(e [2]int) bool {
				return max(e[0], e[1]) == point+1 && given[e[0]-1] == given[e[1]-1]
			})
			if !bad {
				give(point + 1)
			}
		}
	}
	give(0)
	return count
}

// onOf counts place by place; lists that are no assignments have tests of their own.
func onOf(list []int, a []int) int {
	count := 0
	for _, x := range list {
		if literalAt(x, a) {
			count++
		}
	}
	return count
}

func allAt(clauses [][]int, a []int) bool {
	return formulaAt(impl.Cnf{Clauses: clauses}, a)
}

func checkAtMost(t *testing.T, list []int, k int, want [][]int, wantOk bool) {
	t.Helper()
	got, ok := impl.AtMost(list, k)
	checkLists(t, fmt.Sprint("AtMost ", k, " of ", list), got, ok, want, wantOk)
}

func checkAtLeast(t *testing.T, list []int, k int, want [][]int, wantOk bool) {
	t.Helper()
	got, ok := impl.AtLeast(list, k)
	checkLists(t, fmt.Sprint("AtLeast ", k, " of ", list), got, ok, want, wantOk)
}

func checkExactly(t *testing.T, list []int, k int, want [][]int, wantOk bool) {
	t.Helper()
	got, ok := impl.Exactly(list, k)
	checkLists(t, fmt.Sprint("Exactly ", k, " of ", list), got, ok, want, wantOk)
}

func checkParity(t *testing.T, list []int, odd bool, want [][]int, wantOk bool) {
	t.Helper()
	got, ok := impl.Parity(list, odd)
	checkLists(t, fmt.Sprint("Parity of ", list, ", odd ", odd), got, ok, want, wantOk)
}

func checkAnd(t *testing.T, x int, list []int, want [][]int, wantOk bool) {
	t.Helper()
	got, ok := impl.AndGate(x, list)
	checkLists(t, fmt.Sprint("AndGate of ", x, " and ", list), got, ok, want, wantOk)
}

func checkSame(t *testing.T, x int, y int, want [][]int, wantOk bool) {
	t.Helper()
	got, ok := impl.Same(x, y)
	checkLists(t, fmt.Sprint("Same of ", x, " ", y), got, ok, want, wantOk)
}

func checkIf(t *testing.T, x int, a int, b int, c int, want [][]int, wantOk bool) {
	t.Helper()
	got, ok := impl.IfGate(x, a, b, c)
	checkLists(t, fmt.Sprint("IfGate of ", x, " ", a, " ", b, " ", c), got, ok, want, wantOk)
}

func checkColor(t *testing.T, n int, edges [][2]int, k int, want impl.Cnf, wantOk bool) {
	t.Helper()
	got, ok := impl.Color(n, edges, k)
	what := fmt.Sprint("Color of ", n, " points, ", edges, ", ", k, " colours")
	checkCnf(t, what, got, want.N, want.Clauses...)
	if ok != wantOk {
		t.Errorf("%s: %v", what, ok)
	}
}

func checkColorAsWorkedOut(t *testing.T, n int, edges [][2]int, k int) bool {
	t.Helper()
	want, ok := colorOf(n, edges, k)
	checkColor(t, n, edges, k, want, ok)
	return ok
}

// checkCounted holds all that counts in a list against what is worked out.
func checkCounted(t *testing.T, list []int, k int) {
	t.Helper()
	want, ok := atMostOf(list, k)
	checkAtMost(t, list, k, want, ok)
	want, ok = atLeastOf(list, k)
	checkAtLeast(t, list, k, want, ok)
	want, ok = exactlyOf(list, k)
	checkExactly(t, list, k, want, ok)
}

// checkOfList asks all functions of a list.
func checkOfList(t *testing.T, list []int) {
	t.Helper()
	n := len(list)
	for _, k := range []int{math.MinInt, math.MinInt + 1, -2, -1, 0, 1, 2, 3, n / 2, n - 2, n - 1, n, n + 1, n + 2, 24, 25, 121, math.MaxInt - 1, math.MaxInt} {
		checkCounted(t, list, k)
	}
	for _, odd := range []bool{true, false} {
		want, ok := parityOf(list, odd)
		checkParity(t, list, odd, want, ok)
	}
	for _, x := range []int{1, -2, 24, -24} {
		want, ok := andOf(x, list)
		checkAnd(t, x, list, want, ok)
	}
}

// notLists are none of the chapter's; each would have clauses, but for one number or for its length.
func notLists() [][]int {
	out := [][]int{append(upTo(24), 1), append(upTo(24), -24), repeated(3, 25), repeated(-1, 48), repeated(1, 49), repeated(1, 200), upTo(25)}
	for _, x := range edgeNumbers() {
		if !isLiteral(x) {
			out = append(out, []int{x}, []int{x, 1}, []int{1, x}, []int{1, x, -2}, append(upTo(23), x), append(upTo(6), x))
		}
	}
	return out
}

func TestAtMost(t *testing.T) {
	for _, k := range []struct {
		list []int
		k    int
		want [][]int
	}{
		{nil, 0, nil}, {nil, 1, nil}, {nil, math.MaxInt, nil}, {[]int{5}, 0, [][]int{{-5}}}, {[]int{-5}, 0, [][]int{{5}}}, {[]int{5}, 1, nil}, {[]int{5}, math.MaxInt, nil},
		{[]int{3, -1, 2}, 0, [][]int{{-3}, {1}, {-2}}}, {[]int{3, -1, 2}, 1, [][]int{{-3, 1}, {-3, -2}, {1, -2}}}, {[]int{3, -1, 2}, 2, [][]int{{-3, 1, -2}}}, {[]int{3, -1, 2}, 3, nil}, {[]int{3, -1, 2}, 4, nil},
		{[]int{1, 2, 3, 4}, 1, [][]int{{-1, -2}, {-1, -3}, {-1, -4}, {-2, -3}, {-2, -4}, {-3, -4}}}, {[]int{4, 3, 2, 1}, 2, [][]int{{-4, -3, -2}, {-4, -3, -1}, {-4, -2, -1}, {-3, -2, -1}}},
		// A variable told twice is told at two places.
		{[]int{1, 1}, 0, [][]int{{-1}, {-1}}}, {[]int{1, 1}, 1, [][]int{{-1, -1}}}, {[]int{1, -1}, 1, [][]int{{-1, 1}}}, {[]int{-1, 1, -1}, 1, [][]int{{1, -1}, {1, 1}, {-1, 1}}},
		{repeated(-24, 24), 23, [][]int{repeated(24, 24)}}, {repeated(-24, 24), 24, nil}, {repeated(-24, 24), 0, times([]int{24}, 24)}, {upTo(24), math.MaxInt - 1, nil},
	} {
		checkAtMost(t, k.list, k.k, k.want, true)
	}
	for _, k := range []int{-1, -2, math.MinInt, math.MinInt + 1} {
		checkAtMost(t, nil, k, nil, false)
		checkAtMost(t, []int{1, 2}, k, nil, false)
	}
}

func TestAtLeast(t *testing.T) {
	none := [][]int{{}}
	for _, k := range []struct {
		list []int
		k    int
		want [][]int
	}{
		{nil, 0, nil}, {nil, -1, nil}, {nil, math.MinInt, nil}, {nil, 1, none}, {nil, 2, none}, {nil, math.MaxInt, none},
		{[]int{-5}, 1, [][]int{{-5}}}, {[]int{5}, 0, nil}, {[]int{5}, -7, nil}, {[]int{5}, math.MinInt, nil}, {[]int{5}, 2, none}, {[]int{5}, 3, none}, {[]int{5}, math.MaxInt, none},
		{[]int{3, -1, 2}, 1, [][]int{{3, -1, 2}}}, {[]int{3, -1, 2}, 2, [][]int{{3, -1}, {3, 2}, {-1, 2}}}, {[]int{3, -1, 2}, 3, [][]int{{3}, {-1}, {2}}}, {[]int{3, -1, 2}, 4, none},
		{[]int{4, 3, 2, 1}, 2, [][]int{{4, 3, 2}, {4, 3, 1}, {4, 2, 1}, {3, 2, 1}}},
		// A variable told twice is told at two places.
		{[]int{1, 1}, 1, [][]int{{1, 1}}}, {[]int{1, 1}, 2, [][]int{{1}, {1}}}, {[]int{1, -1}, 1, [][]int{{1, -1}}}, {[]int{-1, 1, -1}, 2, [][]int{{-1, 1}, {-1, -1}, {1, -1}}},
		{repeated(-24, 24), 1, [][]int{repeated(-24, 24)}}, {repeated(-24, 24), 24, times([]int{-24}, 24)}, {repeated(-24, 24), 25, none}, {upTo(24), math.MaxInt, none}, {upTo(24), 0, nil},
	} {
		checkAtLeast(t, k.list, k.k, k.want, true)
	}
}

func TestExactly(t *testing.T) {
	for _, k := range []struct {
		list []int
		k    int
		want [][]int
	}{
		{nil, 0, nil}, {nil, 1, [][]int{{}}}, {nil, math.MaxInt, [][]int{{}}}, {[]int{-5}, 0, [][]int{{5}}}, {[]int{-5}, 1, [][]int{{-5}}}, {[]int{-5}, 2, [][]int{{}}}, {[]int{-5}, math.MaxInt, [][]int{{}}},
		{[]int{3, -1, 2}, 0, [][]int{{-3}, {1}, {-2}}}, {[]int{3, -1, 2}, 1, [][]int{{3, -1, 2}, {-3, 1}, {-3, -2}, {1, -2}}}, {[]int{3, -1, 2}, 2, [][]int{{3, -1}, {3, 2}, {-1, 2}, {-3, 1, -2}}}, {[]int{3, -1, 2}, 3, [][]int{{3}, {-1}, {2}}}, {[]int{3, -1, 2}, 4, [][]int{{}}},
		{[]int{1, 1}, 1, [][]int{{1, 1}, {-1, -1}}}, {[]int{1, -1}, 1, [][]int{{1, -1}, {-1, 1}}}, {[]int{1, -1}, 2, [][]int{{1}, {-1}}}, {[]int{1, -1}, 0, [][]int{{-1}, {1}}},
	} {
		checkExactly(t, k.list, k.k, k.want, true)
	}
	// AtLeast takes what is below 0, AtMost does not.
	for _, k := range []int{-1, -2, math.MinInt} {
		checkExactly(t, nil, k, nil, false)
		checkExactly(t, []int{1, 2}, k, nil, false)
	}
}

// At the limit of clauses each condition has as many as there are subsets; beyond it nothing is told.
func TestCountedAtMaxClauses(t *testing.T) {
	for _, k := range []struct {
		n, k                 int
		most, least, exactly int
	}{
		{16, 1, 120, 1, -1}, {17, 1, -1, 1, -1}, {15, 1, 105, 1, 106}, {10, 2, 120, 10, -1}, {11, 2, -1, 11, -1}, {10, 3, -1, 45, -1}, {9, 2, 84, 9, 93}, {9, 3, -1, 36, -1}, {9, 6, 36, -1, -1},
		{16, 15, 1, 120, -1}, {17, 16, 1, -1, -1}, {15, 14, 1, 105, 106}, {10, 8, 10, 120, -1}, {10, 7, 45, -1, -1}, {10, 4, -1, 120, -1}, {10, 6, 120, -1, -1}, {8, 4, 56, 56, 112}, {8, 3, 70, 28, 98}, {8, 5, 28, 70, 98},
		{16, 3, -1, 120, -1}, {16, 13, 120, -1, -1}, {16, 14, 16, -1, -1}, {17, 14, -1, -1, -1}, {17, 3, -1, -1, -1}, {24, 0, 24, 0, 24}, {24, 1, -1, 1, -1}, {24, 2, -1, 24, -1}, {24, 3, -1, -1, -1}, {24, 12, -1, -1, -1},
		{24, 21, -1, -1, -1}, {24, 22, 24, -1, -1}, {24, 23, 1, -1, -1}, {24, 24, 0, 24, 24}, {24, 25, 0, 1, 1}, {24, -1, -1, 0, -1},
	} {
		for _, list := range [][]int{upTo(k.n), opposites(upTo(k.n)), repeated(7, k.n)} {
			many := []int{k.most, k.least, k.exactly}
			for i, of := range []func([]int, int) ([][]int, bool){impl.AtMost, impl.AtLeast, impl.Exactly} {
				got, ok := of(list, k.k)
				if ok != (many[i] >= 0) || len(got) != max(many[i], 0) {
					t.Errorf("condition %d of %v with %d: %d clauses, %v, want %d", i, list, k.k, len(got), ok, many[i])
				}
			}
			checkCounted(t, list, k.k)
		}
	}
}

func TestListsThatAreNone(t *testing.T) {
	for _, list := range notLists() {
		for _, k := range []int{-1, 0, 1, 2, len(list) - 1, len(list), len(list) + 1, math.MaxInt} {
			checkAtMost(t, list, k, nil, false)
			checkAtLeast(t, list, k, nil, false)
			checkExactly(t, list, k, nil, false)
		}
		checkParity(t, list, true, nil, false)
		checkParity(t, list, false, nil, false)
		checkAnd(t, 1, list, nil, false)
		checkAnd(t, 0, list, nil, false)
	}
}

func TestParity(t *testing.T) {
	for _, k := range []struct {
		list []int
		odd  bool
		want [][]int
	}{
		{nil, true, [][]int{{}}}, {nil, false, nil}, {[]int{4}, true, [][]int{{4}}}, {[]int{4}, false, [][]int{{-4}}}, {[]int{-4}, true, [][]int{{-4}}}, {[]int{-4}, false, [][]int{{4}}},
		{[]int{2, -1}, true, [][]int{{2, -1}, {-2, 1}}}, {[]int{2, -1}, false, [][]int{{2, 1}, {-2, -1}}},
		{[]int{1, 2, 3}, true, [][]int{{1, 2, 3}, {1, -2, -3}, {-1, 2, -3}, {-1, -2, 3}}}, {[]int{1, 2, 3}, false, [][]int{{1, 2, -3}, {1, -2, 3}, {-1, 2, 3}, {-1, -2, -3}}},
		{[]int{1, 1}, true, [][]int{{1, 1}, {-1, -1}}}, {[]int{1, 1}, false, [][]int{{1, -1}, {-1, 1}}}, {[]int{1, -1}, true, [][]int{{1, -1}, {-1, 1}}}, {[]int{1, -1}, false, [][]int{{1, 1}, {-1, -1}}},
	} {
		checkParity(t, k.list, k.odd, k.want, true)
	}
	for _, odd := range []bool{true, false} {
		for n := range 8 {
			want, _ := parityOf(upTo(n), odd)
			checkParity(t, upTo(n), odd, want, true)
			if n > 0 && len(want) != 1<<(n-1) {
				t.Errorf("%d clauses of %d", len(want), n)
			}
		}
		for n := 8; n <= 26; n++ {
			checkParity(t, upTo(min(n, 24)), odd, nil, false)
			checkParity(t, repeated(1, n), odd, nil, false)
		}
	}
}

func TestGates(t *testing.T) {
	checkSame(t, 1, 2, [][]int{{-1, 2}, {1, -2}}, true)
	checkSame(t, -24, 3, [][]int{{24, 3}, {-24, -3}}, true)
	checkSame(t, 5, 5, [][]int{{-5, 5}, {5, -5}}, true)
	checkSame(t, 5, -5, [][]int{{-5, -5}, {5, 5}}, true)
	checkAnd(t, 3, nil, [][]int{{3}}, true)
	checkAnd(t, -3, nil, [][]int{{-3}}, true)
	checkAnd(t, 4, []int{2}, [][]int{{-4, 2}, {4, -2}}, true)
	checkAnd(t, -4, []int{2, -1, 3}, [][]int{{4, 2}, {4, -1}, {4, 3}, {-4, -2, 1, -3}}, true)
	checkAnd(t, 1, []int{2, 1, 2}, [][]int{{-1, 2}, {-1, 1}, {-1, 2}, {1, -2, -1, -2}}, true)
	checkAnd(t, 1, []int{-1}, [][]int{{-1, -1}, {1, 1}}, true)
	checkAnd(t, 1, []int{2, -2}, [][]int{{-1, 2}, {-1, -2}, {1, -2, 2}}, true)
	checkAnd(t, 24, repeated(24, 24), append(times([]int{-24, 24}, 24), append([]int{24}, repeated(-24, 24)...)), true)
	whole, ok := andOf(-24, upTo(24))
	checkAnd(t, -24, upTo(24), whole, ok)
	if !ok || len(whole) != 25 || len(whole[24]) != 25 {
		t.Error("all variables", whole)
	}
	checkIf(t, 4, 1, 2, 3, [][]int{{-1, -2, 4}, {-1, 2, -4}, {1, -3, 4}, {1, 3, -4}}, true)
	checkIf(t, -24, -1, 2, -3, [][]int{{1, -2, -24}, {1, 2, 24}, {-1, 3, -24}, {-1, -3, 24}}, true)
	checkIf(t, 1, 1, 1, 1, [][]int{{-1, -1, 1}, {-1, 1, -1}, {1, -1, 1}, {1, 1, -1}}, true)
	checkIf(t, 1, 2, 3, 3, [][]int{{-2, -3, 1}, {-2, 3, -1}, {2, -3, 1}, {2, 3, -1}}, true)
	checkIf(t, 1, 2, 3, -3, [][]int{{-2, -3, 1}, {-2, 3, -1}, {2, 3, 1}, {2, -3, -1}}, true)
}

func TestGatesOfEveryLiteral(t *testing.T) {
	for _, x := range edgeNumbers() {
		for _, list := range [][]int{nil, {x}, {-3, 2}, upTo(24)} {
			want, ok := andOf(x, list)
			checkAnd(t, x, list, want, ok)
		}
		for _, y := range edgeNumbers() {
			want, ok := sameOf(x, y)
			checkSame(t, x, y, want, ok)
			for _, at := range [][]int{{x, y, 1, -2}, {1, x, y, 3}, {-1, 2, x, y}, {y, 3, -2, x}, {x, x, y, y}} {
				want, ok := ifOf(at[0], at[1], at[2], at[3])
				checkIf(t, at[0], at[1], at[2], at[3], want, ok)
			}
		}
	}
	none := 0
	for _, x := range edgeNumbers() {
		if isLiteral(x) {
			continue
		}
		none++
		checkSame(t, x, 1, nil, false)
		checkSame(t, 1, x, nil, false)
		checkAnd(t, x, nil, nil, false)
		checkAnd(t, x, []int{1}, nil, false)
		checkIf(t, x, 1, 2, 3, nil, false)
		checkIf(t, 1, x, 2, 3, nil, false)
		checkIf(t, 1, 2, x, 3, nil, false)
		checkIf(t, 1, 2, 3, x, nil, false)
	}
	if none < 20 {
		t.Error("too few to tell", none)
	}
}

func TestConditionsAsWorkedOut(t *testing.T) {
	d := &dice{131}
	for n := range 25 {
		checkOfList(t, upTo(n))
		for _, vars := range []int{1, 3, 24} {
			for range 3 {
				list := d.clause(0, vars)
				for range n {
					list = append(list, (d.below(vars)+1)*(1-2*d.below(2)))
				}
				checkOfList(t, list)
			}
		}
	}
	for range 300 {
		checkOfList(t, d.edges(26))
	}
}

// Promise 13: clauses of a number of literals are true just where so many are.
func TestCountedIsTrueJustWhereSoManyAre(t *testing.T) {
	d := &dice{132}
	met, missed, refused := 0, 0, 0
	for i := range 150 {
		vars := 1 + i%5
		list := d.clause(9, vars)
		at := allAssignments(vars)
		for k := -1; k <= len(list)+2; k++ {
			most, okMost := impl.AtMost(list, k)
			least, okLeast := impl.AtLeast(list, k)
			exact, okExact := impl.Exactly(list, k)
			if !okMost || !okLeast || !okExact {
				refused++
			}
			for _, a := range at {
				on := impl.CountOn(list, a)
				if on != onOf(list, a) {
					t.Fatalf("CountOn of %v at %v: %d", list, a, on)
				}
				if okMost && allAt(most, a) != (on <= k) || okLeast && allAt(least, a) != (on >= k) || okExact && allAt(exact, a) != (on == k) {
					t.Errorf("%d of %v, at %v: %v %v %v", k, list, a, most, least, exact)
				}
				if okExact && on == k {
					met++
				} else if okExact {
					missed++
				}
			}
		}
	}
	if met < 1000 || missed < 1000 || refused < 100 {
		t.Error("too few to tell", met, missed, refused)
	}
}

// Promise 13: clauses of a parity are true just where it is, and those of odd and even never both.
func TestParityIsTrueJustWhereItIs(t *testing.T) {
	d := &dice{133}
	odds, evens := 0, 0
	for i := range 200 {
		vars := 1 + i%7
		list := d.clause(7, vars)
		odd, okOdd := impl.Parity(list, true)
		even, okEven := impl.Parity(list, false)
		if !okOdd || !okEven {
			t.Fatal("refused", list)
		}
		for _, a := range allAssignments(vars) {
			isOdd := impl.CountOn(list, a)%2 == 1
			if allAt(odd, a) != isOdd || allAt(even, a) == isOdd {
				t.Errorf("Parity of %v at %v: %v %v", list, a, odd, even)
			}
			if isOdd {
				odds++
			} else {
				evens++
			}
		}
		if count := impl.CountTrue(impl.Cnf{N: vars, Clauses: slices.Concat(odd, even)}); count > 0 {
			t.Errorf("%v is odd and even at %d assignments", list, count)
		}
	}
	if odds < 1000 || evens < 1000 {
		t.Error("too few to tell", odds, evens)
	}
}

// Promise 13: clauses of a gate are true just where its output is what it should be.
func TestGatesAreTrueJustWhereTheOutputIsRight(t *testing.T) {
	d := &dice{134}
	right, wrong := 0, 0
	for i := range 400 {
		vars := 1 + i%6
		in := func() int { return (d.below(vars) + 1) * (1 - 2*d.below(2)) }
		x, a, b, c, list := in(), in(), in(), in(), d.clause(6, vars)
		same, _ := impl.Same(x, a)
		and, _ := impl.AndGate(x, list)
		choice, _ := impl.IfGate(x, a, b, c)
		for _, at := range allAssignments(vars) {
			out, chosen := literalAt(x, at), literalAt(c, at)
			if literalAt(a, at) {
				chosen = literalAt(b, at)
			}
			all := onOf(list, at) == len(list)
			for n, clauses := range [][][]int{same, and, choice} {
				should := []bool{literalAt(a, at), all, chosen}[n]
				if allAt(clauses, at) != (out == should) {
					t.Errorf("gate %d of %d, %d %d %d, %v at %v: %v", n, x, a, b, c, list, at, clauses)
				}
				if out == should {
					right++
				} else {
					wrong++
				}
			}
		}
	}
	if right < 1000 || wrong < 1000 {
		t.Error("too few to tell", right, wrong)
	}
}

func checkPigeon(t *testing.T, n int) {
	t.Helper()
	want, wantOk := pigeonOf(n)
	got, ok := impl.Pigeon(n)
	checkCnf(t, fmt.Sprint("Pigeon of ", n), got, want.N, want.Clauses...)
	if ok != wantOk {
		t.Errorf("Pigeon of %d: %v", n, ok)
	}
}

// Promise 13: one thing more than places cannot be placed.
func TestPigeon(t *testing.T) {
	for n := 1; n <= 4; n++ {
		checkPigeon(t, n)
		f, ok := impl.Pigeon(n)
		if !ok || f.N != n*(n+1) || len(f.Clauses) != n+1+n*n*(n+1)/2 || !isFormula(f) {
			t.Errorf("Pigeon of %d: %v %v", n, f, ok)
		}
		a, ok := impl.Solve(f)
		checkNone(t, fmt.Sprint("Solve of Pigeon of ", n), a, ok)
		for range answersDown(f) {
			t.Fatalf("Pigeon of %d can be true", n)
		}
		// As many things as places can be placed, whichever is left out.
		for left := range n + 1 {
			less := impl.Cnf{N: f.N, Clauses: slices.Delete(slices.Clone(f.Clauses), left, left+1)}
			if _, ok := impl.Solve(less); !ok {
				t.Errorf("%d things without thing %d cannot be placed", n+1, left+1)
			}
		}
	}
	f, _ := impl.Pigeon(2)
	checkCnf(t, "Pigeon of 2", f, 6, []int{1, 2}, []int{3, 4}, []int{5, 6}, []int{-1, -3}, []int{-1, -5}, []int{-3, -5}, []int{-2, -4}, []int{-2, -6}, []int{-4, -6})
	for _, n := range append(edgeNumbers(), 3, 4, 5, 6) {
		checkPigeon(t, n)
	}
}

func TestColor(t *testing.T) {
	for _, k := range []struct {
		n     int
		edges [][2]int
		k     int
		want  [][]int
	}{
		{1, nil, 1, [][]int{{1}}}, {1, nil, 2, [][]int{{1, 2}, {-1, -2}}}, {2, nil, 1, [][]int{{1}, {2}}}, {2, [][2]int{{1, 2}}, 1, [][]int{{1}, {2}, {-1, -2}}},
		{1, nil, 3, [][]int{{1, 2, 3}, {-1, -2}, {-1, -3}, {-2, -3}}},
		// An edge is told as it stands: twice, or from its greater end on.
		{2, [][2]int{{1, 2}, {2, 1}, {1, 2}}, 2, [][]int{{1, 2}, {-1, -2}, {3, 4}, {-3, -4}, {-1, -3}, {-2, -4}, {-3, -1}, {-4, -2}, {-1, -3}, {-2, -4}}},
		{3, [][2]int{{3, 1}, {2, 3}}, 2, [][]int{{1, 2}, {-1, -2}, {3, 4}, {-3, -4}, {5, 6}, {-5, -6}, {-5, -1}, {-6, -2}, {-3, -5}, {-4, -6}}},
	} {
		checkColor(t, k.n, k.edges, k.k, impl.Cnf{N: k.n * k.k, Clauses: k.want}, true)
		checkColorAsWorkedOut(t, k.n, k.edges, k.k)
	}
}

func TestColorAtTheEdges(t *testing.T) {
	numbers := append(edgeNumbers(), 3, 4, 5, 6, 7, 8, 9, 11, 12, 13, math.MaxInt/6+1, math.MinInt/2)
	for _, n := range numbers {
		for _, k := range numbers {
			taken := n >= 1 && n <= 12 && k >= 1 && k <= 6 && n*k <= 24
			if checkColorAsWorkedOut(t, n, nil, k) != taken {
				t.Errorf("%d points with %d colours", n, k)
			}
		}
		for _, m := range numbers {
			// Ends of 0, n, n + 1 and far beyond, ahead of good edges and behind.
			taken := min(n, m) >= 1 && max(n, m) <= 5 && n != m
			for _, edges := range [][][2]int{{{n, m}}, {{n, m}, {1, 2}}, {{1, 2}, {5, 4}, {n, m}}} {
				if checkColorAsWorkedOut(t, 5, edges, 2) != taken {
					t.Errorf("an edge of %d and %d", n, m)
				}
			}
		}
		checkColor(t, 1, [][2]int{{1, n}}, 1, impl.Cnf{}, false)
		checkColor(t, 3, [][2]int{{n, n}}, 3, impl.Cnf{}, false)
	}
}

// edgesOf tells many edges of n points, over and over.
func edgesOf(n int, many int) [][2]int {
	var out [][2]int
	for i := range many {
		one := i%n + 1
		out = append(out, [2]int{one, (one+i/n%(n-1))%n + 1})
	}
	return out
}

func TestColorAtMaxClauses(t *testing.T) {
	for _, k := range []struct{ n, k, most int }{
		{12, 2, 48}, {12, 1, 108}, {2, 1, 118}, {2, 2, 58}, {8, 3, 29}, {6, 4, 19}, {4, 6, 9}, {4, 5, 15}, {3, 6, 12}, {2, 6, 14}, {2, 4, 26}, {3, 3, 36},
	} {
		for many := k.most - 1; many <= k.most+2; many++ {
			if checkColorAsWorkedOut(t, k.n, edgesOf(k.n, many), k.k) != (many <= k.most) {
				t.Errorf("%d edges of %d points with %d colours", many, k.n, k.k)
			}
		}
		for _, many := range []int{119, 120, 121, 122, 200, 5000} {
			checkColor(t, k.n, edgesOf(k.n, many), k.k, impl.Cnf{}, false)
		}
	}
	for _, k := range []struct{ n, edges, k int }{{12, 48, 2}, {12, 108, 1}, {2, 58, 2}, {3, 36, 3}, {8, 29, 3}} {
		if f, ok := impl.Color(k.n, edgesOf(k.n, k.edges), k.k); !ok || k.n != 8 && len(f.Clauses) != 120 {
			t.Errorf("%v: %d clauses, %v", k, len(f.Clauses), ok)
		}
	}
}

// graph has edges of n points, now and then one twice, and both ways round.
func (d *dice) graph(n int, most int) [][2]int {
	var out [][2]int
	if n < 2 {
		return out
	}
	for range d.below(most + 1) {
		one := 1 + d.below(n)
		out = append(out, [2]int{one, (one+d.below(n-1))%n + 1})
	}
	return out
}

// Promise 13: colourings are counted.
func TestColorCountsColourings(t *testing.T) {
	d := &dice{135}
	yes, no, many := 0, 0, 0
	for i := range 400 {
		n := 1 + i%12
		k := min(1+d.below(6), 24/n)
		edges := d.graph(n, 3*n)
		f, ok := impl.Color(n, edges, k)
		if want, wantOk := colorOf(n, edges, k); ok != wantOk || !sameLists(f.Clauses, want.Clauses) {
			t.Errorf("%d points with %d colours, %v: %v %v", n, k, edges, f, ok)
		}
		if !ok {
			continue
		}
		want := colourings(n, edges, k)
		if want == 0 {
			no++
		} else {
			yes++
		}
		if _, ok := impl.Solve(f); ok != (want > 0) {
			t.Errorf("Solve of %d points with %d colours, %v: %v, but %d colourings", n, k, edges, ok, want)
		}
		if f.N <= 14 {
			if got := impl.CountTrue(f); got != want {
				t.Errorf("%d points with %d colours, %v: %d, want %d", n, k, edges, got, want)
			}
			continue
		}
		many++
		if want > 5000 {
			continue
		}
		got := 0
		for range answersDown(f) {
			got++
		}
		if got != want {
			t.Errorf("%d points with %d colours, %v: %d answers, want %d", n, k, edges, got, want)
		}
	}
	if yes < 60 || no < 60 || many < 60 {
		t.Error("too few to tell", yes, no, many)
	}
}

func TestCountOn(t *testing.T) {
	for _, k := range []struct {
		list, a []int
		want    int
	}{
		{nil, nil, 0}, {nil, []int{1, 1}, 0}, {[]int{1}, []int{1}, 1}, {[]int{1}, []int{0}, 0}, {[]int{-1}, []int{1}, 0}, {[]int{-1}, []int{0}, 1},
		{[]int{1, -2, 1}, []int{1, 0}, 3}, {[]int{1, -1, 1, -1, -1}, []int{1}, 2}, {[]int{1, -1, 1, -1, -1}, []int{0}, 3}, {[]int{3, -2, 1}, []int{1, 1, 1}, 2},
		// Beyond the list's end, and a list that goes on.
		{[]int{2, -2, 24, -24}, nil, 2}, {[]int{2, -2, 3}, []int{1}, 1}, {[]int{-24}, repeated(1, 23), 1}, {[]int{-24, 24}, repeated(1, 24), 1}, {[]int{1, 2}, []int{1, 0, 1, 1, 1}, 1}, {[]int{1}, append([]int{1}, repeated(7, 50)...), 1},
		// No literals.
		{[]int{0, 25, -25, 256, 257, -255, -257, math.MinInt, math.MaxInt}, repeated(1, 300), 0}, {[]int{0, 25, -25, -255, -257, math.MinInt, math.MaxInt}, nil, 0}, {[]int{0, -1, 25, 2, math.MinInt}, []int{0, 1}, 2},
		// Longer than a clause or any list.
		{repeated(2, 1000), []int{0, 1}, 1000}, {repeated(-2, 1000), []int{0, 1}, 0}, {append(repeated(1, 60), 2), []int{0, 1}, 1},
	} {
		if got := impl.CountOn(k.list, k.a); got != k.want {
			t.Errorf("CountOn of %v at %v: %d, want %d", k.list, k.a, got, k.want)
		}
	}
}

// A literal counts just where a clause of it alone is true, at any list.
func TestCountOnIsAsAtClauseTrue(t *testing.T) {
	d := &dice{136}
	for range 500 {
		list, a := d.edges(30), d.edges(30)
		want := 0
		for _, x := range list {
			if impl.ClauseTrue([]int{x}, a) {
				want++
			}
		}
		if got := impl.CountOn(list, a); got != want {
			t.Errorf("CountOn of %v at %v: %d, want %d", list, a, got, want)
		}
	}
}

// Promise 15: every function of the chapter answers at any arguments, and writes into none.
func TestConditionFunctionsWriteIntoNothing(t *testing.T) {
	d := &dice{137}
	lists := append(notLists(), nil, upTo(7), upTo(16), upTo(24), []int{1, 1, -1})
	for range 100 {
		lists = append(lists, d.edges(26), d.clause(24, 24), d.clause(8, 3))
	}
	for _, one := range lists {
		list, a := guard(one), guard(d.edges(5))
		for _, k := range []int{math.MinInt, -1, 0, 1, 2, len(one) / 2, len(one) - 1, len(one), len(one) + 1, math.MaxInt} {
			most, _ := impl.AtMost(list.list, k)
			checkApartLists(t, "AtMost", most, list)
			least, _ := impl.AtLeast(list.list, k)
			checkApartLists(t, "AtLeast", least, list)
			exact, _ := impl.Exactly(list.list, k)
			checkApartLists(t, "Exactly", exact, list)
			checkCounted(t, one, k)
		}
		odd, _ := impl.Parity(list.list, true)
		checkApartLists(t, "Parity", odd, list)
		even, _ := impl.Parity(list.list, false)
		checkApartLists(t, "Parity", even, list)
		for _, x := range append(d.edges(2), 1, 0) {
			and, _ := impl.AndGate(x, list.list)
			checkApartLists(t, "AndGate", and, list)
		}
		impl.CountOn(list.list, a.list)
		list.check(t, "CountOn")
		a.check(t, "CountOn")
	}
}

func TestGateAndFormulaFunctionsWriteIntoNothing(t *testing.T) {
	d := &dice{138}
	numbers := edgeNumbers()
	pick := func() int { return numbers[d.below(len(numbers))] }
	for i := range 400 {
		n, k := 1+i%12, 1+d.below(6)
		edges := d.graph(n, 20)
		if i%4 == 0 {
			n, k, edges = pick(), pick(), append(edges, [2]int{pick(), pick()})
		}
		g := guardOf(edges, [2]int{-1, 77})
		f, _ := impl.Color(n, g.list, k)
		checkApartLists(t, "Color", f.Clauses, g)
		checkColorAsWorkedOut(t, n, edges, k)
		same, _ := impl.Same(pick(), pick())
		checkApartLists(t, "Same", same)
		choice, _ := impl.IfGate(pick(), pick(), pick(), pick())
		checkApartLists(t, "IfGate", choice)
	}
	for n := range 6 {
		f, _ := impl.Pigeon(n)
		checkApartLists(t, "Pigeon", f.Clauses)
		checkPigeon(t, n)
	}
	same, _ := impl.Same(1, 1)
	checkApartLists(t, "Same", same)
	choice, _ := impl.IfGate(1, 1, 1, 1)
	checkApartLists(t, "IfGate", choice)
}

// Nothing is kept from one call to another: calls at the same time answer as one alone does.
func TestConditionsAtTheSameTime(t *testing.T) {
	list, edges := upTo(16), edgesOf(8, 29)
	var group sync.WaitGroup
	for i := range 8 {
		group.Go(func() {
			for n := range 60 {
				k := (n + i) % 18
				checkCounted(t, list, k)
				odd := k%2 == 1
				want, _ := parityOf(list[:k%8], odd)
				checkParity(t, list[:k%8], odd, want, true)
				and, _ := andOf(-k-1, list)
				checkAnd(t, -k-1, list, and, true)
				checkColorAsWorkedOut(t, 8, edges[:k], 3)
				checkPigeon(t, k%6)
			}
		})
	}
	group.Wait()
}
