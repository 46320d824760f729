package tests

import (
	"fmt"
	"regexp"
	"slices"
	"strconv"
	"strings"
	"testing"

	"loop.example/g00123/impl"
)

func isLiteral(x int) bool {
	return x >= -24 && x <= 24 && x != 0
}

func isClause(c []int) bool {
	return len(c) <= 48 && !slices.ContainsFunc(c, func(x int) bool { return !isLiteral(x) })
}

// sorted is what ClauseSort must answer, worked out from the written order alone.
func sorted(c []int) ([]int, bool) {
	if !isClause(c) {
		return nil, false
	}
	var out []int
	apart := true
	for _, x := range allLiterals() {
		if slices.Contains(c, x) {
			out = append(out, x)
			apart = apart && !(x < 0 && slices.Contains(c, -x))
		}
	}
	return out, apart
}

func without(c []int, x int) []int {
	return slices.DeleteFunc(slices.Clone(c), func(y int) bool { return y == x })
}

func resolved(a []int, b []int, v int) ([]int, bool) {
	if v < 1 || v > 24 || !isClause(a) || !isClause(b) || !slices.Contains(a, v) || !slices.Contains(b, -v) {
		return nil, false
	}
	return sorted(slices.Concat(without(a, v), without(b, -v)))
}

func clauseText(c []int) string {
	if !isClause(c) {
		return ""
	}
	words := []string{}
	for _, x := range c {
		words = append(words, strconv.Itoa(x))
	}
	return strings.Join(append(words, "0"), " ")
}

var clauseTextForm = regexp.MustCompile(`\A(-?([1-9]|1[0-9]|2[0-4]) ){0,48}0\z`)

func TestLiteralsAtTheEdges(t *testing.T) {
	if impl.MaxVars != 24 || impl.MaxClause != 48 {
		t.Fatal("limits", impl.MaxVars, impl.MaxClause)
	}
	for _, x := range append(edgeNumbers(), allLiterals()...) {
		if impl.LitOk(x) != isLiteral(x) {
			t.Errorf("LitOk(%d) is %v", x, impl.LitOk(x))
		}
		want := 0
		if isLiteral(x) {
			want = max(x, -x)
		}
		if impl.LitVar(x) != want {
			t.Errorf("LitVar(%d) is %d, want %d", x, impl.LitVar(x), want)
		}
	}
	for x := -1000; x <= 1000; x++ {
		if impl.LitOk(x) != (x != 0 && -24 <= x && x <= 24) {
			t.Errorf("LitOk(%d) is %v", x, impl.LitOk(x))
		}
	}
}

// Promise 1: of two literals that differ just one is before the other.
func TestOrderOfLiterals(t *testing.T) {
	for i, x := range allLiterals() {
		for j, y := range allLiterals() {
			if impl.LitBefore(x, y) != (i < j) {
				t.Errorf("LitBefore(%d, %d) is %v", x, y, impl.LitBefore(x, y))
			}
			if x != y && impl.LitBefore(x, y) == impl.LitBefore(y, x) {
				t.Errorf("of %d and %d not just one is before the other", x, y)
			}
		}
	}
}

func TestOrderKnowsLiteralsAlone(t *testing.T) {
	for _, x := range edgeNumbers() {
		for _, y := range append(edgeNumbers(), allLiterals()...) {
			if isLiteral(x) && isLiteral(y) {
				continue
			}
			if impl.LitBefore(x, y) || impl.LitBefore(y, x) {
				t.Errorf("%d and %d are not both literals, yet one is before the other", x, y)
			}
		}
	}
}

func TestClauseOk(t *testing.T) {
	for _, c := range [][]int{nil, {}, {1}, {1, -1}, {24, -24}, allLiterals(), repeated(-24, 48)} {
		if !impl.ClauseOk(c) {
			t.Errorf("%v is a clause", c)
		}
	}
	for _, c := range [][]int{{0}, {1, 0}, {25}, {-25, 1}, repeated(1, 49), append(allLiterals(), 1), repeated(1, 256), repeated(1, 100000)} {
		if impl.ClauseOk(c) {
			t.Errorf("%v is no clause", c)
		}
	}
	for _, x := range append(edgeNumbers(), allLiterals()...) {
		for place := range 48 {
			c := repeated(3, 48)
			c[place] = x
			if impl.ClauseOk(c) != isLiteral(x) {
				t.Errorf("ClauseOk with %d at place %d is %v", x, place, impl.ClauseOk(c))
			}
		}
	}
}

func TestClauseSort(t *testing.T) {
	backwards := allLiterals()
	slices.Reverse(backwards)
	negatives := slices.DeleteFunc(allLiterals(), func(x int) bool { return x > 0 })
	for _, k := range []struct {
		c    []int
		want []int
		ok   bool
	}{
		{nil, nil, true},
		{[]int{-3, 1, -3, 2}, []int{1, 2, -3}, true},
		{[]int{-2, 2}, []int{2, -2}, false},
		{[]int{-24, 5, 24, 5}, []int{5, 24, -24}, false},
		{[]int{-1, 2}, []int{-1, 2}, true},
		{[]int{3, -2}, []int{-2, 3}, true},
		{repeated(-24, 48), []int{-24}, true},
		{repeated(-24, 49), nil, false},
		{backwards, allLiterals(), false},
		{append(backwards, 1), nil, false},
		{negatives, negatives, true},
		{[]int{1, 0}, nil, false},
		{[]int{1, 25, -1}, nil, false},
		{[]int{257}, nil, false},
	} {
		got, ok := impl.ClauseSort(k.c)
		checkList(t, fmt.Sprint("ClauseSort of ", k.c), got, k.want...)
		if ok != k.ok {
			t.Errorf("ClauseSort of %v tells %v", k.c, ok)
		}
	}
	for _, x := range allLiterals() {
		for _, y := range allLiterals() {
			got, ok := impl.ClauseSort([]int{x, y})
			want, wantOk := sorted([]int{x, y})
			if !slices.Equal(got, want) || ok != wantOk {
				t.Errorf("ClauseSort of %d and %d: %v %v", x, y, got, ok)
			}
		}
	}
}

func TestListsAsSets(t *testing.T) {
	if !impl.ClauseHas([]int{1, -2}, -2) || impl.ClauseHas([]int{1, -2}, 2) || impl.ClauseHas([]int{-1}, 1) || impl.ClauseHas(nil, 0) {
		t.Error("ClauseHas")
	}
	if !impl.ClauseHas(append(repeated(1, 60), 2), 2) || impl.ClauseHas([]int{1}, 257) || impl.ClauseHas([]int{257}, 1) || !impl.ClauseHas([]int{25, 0}, 0) {
		t.Error("ClauseHas with what is no clause")
	}
	checkList(t, "both literals", impl.ClauseWithout([]int{2, -2, 1, 2, -2}, 2), -2, 1, -2)
	checkList(t, "nothing to take", impl.ClauseWithout([]int{3, 1, 3}, 2), 3, 1, 3)
	checkList(t, "all taken", impl.ClauseWithout(repeated(-5, 48), -5))
	checkList(t, "of nothing", impl.ClauseWithout(nil, 1))
	checkList(t, "no literals", impl.ClauseWithout([]int{0, 1, 25, 0, 257}, 0), 1, 25, 257)
	checkList(t, "longer than a clause", impl.ClauseWithout(append(repeated(4, 60), 1), 4), 1)
	for _, k := range []struct {
		a, b []int
		want bool
	}{
		{nil, nil, true}, {nil, []int{1}, true}, {[]int{1}, nil, false},
		{[]int{2}, []int{1, 2}, true}, {[]int{2, 2, 1}, []int{1, 2}, true}, {[]int{1, 2}, []int{2}, false},
		{[]int{-1}, []int{1}, false}, {[]int{1}, []int{-1}, false}, {[]int{1, -1}, []int{-1, 2, 1}, true}, {[]int{24, -24}, []int{24}, false},
		{[]int{0}, []int{1}, false}, {[]int{0}, []int{0}, true}, {[]int{257}, []int{1}, false}, {[]int{1}, []int{257}, false},
		{repeated(1, 60), []int{1}, true}, {[]int{2}, append(repeated(1, 60), 2), true},
	} {
		if impl.ClauseSub(k.a, k.b) != k.want {
			t.Errorf("ClauseSub of %v and %v is not %v", k.a, k.b, k.want)
		}
	}
}

func TestResolve(t *testing.T) {
	others := slices.DeleteFunc(allLiterals(), func(x int) bool { return x == 1 || x == -1 })
	positives := slices.DeleteFunc(slices.Clone(others), func(x int) bool { return x < 0 })
	for _, k := range []struct {
		a, b []int
		v    int
		want []int
		ok   bool
	}{
		{[]int{1, 2}, []int{-1, 3}, 1, []int{2, 3}, true},
		{[]int{3, 1, 2, 1, 3}, []int{-1, 2, -1}, 1, []int{2, 3}, true},
		{[]int{24}, []int{-24}, 24, nil, true},
		{[]int{1, 2}, []int{-1, -2}, 1, []int{2, -2}, false},
		{[]int{1, -1}, []int{-1}, 1, []int{-1}, true},
		{[]int{1, -1}, []int{-1, 1}, 1, []int{1, -1}, false},
		{[]int{1}, []int{2}, 1, nil, false},
		{[]int{2}, []int{-1}, 1, nil, false},
		{[]int{-1}, []int{1}, 1, nil, false},
		{[]int{-1}, []int{1}, -1, nil, false},
		{nil, nil, 1, nil, false},
		{[]int{0}, []int{0}, 0, nil, false},
		{[]int{25}, []int{-25}, 25, nil, false},
		{[]int{1, 0}, []int{-1}, 1, nil, false},
		{[]int{1}, []int{-1, 25}, 1, nil, false},
		{repeated(1, 48), append(repeated(2, 47), -1), 1, []int{2}, true},
		{repeated(1, 49), []int{-1}, 1, nil, false},
		{[]int{1}, repeated(-1, 49), 1, nil, false},
		{append(repeated(2, 24), 1), append(repeated(3, 24), -1), 1, []int{2, 3}, true},
		{append(repeated(2, 24), 1), append(repeated(3, 25), -1), 1, nil, false},
		{append(repeated(2, 25), 1), append(repeated(2, 24), -1), 1, nil, false},
		{append(repeated(2, 47), 1), append(repeated(2, 47), -1), 1, nil, false},
		{append(repeated(2, 47), 1), []int{-1, -2}, 1, []int{2, -2}, false},
		{append(repeated(2, 47), 1), []int{-1, -2, -2}, 1, nil, false},
		{append(slices.Clone(others), 1, 1), []int{-1, 1, -1}, 1, append([]int{1}, others...), false},
		{append(slices.Clone(positives), 1), append(slices.Clone(positives), -1), 1, positives, true},
	} {
		got, ok := impl.Resolve(k.a, k.b, k.v)
		what := fmt.Sprint("Resolve of ", k.a, k.b, k.v)
		checkList(t, what, got, k.want...)
		if ok != k.ok {
			t.Error(what, "tells", ok)
		}
	}
	for _, v := range edgeNumbers() {
		_, ok := impl.Resolve([]int{2, v}, []int{3, -v}, v)
		if ok != (v >= 1 && v <= 24) {
			t.Errorf("Resolve of %d tells %v", v, ok)
		}
	}
}

func TestClauseText(t *testing.T) {
	for _, k := range []struct {
		c    []int
		want string
	}{
		{nil, "0"},
		{[]int{1, -20}, "1 -20 0"},
		{[]int{24, -24, 24}, "24 -24 24 0"},
		{repeated(-24, 48), strings.Repeat("-24 ", 48) + "0"},
		{repeated(1, 49), ""},
		{[]int{0}, ""},
		{[]int{25}, ""},
		{[]int{1, -25}, ""},
		{[]int{257}, ""},
	} {
		if got := impl.ClauseText(k.c); got != k.want {
			t.Errorf("ClauseText of %v: %q", k.c, got)
		}
	}
}

// Promise 1: a clause comes back from its text.
func TestClauseComesBack(t *testing.T) {
	clauses := [][]int{nil, allLiterals(), repeated(1, 48), repeated(-24, 48), {5, 5, -5, 5}, {2, -2}}
	for _, x := range allLiterals() {
		clauses = append(clauses, []int{x}, []int{-x, x, x})
	}
	d := &dice{1}
	for range 500 {
		clauses = append(clauses, d.clause(48, 24))
	}
	for _, c := range clauses {
		text := impl.ClauseText(c)
		if text != clauseText(c) {
			t.Errorf("ClauseText of %v: %q", c, text)
		}
		got, ok := impl.ReadClause(text)
		if !ok || !slices.Equal(got, c) {
			t.Errorf("%v came back as %v %v", c, got, ok)
		}
	}
}

func checkRead(t *testing.T, s string) {
	t.Helper()
	c, ok := impl.ReadClause(s)
	if ok != clauseTextForm.MatchString(s) {
		t.Errorf("ReadClause of %q tells %v", s, ok)
	}
	if !ok && len(c) > 0 {
		t.Errorf("ReadClause of %q is refused beside %v", s, c)
	}
	if ok && clauseText(c) != s {
		t.Errorf("ReadClause of %q is %v", s, c)
	}
}

func TestReadClauseRefuses(t *testing.T) {
	for _, s := range []string{
		"", "1", "-1", " ", " 0", "0 ", "00", "-0", "+0", "0 0", "1 0 ", " 1 0", "1  0", "1\t0", "1 0\n", "\n", "1\n0", "1,0",
		"01 0", "-01 0", "+1 0", "--1 0", "- 0", "-0 0", "1- 0", "1 x 0", "x", "1_0 0", "0x1 0", "1.0 0", "1 00", "1 -0",
		"25 0", "-25 0", "257 0", "9223372036854775808 0", "18446744073709551617 0", "-9223372036854775809 0",
		strings.Repeat("9", 5000) + " 0", strings.Repeat("1 ", 48), strings.Repeat("1 ", 49) + "0", strings.Repeat("-24 ", 49) + "0", strings.Repeat("1 ", 100000) + "0",
		"1 2 3", "1 0 2 0", "0 1 0", "１ 0", "1\u00a00", "\xff 0", "1 \x000", "0\x00",
	} {
		if c, ok := impl.ReadClause(s); ok || len(c) > 0 {
			t.Errorf("ReadClause of %q: %v %v", s, c, ok)
		}
		checkRead(t, s)
	}
}

func TestReadClauseOfEveryShortText(t *testing.T) {
	const signs = "0125 -+"
	texts := []string{""}
	for range 6 {
		var longer []string
		for _, s := range texts {
			for _, b := range signs {
				longer = append(longer, s+string(b))
			}
		}
		for _, s := range texts {
			checkRead(t, s)
		}
		texts = longer
	}
}

func TestReadClauseOfTextsWithOneFault(t *testing.T) {
	const signs = "0123459 -+\n\tx"
	for _, c := range [][]int{nil, {1}, {-24, 24}, {10, 1, -10, 20}, repeated(-7, 47), repeated(12, 48)} {
		s := clauseText(c)
		for i := 0; i <= len(s); i++ {
			if i < len(s) {
				checkRead(t, s[:i])
				checkRead(t, s[:i]+s[i+1:])
			}
			for _, b := range signs {
				checkRead(t, s[:i]+string(b)+s[i:])
				if i < len(s) {
					checkRead(t, s[:i]+string(b)+s[i+1:])
				}
			}
		}
	}
}

// Promise 15: every function answers at any arguments, and writes into none.
func TestClauseFunctionsWriteIntoNothing(t *testing.T) {
	d := &dice{15}
	lists := [][]int{nil, {1}, {1, 2}, {-1, 2}, {2, -2, 1}, allLiterals(), repeated(1, 48), repeated(-1, 49), {0}, {25, 1}, {3, 2, 1, -1}}
	for range 60 {
		lists = append(lists, d.clause(50, 24), d.clause(8, 3), d.edges(6))
	}
	for _, one := range lists {
		a := guard(one)
		impl.ClauseOk(a.list)
		impl.ClauseText(a.list)
		got, _ := impl.ClauseSort(a.list)
		checkApart(t, "ClauseSort", got, a)
		for _, x := range []int{0, 1, -1, 2, 25, 77} {
			impl.ClauseHas(a.list, x)
			checkApart(t, "ClauseWithout", impl.ClauseWithout(a.list, x), a)
		}
		for _, v := range []int{1, 2, 0, -1, 25} {
			got, _ := impl.Resolve(a.list, a.list, v)
			checkApart(t, "Resolve of one list", got, a)
		}
		for _, two := range lists {
			b := guard(two)
			impl.ClauseSub(a.list, b.list)
			got, _ := impl.Resolve(a.list, b.list, 1)
			checkApart(t, "Resolve", got, a, b)
		}
	}
}

// Promise 15: what is answered is what the chapter says, whatever the lists are.
func TestClauseFunctionsOnAnyLists(t *testing.T) {
	d := &dice{16}
	for i := range 4000 {
		a, b := d.clause(50, 24), d.clause(6, 3)
		switch i % 4 {
		case 1:
			a, b = d.clause(6, 3), d.clause(6, 3)
		case 2:
			a, b = d.edges(4), d.edges(4)
		case 3:
			a, b = d.clause(30, 2), d.clause(30, 2)
		}
		if impl.ClauseOk(a) != isClause(a) || impl.ClauseText(a) != clauseText(a) {
			t.Errorf("ClauseOk or ClauseText of %v", a)
		}
		got, ok := impl.ClauseSort(a)
		if want, wantOk := sorted(a); !slices.Equal(got, want) || ok != wantOk {
			t.Errorf("ClauseSort of %v: %v %v", a, got, ok)
		}
		if impl.ClauseSub(a, b) == slices.ContainsFunc(a, func(x int) bool { return !slices.Contains(b, x) }) {
			t.Errorf("ClauseSub of %v and %v", a, b)
		}
		for _, x := range append(edgeNumbers(), a...) {
			if impl.ClauseHas(a, x) != slices.Contains(a, x) || !slices.Equal(impl.ClauseWithout(a, x), without(a, x)) {
				t.Errorf("ClauseHas or ClauseWithout of %v and %d", a, x)
			}
			got, ok := impl.Resolve(a, b, x)
			if want, wantOk := resolved(a, b, x); !slices.Equal(got, want) || ok != wantOk {
				t.Errorf("Resolve of %v, %v and %d: %v %v", a, b, x, got, ok)
			}
		}
	}
}
