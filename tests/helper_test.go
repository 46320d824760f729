package tests

import (
	"math"
	"slices"
	"testing"

	"loop.example/g00123/impl"
)

// edgeNumbers are the numbers at which a function of numbers may go wrong;
// those around 256 wrap to small ones in a byte.
func edgeNumbers() []int {
	return []int{
		math.MinInt, math.MinInt + 1, math.MinInt32, -280, -257, -256, -255, -128, -49, -48, -26, -25, -24, -23, -2, -1,
		0, 1, 2, 23, 24, 25, 26, 47, 48, 49, 127, 128, 255, 256, 257, 280, math.MaxInt32, 1 << 32, 1<<32 + 1, math.MaxInt - 1, math.MaxInt,
	}
}

// dice counts on from a fixed beginning, so that every run sees the same lists.
type dice struct{ state uint64 }

func (d *dice) below(n int) int {
	d.state = d.state*6364136223846793005 + 1442695040888963407
	return int(d.state>>33) % n
}

func (d *dice) clause(most int, vars int) []int {
	c := make([]int, d.below(most+1))
	for i := range c {
		c[i] = d.below(vars) + 1
		if d.below(2) == 0 {
			c[i] = -c[i]
		}
	}
	return c
}

func (d *dice) edges(most int) []int {
	all := edgeNumbers()
	c := make([]int, d.below(most+1))
	for i := range c {
		c[i] = all[d.below(len(all))]
	}
	return c
}

// formula has at most that many clauses of at most width literals; now and then a variable has both.
func (d *dice) formula(n int, clauses int, width int) impl.Cnf {
	f := impl.Cnf{N: n}
	for range d.below(clauses + 1) {
		if n == 0 {
			f.Clauses = append(f.Clauses, nil)
			continue
		}
		f.Clauses = append(f.Clauses, d.clause(width, n))
	}
	return f
}

func (d *dice) assignment(n int) []int {
	a := make([]int, n)
	for i := range a {
		a[i] = d.below(2)
	}
	return a
}

const spare = 60

// argument is something handed to the program that nobody may write into.
type argument interface {
	check(t *testing.T, what string)
	spoil()
	mend()
}

// guarded is a list with spare room behind it.
type guarded struct {
	list  []int
	whole []int
	was   []int
}

func guard(list []int) guarded {
	whole := make([]int, len(list)+spare)
	copy(whole, list)
	for i := len(list); i < len(whole); i++ {
		whole[i] = 7000 + i
	}
	return guarded{whole[:len(list)], whole, slices.Clone(whole)}
}

func (g guarded) check(t *testing.T, what string) {
	t.Helper()
	if !slices.Equal(g.whole, g.was) {
		t.Fatalf("%s wrote into its argument %v", what, g.was[:len(g.list)])
	}
}

func (g guarded) spoil() {
	for i := range g.whole {
		g.whole[i] = 9000 + i
	}
}

func (g guarded) mend() { copy(g.whole, g.was) }

// guardedLists is a list of lists with spare room behind it and behind each of them.
type guardedLists struct {
	lists [][]int
	whole [][]int
	parts []guarded
}

func guardLists(lists [][]int) guardedLists {
	g := guardedLists{whole: make([][]int, len(lists)+spare)}
	for i := range g.whole {
		part := guard([]int{7000 + i})
		if i < len(lists) {
			part = guard(lists[i])
		}
		g.parts = append(g.parts, part)
		g.whole[i] = part.list
	}
	g.lists = g.whole[:len(lists)]
	return g
}

func (g guardedLists) check(t *testing.T, what string) {
	t.Helper()
	for i, part := range g.parts {
		part.check(t, what)
		if !sameMemory(g.whole[i], part.list) {
			t.Fatalf("%s wrote into its argument at list %d", what, i)
		}
	}
}

func (g guardedLists) spoil() {
	for i, part := range g.parts {
		part.spoil()
		g.whole[i] = []int{9000 + i}
	}
}

func (g guardedLists) mend() {
	for i, part := range g.parts {
		part.mend()
		g.whole[i] = part.list
	}
}

// sameMemory holds two lists against each other by where they stand; lists without any room stand nowhere.
func sameMemory[T any](a []T, b []T) bool {
	if len(a) != len(b) || cap(a) != cap(b) {
		return false
	}
	return cap(a) == 0 || &a[:1][0] == &b[:1][0]
}

// guardedOf is a list of anything that can be compared, with spare room behind it.
type guardedOf[T comparable] struct {
	list  []T
	whole []T
	was   []T
	other T
}

// guardOf has the other one in the spare room, and everywhere when it is spoiled.
func guardOf[T comparable](list []T, other T) guardedOf[T] {
	whole := append(slices.Clone(list), slices.Repeat([]T{other}, spare)...)
	return guardedOf[T]{whole[:len(list)], whole, slices.Clone(whole), other}
}

func (g guardedOf[T]) check(t *testing.T, what string) {
	t.Helper()
	if !slices.Equal(g.whole, g.was) {
		t.Fatalf("%s wrote into its argument %v", what, g.was[:len(g.list)])
	}
}

func (g guardedOf[T]) spoil() {
	for i := range g.whole {
		g.whole[i] = g.other
	}
}

func (g guardedOf[T]) mend() { copy(g.whole, g.was) }

// checkApartOf writes all over an answer that is no list of numbers, and all over its arguments: neither may be seen in the other.
func checkApartOf[T comparable](t *testing.T, what string, answer []T, other T, args ...argument) {
	t.Helper()
	answer = answer[:cap(answer)]
	for i := range answer {
		answer[i] = other
	}
	for _, g := range args {
		g.check(t, what+", written over its answer,")
		g.spoil()
	}
	for _, one := range answer {
		if one != other {
			t.Fatalf("%s answers memory of an argument", what)
		}
	}
	for _, g := range args {
		g.mend()
	}
}

type guardedCnf struct {
	guardedLists
	f impl.Cnf
}

func guardCnf(f impl.Cnf) guardedCnf {
	g := guardLists(f.Clauses)
	return guardedCnf{g, impl.Cnf{N: f.N, Clauses: g.lists}}
}

// checkApart writes all over an answer and then all over its arguments: neither may be seen in the other.
func checkApart(t *testing.T, what string, answer []int, args ...argument) {
	t.Helper()
	checkApartLists(t, what, [][]int{answer}, args...)
}

// checkApartLists also asks that no list of the answer stands in another one, nor in the room behind it.
func checkApartLists(t *testing.T, what string, answer [][]int, args ...argument) {
	t.Helper()
	for _, g := range args {
		g.check(t, what)
	}
	parts := slices.Clone(answer)
	for n, part := range parts {
		parts[n] = part[:cap(part)]
		for i := range parts[n] {
			parts[n][i] = -9000 - 1000*n - i
		}
	}
	outer := answer[:cap(answer)]
	for n := range outer {
		outer[n] = []int{-n}
	}
	for _, g := range args {
		g.check(t, what+", written over its answer,")
		g.spoil()
	}
	for n, part := range parts {
		for i, x := range part {
			if x != -9000-1000*n-i {
				t.Fatalf("%s answers memory of an argument or of another list", what)
			}
		}
	}
	for n, list := range outer {
		if !slices.Equal(list, []int{-n}) {
			t.Fatalf("%s answers the list of lists of an argument", what)
		}
	}
	for _, g := range args {
		g.mend()
	}
}

func checkList(t *testing.T, what string, got []int, want ...int) {
	t.Helper()
	if !slices.Equal(got, want) {
		t.Errorf("%s: %v, want %v", what, got, want)
	}
}

// repeated is a list of n times x.
func repeated(x int, n int) []int {
	return slices.Repeat([]int{x}, n)
}

// allLiterals are the 48 literals in their order, written down apart from the program.
func allLiterals() []int {
	var out []int
	for v := 1; v <= 24; v++ {
		out = append(out, v, -v)
	}
	return out
}

func checkCnf(t *testing.T, what string, got impl.Cnf, n int, clauses ...[]int) {
	t.Helper()
	if got.N != n || !sameLists(got.Clauses, clauses) {
		t.Errorf("%s: %v, want %d and %v", what, got, n, clauses)
	}
}

func sameLists(a [][]int, b [][]int) bool {
	return slices.EqualFunc(a, b, func(x, y []int) bool { return slices.Equal(x, y) })
}
