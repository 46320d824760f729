package tests

import (
	"math"
	"slices"
	"testing"
)

// edgeNumbers are the numbers at which a function of numbers may go wrong;
// those around 256 wrap to small ones in a byte.
func edgeNumbers() []int {
	return []int{
		math.MinInt, math.MinInt + 1, math.MinInt32, -280, -257, -256, -255, -128, -49, -48, -26, -25, -24, -23, -2, -1,
		0, 1, 2, 23, 24, 25, 26, 47, 48, 49, 127, 128, 255, 256, 257, 280, math.MaxInt32, 1 << 32, 1<<32 + 1, math.MaxInt - 1, math.MaxInt,
	}
}

// dice counts on from a fixed beginning, so that every run sees the same lists.
type dice struct{ state uint64 }

func (d *dice) below(n int) int {
	d.state = d.state*6364136223846793005 + 1442695040888963407
	return int(d.state>>33) % n
}

func (d *dice) clause(most int, vars int) []int {
	c := make([]int, d.below(most+1))
	for i := range c {
		c[i] = d.below(vars) + 1
		if d.below(2) == 0 {
			c[i] = -c[i]
		}
	}
	return c
}

func (d *dice) edges(most int) []int {
	all := edgeNumbers()
	c := make([]int, d.below(most+1))
	for i := range c {
		c[i] = all[d.below(len(all))]
	}
	return c
}

const spare = 60

// guarded is a list with spare room behind it that nobody may write into.
type guarded struct {
	list  []int
	whole []int
	was   []int
}

func guard(list []int) guarded {
	whole := make([]int, len(list)+spare)
	copy(whole, list)
	for i := len(list); i < len(whole); i++ {
		whole[i] = 7000 + i
	}
	return guarded{whole[:len(list)], whole, slices.Clone(whole)}
}

func (g guarded) check(t *testing.T, what string) {
	t.Helper()
	if !slices.Equal(g.whole, g.was) {
		t.Fatalf("%s wrote into its argument %v", what, g.was[:len(g.list)])
	}
}

// checkApart writes all over an answer and then all over its arguments: neither may be seen in the other.
func checkApart(t *testing.T, what string, answer []int, args ...guarded) {
	t.Helper()
	for _, g := range args {
		g.check(t, what)
	}
	answer = answer[:cap(answer)]
	for i := range answer {
		answer[i] = -9000 - i
	}
	for _, g := range args {
		g.check(t, what+", written over its answer,")
		for i := range g.whole {
			g.whole[i] = 9000 + i
		}
	}
	for i, x := range answer {
		if x != -9000-i {
			t.Fatalf("%s answers memory of its argument", what)
		}
	}
	for _, g := range args {
		copy(g.whole, g.was)
	}
}

func checkList(t *testing.T, what string, got []int, want ...int) {
	t.Helper()
	if !slices.Equal(got, want) {
		t.Errorf("%s: %v, want %v", what, got, want)
	}
}

// repeated is a list of n times x.
func repeated(x int, n int) []int {
	return slices.Repeat([]int{x}, n)
}

// allLiterals are the 48 literals in their order, written down apart from the program.
func allLiterals() []int {
	var out []int
	for v := 1; v <= 24; v++ {
		out = append(out, v, -v)
	}
	return out
}
