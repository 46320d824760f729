package impl

import (
	"math/bits"
	"slices"
	"strconv"
	"strings"
)

const (
	MaxVars   = 24
	MaxClause = 48
)

// lit is a literal. An int8 would wrap most ints to some literal, so that
// litOf is the only way from an int to a lit.
type lit int8

func litOf(x int) (lit, bool) {
	if x == 0 || x < -MaxVars || x > MaxVars {
		return 0, false
	}
	return lit(x), true
}

func (x lit) variable() int {
	if x < 0 {
		return -int(x)
	}
	return int(x)
}

// place numbers the literals by their order, from 0 on, so that the order of
// literals is the order of the bits of a litSet.
func (x lit) place() int {
	even := 2 * (x.variable() - 1)
	if x < 0 {
		return even + 1
	}
	return even
}

func (x lit) before(y lit) bool {
	return x.place() < y.place()
}

func (x lit) text() string {
	return strconv.Itoa(int(x))
}

func litAt(place int) lit {
	v := lit(place/2 + 1)
	if place%2 == 1 {
		return -v
	}
	return v
}

// litSet has a bit for each literal, at its place; MaxClause bits are all it
// ever needs.
type litSet uint64

// positives has every literal that is not negative: the even places.
const positives litSet = 0x5555_5555_5555

// variablesTo has the positive literals of the variables 1 .. n.
func variablesTo(n int) litSet {
	return positives & (1<<(2*n) - 1)
}

// litsOf passes over numbers that are no literals; who has to care for those
// looks at the list itself.
func litsOf(list []int) litSet {
	var s litSet
	for _, x := range list {
		if y, ok := litOf(x); ok {
			s = s.with(y)
		}
	}
	return s
}

func (s litSet) with(x lit) litSet {
	return s | 1<<x.place()
}

func (s litSet) without(x lit) litSet {
	return s &^ (1 << x.place())
}

func (s litSet) has(x lit) bool {
	return s>>x.place()&1 == 1
}

// first is for a set that has a literal.
func (s litSet) first() lit {
	return litAt(bits.TrailingZeros64(uint64(s)))
}

// opposites turns all literals at once: the negative one stands one place
// above the positive one.
func (s litSet) opposites() litSet {
	return (s&positives)<<1 | s>>1&positives
}

func (s litSet) clashes() bool {
	return s&s.opposites() != 0
}

func (s litSet) list() []int {
	out := make([]int, 0, bits.OnesCount64(uint64(s)))
	for ; s != 0; s &= s - 1 {
		out = append(out, int(s.first()))
	}
	return out
}

func LitOk(x int) bool {
	_, ok := litOf(x)
	return ok
}

func LitVar(x int) int {
	y, ok := litOf(x)
	if !ok {
		return 0
	}
	return y.variable()
}

func LitBefore(x int, y int) bool {
	a, okA := litOf(x)
	b, okB := litOf(y)
	return okA && okB && a.before(b)
}

func ClauseOk(c []int) bool {
	if len(c) > MaxClause {
		return false
	}
	for _, x := range c {
		if !LitOk(x) {
			return false
		}
	}
	return true
}

func ClauseSort(c []int) ([]int, bool) {
	if !ClauseOk(c) {
		return []int{}, false
	}
	s := litsOf(c)
	return s.list(), !s.clashes()
}

// ClauseHas asks any list for any number, since the document names no list
// that it refuses; so do ClauseWithout and ClauseSub.
func ClauseHas(c []int, x int) bool {
	return slices.Contains(c, x)
}

func ClauseWithout(c []int, x int) []int {
	out := make([]int, 0, len(c))
	for _, y := range c {
		if y != x {
			out = append(out, y)
		}
	}
	return out
}

func ClauseSub(a []int, b []int) bool {
	have := litsOf(b)
	for _, x := range a {
		y, ok := litOf(x)
		if ok && !have.has(y) || !ok && !ClauseHas(b, x) {
			return false
		}
	}
	return true
}

func Resolve(a []int, b []int, v int) ([]int, bool) {
	if v < 1 || v > MaxVars || !ClauseOk(a) || !ClauseOk(b) {
		return []int{}, false
	}
	if !ClauseHas(a, v) || !ClauseHas(b, -v) {
		return []int{}, false
	}
	// ClauseSort refuses what is left when it is too long, as Resolve must.
	return ClauseSort(append(ClauseWithout(a, v), ClauseWithout(b, -v)...))
}

func ClauseText(c []int) string {
	if !ClauseOk(c) {
		return ""
	}
	var text strings.Builder
	for _, x := range c {
		y, _ := litOf(x)
		text.WriteString(y.text())
		text.WriteByte(' ')
	}
	text.WriteByte('0')
	return text.String()
}

func ReadClause(s string) ([]int, bool) {
	c := []int{}
	for s != "0" {
		word, rest, found := strings.Cut(s, " ")
		x, ok := readLit(word)
		if !found || !ok || len(c) == MaxClause {
			return []int{}, false
		}
		c = append(c, int(x))
		s = rest
	}
	return c, true
}

// readLit writes what it read again, because Atoi also takes a plus and
// needless noughts.
func readLit(word string) (lit, bool) {
	n, err := strconv.Atoi(word)
	if err != nil {
		return 0, false
	}
	x, ok := litOf(n)
	if !ok || x.text() != word {
		return 0, false
	}
	return x, true
}
