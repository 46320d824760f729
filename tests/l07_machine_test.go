package tests

import (
	"fmt"
	"math"
	"slices"
	"testing"

	"loop.example/g00123/impl"
)

func isMachine(m impl.Machine) bool {
	if !isFormula(m.F) || len(m.Path) > m.F.N || m.State < 0 || m.State > 2 || m.Steps < 0 || m.Steps > 1000000000 {
		return false
	}
	for i, x := range m.Path {
		if x != i+1 && x != -i-1 {
			return false
		}
	}
	return (m.State != 1 || len(m.Path) == m.F.N) && (m.State != 2 || len(m.Path) == 0)
}

// emptyAt looks at every clause, as the chapter tells it.
func emptyAt(f impl.Cnf, path []int) bool {
	return slices.ContainsFunc(f.Clauses, func(c []int) bool {
		return !slices.ContainsFunc(c, func(x int) bool { return !slices.Contains(path, -x) })
	})
}

// stepOf works a step out, one sentence of the chapter after the other.
func stepOf(m impl.Machine) impl.Machine {
	if !isMachine(m) || m.State != 0 || m.Steps == 1000000000 {
		return m
	}
	m.Path = slices.Clone(m.Path)
	m.Steps++
	switch {
	case emptyAt(m.F, m.Path):
		for len(m.Path) > 0 && m.Path[len(m.Path)-1] > 0 {
			m.Path = m.Path[:len(m.Path)-1]
		}
		if len(m.Path) == 0 {
			m.State = 2
		} else {
			m.Path[len(m.Path)-1] *= -1
		}
	case len(m.Path) == m.F.N:
		m.State = 1
	default:
		m.Path = append(m.Path, -len(m.Path)-1)
	}
	return m
}

func runOf(m impl.Machine, n int) impl.Machine {
	if n < 0 || n > 1000000 {
		return m
	}
	for ; n > 0; n-- {
		next := stepOf(m)
		if next.Steps == m.Steps {
			break
		}
		m = next
	}
	return m
}

func sameMachine(a impl.Machine, b impl.Machine) bool {
	return a.F.N == b.F.N && sameLists(a.F.Clauses, b.F.Clauses) && slices.Equal(a.Path, b.Path) && a.State == b.State && a.Steps == b.Steps
}

func checkMachine(t *testing.T, what string, got impl.Machine, want impl.Machine) {
	t.Helper()
	if !sameMachine(got, want) {
		t.Errorf("%s: %v, want %v", what, got, want)
	}
}

func checkStep(t *testing.T, m impl.Machine, want impl.Machine) {
	t.Helper()
	checkMachine(t, fmt.Sprint("MachineStep of ", m), impl.MachineStep(m), want)
	checkMachine(t, fmt.Sprint("MachineRun by 1 of ", m), impl.MachineRun(m, 1), want)
	if !sameMachine(stepOf(m), want) {
		t.Errorf("what is worked out of %v is %v", m, stepOf(m))
	}
}

// checkStill asks for a machine that stays as it is, however many steps it is to take.
func checkStill(t *testing.T, m impl.Machine) {
	t.Helper()
	checkStep(t, m, m)
	for _, n := range []int{0, 2, 1000000, 1000001, -1} {
		checkMachine(t, fmt.Sprint("MachineRun by ", n, " of ", m), impl.MachineRun(m, n), m)
	}
}

func started(t *testing.T, f impl.Cnf) impl.Machine {
	t.Helper()
	m, ok := impl.MachineStart(f)
	if !ok {
		t.Fatalf("MachineStart of %v is refused", f)
	}
	return m
}

// ended runs a machine until it does not run any more, in as many parts as that takes.
func ended(t *testing.T, m impl.Machine) impl.Machine {
	t.Helper()
	for range 100 {
		if m.State != impl.MachineRuns {
			return m
		}
		m = impl.MachineRun(m, 1000000)
	}
	t.Fatalf("the machine of %v goes on and on", m.F)
	return m
}

// subtrees has, for each exponent, a part of the search that fails: that of all variables ahead true and this one not, with 2 to the power of it ends.
func subtrees(n int, exponents []int) impl.Cnf {
	f := impl.Cnf{N: n}
	var ahead []int
	for i, e := range exponents {
		v := i + 1
		here := append(slices.Clone(ahead), v)
		if e == 0 {
			f.Clauses = append(f.Clauses, here)
		} else {
			f.Clauses = append(f.Clauses, append(slices.Clone(here), v+e), append(slices.Clone(here), -v-e))
		}
		ahead = append(ahead, -v)
	}
	return f
}

// costingTrue has an answer behind just that many paths: a part with 2 to the power of e ends has twice as many paths, less one; ahead of the answer and at it stand n + 1 more.
func costingTrue(n int, cost int) impl.Cnf {
	var exponents []int
	left := cost - n - 1
	for e := n; e >= 0; e-- {
		for size := 2<<e - 1; left >= size; left -= size {
			exponents = append(exponents, e)
		}
	}
	return subtrees(n, exponents)
}

// costingFalse has no answer on just that many paths, which is an odd number: where all its variables are true it fails too.
func costingFalse(n int, cost int) impl.Cnf {
	var exponents []int
	for e := n; e >= 0; e-- {
		if (cost-1)&(2<<e) != 0 {
			exponents = append(exponents, e)
		}
	}
	f := subtrees(n, exponents)
	f.Clauses = append(f.Clauses, opposites(upTo(len(exponents))))
	return f
}

// machineFormulas are those that a search is short for; some have 24 variables and 120 clauses.
func machineFormulas(seed uint64, many int) []impl.Cnf {
	d := &dice{seed}
	fs := append(proofsFormulas(seed, many), impl.Cnf{}, impl.Cnf{N: 24}, impl.Cnf{Clauses: [][]int{{}}}, impl.Cnf{N: 24, Clauses: [][]int{{1, 2}, {}}}, repeatedClause(24, []int{24, -1}, 120), repeatedClause(0, nil, 120), pigeons(3), allAlike(24))
	for i := range 12 {
		fs = append(fs, d.narrow(24, 109+i))
	}
	return fs
}

// machines stand anywhere, most of them where none that was started comes to; now and then one is not as it should be.
func (d *dice) machines(f impl.Cnf) []impl.Machine {
	n := min(max(f.N, 0), 24)
	ms := []impl.Machine{{F: f}, {F: f, State: impl.MachineFalse, Steps: 7}}
	for i := range 10 {
		path := upTo(d.below(n + 1))
		for j := range path {
			path[j] *= 1 - 2*d.below(2)
		}
		m := impl.Machine{F: f, Path: path, Steps: d.below(1000)}
		switch {
		case i == 7:
			m.State = d.below(4)
		case i == 8:
			m.Steps = 999999998 + d.below(4)
		case i == 9:
			m.Path = append(path, d.edges(1)...)
		}
		ms = append(ms, m)
	}
	for _, path := range [][]int{upTo(n), opposites(upTo(n))} {
		ms = append(ms, impl.Machine{F: f, Path: path}, impl.Machine{F: f, Path: path, State: impl.MachineTrue})
	}
	return ms
}

func TestMachineOk(t *testing.T) {
	if impl.MachineRuns != 0 || impl.MachineTrue != 1 || impl.MachineFalse != 2 {
		t.Fatal("states")
	}
	f := impl.Cnf{N: 3, Clauses: [][]int{{1, 2}, {-3}}}
	for _, k := range []struct {
		m    impl.Machine
		want bool
	}{
		{impl.Machine{}, true}, {impl.Machine{F: f}, true}, {impl.Machine{F: f, Path: []int{-1}}, true}, {impl.Machine{F: f, Path: []int{1, -2}}, true}, {impl.Machine{F: f, Path: []int{-1, 2, 3}}, true}, {impl.Machine{F: impl.Cnf{N: 24}, Path: upTo(24)}, true}, {impl.Machine{F: impl.Cnf{N: 24}, Path: opposites(upTo(24))}, true}, {impl.Machine{F: impl.Cnf{N: 24}, Path: upTo(23)}, true},
		// A path on which a clause is empty, with variables behind it too.
		{impl.Machine{F: f, Path: []int{-1, -2, 3}}, true}, {impl.Machine{F: impl.Cnf{N: 3, Clauses: [][]int{{}}}, Path: []int{-1, -2}}, true},
		// A path longer than N.
		{impl.Machine{F: f, Path: []int{-1, 2, 3, 4}}, false}, {impl.Machine{F: f, Path: []int{-1, 2, 3, 3}}, false}, {impl.Machine{Path: []int{1}}, false}, {impl.Machine{F: impl.Cnf{N: 24}, Path: upTo(25)}, false}, {impl.Machine{F: f, Path: repeated(1, 5000)}, false},
		// Another variable, at the first, in the middle and at the last; what is no literal.
		{impl.Machine{F: f, Path: []int{2}}, false}, {impl.Machine{F: f, Path: []int{-2}}, false}, {impl.Machine{F: f, Path: []int{1, 1}}, false}, {impl.Machine{F: f, Path: []int{1, 3, 2}}, false}, {impl.Machine{F: f, Path: []int{-1, -2, -4}}, false}, {impl.Machine{F: f, Path: []int{-1, 2, 1}}, false}, {impl.Machine{F: f, Path: []int{2, 2, 3}}, false},
		{impl.Machine{F: f, Path: []int{0}}, false}, {impl.Machine{F: f, Path: []int{0, 2}}, false}, {impl.Machine{F: f, Path: []int{1, 0}}, false}, {impl.Machine{F: f, Path: []int{257}}, false}, {impl.Machine{F: f, Path: []int{-255}}, false}, {impl.Machine{F: f, Path: []int{1, 2, 259}}, false}, {impl.Machine{F: f, Path: []int{math.MinInt}}, false}, {impl.Machine{F: f, Path: []int{1, math.MaxInt}}, false},
		// The states, and the paths that they ask for.
		{impl.Machine{F: f, State: 3}, false}, {impl.Machine{F: f, State: -1}, false}, {impl.Machine{F: f, State: 257}, false}, {impl.Machine{F: f, State: math.MinInt}, false}, {impl.Machine{F: f, State: math.MaxInt}, false}, {impl.Machine{F: f, Path: []int{1, 2, 3}, State: 3}, false}, {impl.Machine{State: 3}, false},
		{impl.Machine{F: f, State: impl.MachineTrue}, false}, {impl.Machine{F: f, Path: []int{1, 2}, State: impl.MachineTrue}, false}, {impl.Machine{F: f, Path: []int{1, 2, -3}, State: impl.MachineTrue}, true}, {impl.Machine{F: f, Path: []int{1, 2, 3, 4}, State: impl.MachineTrue}, false}, {impl.Machine{F: f, Path: []int{1, 2, 2}, State: impl.MachineTrue}, false}, {impl.Machine{State: impl.MachineTrue}, true}, {impl.Machine{F: impl.Cnf{N: 24}, Path: upTo(24), State: impl.MachineTrue}, true}, {impl.Machine{F: impl.Cnf{N: 24}, Path: upTo(23), State: impl.MachineTrue}, false},
		// Whether the formula is true there is not asked.
		{impl.Machine{F: f, Path: []int{-1, -2, 3}, State: impl.MachineTrue}, true},
		{impl.Machine{F: f, State: impl.MachineFalse}, true}, {impl.Machine{State: impl.MachineFalse}, true}, {impl.Machine{F: f, Path: []int{1}, State: impl.MachineFalse}, false}, {impl.Machine{F: f, Path: []int{1, 2, 3}, State: impl.MachineFalse}, false}, {impl.Machine{F: f, Path: []int{-1}, State: impl.MachineFalse}, false},
		// The steps.
		{impl.Machine{F: f, Steps: -1}, false}, {impl.Machine{F: f, Steps: math.MinInt}, false}, {impl.Machine{F: f, Steps: 999999999}, true}, {impl.Machine{F: f, Steps: 1000000000}, true}, {impl.Machine{F: f, Steps: 1000000001}, false}, {impl.Machine{F: f, Steps: math.MaxInt}, false}, {impl.Machine{F: f, State: impl.MachineFalse, Steps: 1000000000}, true}, {impl.Machine{F: f, State: impl.MachineFalse, Steps: 1000000001}, false}, {impl.Machine{State: impl.MachineTrue, Steps: -1}, false},
	} {
		if got := impl.MachineOk(k.m); got != k.want {
			t.Errorf("MachineOk of %v is %v", k.m, got)
		}
		if isMachine(k.m) != k.want {
			t.Errorf("what is worked out of %v is something else", k.m)
		}
	}
	for _, f := range notFormulas() {
		for _, m := range []impl.Machine{{F: f}, {F: f, Path: []int{1}}, {F: f, Path: upTo(25)}, {F: f, State: impl.MachineFalse}, {F: f, Path: []int{1, 2}, State: impl.MachineTrue}} {
			if impl.MachineOk(m) {
				t.Errorf("MachineOk takes %v", m)
			}
		}
	}
	d := &dice{71}
	for _, f := range append(edgeFormulas(), machineFormulas(71, 60)...) {
		for _, m := range d.machines(f) {
			if impl.MachineOk(m) != isMachine(m) {
				t.Errorf("MachineOk of %v is %v", m, impl.MachineOk(m))
			}
		}
	}
}

func TestMachineStart(t *testing.T) {
	for _, f := range slices.Concat(edgeFormulas(), notFormulas(), machineFormulas(72, 40)) {
		m, ok := impl.MachineStart(f)
		want := impl.Machine{}
		if isFormula(f) {
			want.F = f
		}
		checkMachine(t, fmt.Sprint("MachineStart of ", f), m, want)
		if ok != isFormula(f) {
			t.Errorf("MachineStart of %v is %v", f, ok)
		}
		if !impl.MachineOk(m) {
			t.Errorf("MachineStart of %v is not MachineOk", f)
		}
	}
}

func TestMachineStepAtTheEdges(t *testing.T) {
	some := impl.Cnf{N: 4, Clauses: [][]int{{1, 2}, {-2, -3, 4}}}
	never := impl.Cnf{N: 3, Clauses: [][]int{{1, -1}, {}}}
	both := impl.Cnf{N: 2, Clauses: [][]int{{1, -1}, {-2, 2, -2}, {2, 2}}}
	first := impl.Cnf{N: 3, Clauses: [][]int{{1}}}
	for _, k := range []struct {
		f     impl.Cnf
		path  []int
		want  []int
		state int
	}{
		// The next variable, negative.
		{some, nil, []int{-1}, 0}, {some, []int{-1}, []int{-1, -2}, 0}, {some, []int{1}, []int{1, -2}, 0}, {some, []int{-1, 2, 3}, []int{-1, 2, 3, -4}, 0}, {impl.Cnf{N: 24}, nil, []int{-1}, 0}, {impl.Cnf{N: 24}, upTo(23), append(upTo(23), -24), 0},
		// Path has N.
		{some, []int{-1, 2, 3, 4}, []int{-1, 2, 3, 4}, 1}, {some, []int{1, -2, -3, -4}, []int{1, -2, -3, -4}, 1}, {impl.Cnf{N: 24}, upTo(24), upTo(24), 1}, {impl.Cnf{N: 1}, []int{-1}, []int{-1}, 1},
		// A clause is empty: the last literal is negative.
		{some, []int{-1, -2}, []int{-1, 2}, 0}, {some, []int{-1, 2, 3, -4}, []int{-1, 2, 3, 4}, 0}, {first, []int{-1}, []int{1}, 0}, {impl.Cnf{N: 24, Clauses: [][]int{{24}}}, opposites(upTo(24)), append(opposites(upTo(23)), 24), 0},
		// The positive literals at the end go, and a negative one becomes positive: the whole path long too.
		{some, []int{-1, -2, 3}, []int{-1, 2}, 0}, {some, []int{-1, -2, 3, 4}, []int{-1, 2}, 0}, {some, []int{-1, -2, -3, 4}, []int{-1, -2, 3}, 0}, {first, []int{-1, 2, 3}, []int{1}, 0}, {first, []int{-1, 2}, []int{1}, 0}, {impl.Cnf{N: 4, Clauses: [][]int{{-1, -3}}}, []int{1, -2, 3, 4}, []int{1, 2}, 0}, {impl.Cnf{N: 24, Clauses: [][]int{{-24}}}, append([]int{-1}, upTo(24)[1:]...), []int{1}, 0}, {impl.Cnf{N: 24, Clauses: [][]int{{1, -24}}}, append([]int{-1, -2}, upTo(24)[2:]...), []int{-1, 2}, 0},
		// All of the path is positive.
		{impl.Cnf{N: 3, Clauses: [][]int{{-1}}}, []int{1}, nil, 2}, {impl.Cnf{N: 3, Clauses: [][]int{{-1}}}, []int{1, 2, 3}, nil, 2}, {impl.Cnf{N: 3, Clauses: [][]int{{-1, -2}}}, []int{1, 2}, nil, 2}, {impl.Cnf{N: 24, Clauses: [][]int{opposites(upTo(24))}}, upTo(24), nil, 2},
		// What is lost is so ahead of what is whole, and wherever in the path.
		{first, []int{-1, -2, -3}, []int{-1, -2, 3}, 0}, {impl.Cnf{N: 1, Clauses: [][]int{{1}}}, []int{-1}, []int{1}, 0}, {impl.Cnf{N: 1, Clauses: [][]int{{-1}}}, []int{1}, nil, 2},
		// The empty clause is empty everywhere.
		{never, nil, nil, 2}, {never, []int{-1}, []int{1}, 0}, {never, []int{1, 2}, nil, 2}, {never, []int{1, -2, 3}, []int{1, 2}, 0}, {never, []int{-1, -2, -3}, []int{-1, -2, 3}, 0}, {impl.Cnf{Clauses: [][]int{nil}}, nil, nil, 2}, {impl.Cnf{N: 24, Clauses: [][]int{{}}}, nil, nil, 2}, {repeatedClause(24, nil, 120), nil, nil, 2}, {impl.Cnf{N: 2, Clauses: append(repeatedClause(2, []int{1, 2}, 119).Clauses, nil)}, nil, nil, 2},
		// No clause, no variable.
		{impl.Cnf{}, nil, nil, 1}, {impl.Cnf{N: 2}, []int{1}, []int{1, -2}, 0}, {impl.Cnf{N: 2}, []int{1, 2}, []int{1, 2}, 1},
		// A clause with both literals of a variable is empty nowhere; one literal twice is as once.
		{both, []int{-1}, []int{-1, -2}, 0}, {both, []int{-1, -2}, []int{-1, 2}, 0}, {both, []int{-1, 2}, []int{-1, 2}, 1}, {both, []int{1, 2}, []int{1, 2}, 1}, {impl.Cnf{N: 24, Clauses: [][]int{allLiterals()}}, upTo(24), upTo(24), 1}, {impl.Cnf{N: 2, Clauses: [][]int{repeated(-2, 48)}}, []int{-1, 2}, []int{1}, 0}, {impl.Cnf{N: 2, Clauses: [][]int{{1, 2, -1}}}, []int{-1, -2}, []int{-1, -2}, 1},
		// The last clause of 120 counts, and so does each ahead.
		{impl.Cnf{N: 2, Clauses: append(repeatedClause(2, []int{-1, 2}, 119).Clauses, []int{1})}, []int{-1}, []int{1}, 0}, {impl.Cnf{N: 2, Clauses: append([][]int{{1}}, repeatedClause(2, []int{-1, 2}, 119).Clauses...)}, []int{-1}, []int{1}, 0}, {impl.Cnf{N: 2, Clauses: append(repeatedClause(2, []int{-1, 2}, 63).Clauses, []int{1})}, []int{-1}, []int{1}, 0}, {impl.Cnf{N: 2, Clauses: append(repeatedClause(2, []int{-1, 2}, 64).Clauses, []int{1})}, []int{-1}, []int{1}, 0},
	} {
		for _, steps := range []int{0, 5, 999999998, 999999999} {
			checkStep(t, impl.Machine{F: k.f, Path: k.path, Steps: steps}, impl.Machine{F: k.f, Path: k.want, State: k.state, Steps: steps + 1})
		}
		checkStill(t, impl.Machine{F: k.f, Path: k.path, Steps: 1000000000})
	}
}

func TestMachineStepStaysAsItIs(t *testing.T) {
	f := impl.Cnf{N: 3, Clauses: [][]int{{1, 2}, {-3}}}
	for _, m := range []impl.Machine{
		// At its end, whether or not that is the end of the search.
		{F: f, Path: []int{-1, 2, -3}, State: impl.MachineTrue, Steps: 7}, {F: f, Path: []int{-1, -2, 3}, State: impl.MachineTrue}, {State: impl.MachineTrue, Steps: 1}, {F: f, State: impl.MachineFalse, Steps: 7}, {F: impl.Cnf{N: 24}, State: impl.MachineFalse}, {State: impl.MachineFalse, Steps: 1},
		// Not MachineOk.
		{F: f, Path: []int{2}}, {F: f, Path: []int{1, 0}}, {F: f, Path: []int{1, 2, 3, 4}}, {F: f, Path: []int{1, 2}, State: impl.MachineTrue}, {F: f, Path: []int{-1, -2}, State: impl.MachineFalse}, {F: f, Path: []int{-1, -2}, State: 3}, {F: f, State: -1}, {F: f, Steps: -1}, {F: f, Steps: 1000000001}, {F: f, Steps: math.MinInt}, {F: f, Steps: math.MaxInt}, {F: f, Path: []int{math.MinInt, math.MaxInt}, State: 9, Steps: -9}, {Path: repeated(1, 5000)},
	} {
		checkStill(t, m)
	}
	for _, g := range notFormulas() {
		checkStill(t, impl.Machine{F: g})
		checkStill(t, impl.Machine{F: g, Path: []int{-1}, Steps: 3})
		checkStill(t, impl.Machine{F: together(g, [][]int{{}}), Path: []int{-1, 1}})
		checkStill(t, impl.Machine{F: g, State: impl.MachineFalse, Steps: 3})
	}
}

func TestMachineStepAsWorkedOut(t *testing.T) {
	d := &dice{73}
	turned, deeper, over := 0, 0, 0
	for _, f := range slices.Concat(edgeFormulas(), notFormulas(), machineFormulas(73, 200)) {
		for _, m := range d.machines(f) {
			want := stepOf(m)
			checkStep(t, m, want)
			switch {
			case want.State != m.State:
				over++
			case len(want.Path) > len(m.Path):
				deeper++
			case want.Steps > m.Steps:
				turned++
			}
			n := d.below(30)
			checkMachine(t, fmt.Sprint("MachineRun by ", n, " of ", m), impl.MachineRun(m, n), runOf(m, n))
		}
	}
	if turned < 500 || deeper < 500 || over < 500 {
		t.Error("too few to tell", turned, deeper, over)
	}
}

func TestMachineRunAtTheEdges(t *testing.T) {
	long := impl.Machine{F: nowhere(24)}
	short := impl.Machine{F: impl.Cnf{N: 2, Clauses: [][]int{{1}, {-1, 2}}}}
	late := impl.Machine{F: nowhere(24), Path: []int{-1, 2}, Steps: 999999990}
	for _, m := range []impl.Machine{long, short, late} {
		for _, n := range []int{-1, -2, math.MinInt, 1000001, 1000002, 1 << 32, math.MaxInt, 0} {
			checkMachine(t, fmt.Sprint("MachineRun by ", n), impl.MachineRun(m, n), m)
		}
		checkMachine(t, "MachineRun by 1", impl.MachineRun(m, 1), stepOf(m))
	}
	if got := impl.MachineRun(long, 1000000); got.Steps != 1000000 || got.State != impl.MachineRuns || !impl.MachineOk(got) {
		t.Errorf("MachineRun by 1000000: %v", got)
	}
	if got := impl.MachineRun(long, 999999); got.Steps != 999999 || !sameMachine(impl.MachineStep(got), impl.MachineRun(long, 1000000)) {
		t.Errorf("MachineRun by 999999: %v", got)
	}
	// At its end it stops, whatever is left to run.
	for _, n := range []int{5, 6, 1000, 1000000} {
		checkMachine(t, fmt.Sprint("MachineRun by ", n), impl.MachineRun(short, n), impl.Machine{F: short.F, Path: []int{1, 2}, State: impl.MachineTrue, Steps: 5})
	}
	// So it does where it cannot count any further.
	want := runOf(late, 10)
	for _, n := range []int{10, 11, 1000000} {
		checkMachine(t, fmt.Sprint("MachineRun by ", n), impl.MachineRun(late, n), want)
	}
	if want.Steps != 1000000000 || want.State != impl.MachineRuns {
		t.Errorf("what is worked out is %v", want)
	}
}

// checkSearch goes one step after the other, and asks at each for what the chapter says of it; then for what is told of the whole.
func checkSearch(t *testing.T, f impl.Cnf) {
	t.Helper()
	m := started(t, f)
	for i := 0; m.State == impl.MachineRuns; i++ {
		if !impl.MachineOk(m) || m.Steps != i {
			t.Fatalf("behind %d steps %v", i, m)
		}
		if n := len(m.Path); n > 0 && emptyAt(f, m.Path[:n-1]) {
			t.Fatalf("a clause is empty ahead of the last literal: %v", m)
		}
		if a, ok := impl.MachineAnswer(m); ok || len(a) > 0 {
			t.Fatalf("MachineAnswer of %v: %v %v", m, a, ok)
		}
		next := impl.MachineStep(m)
		if !sameMachine(next, stepOf(m)) {
			t.Fatalf("MachineStep of %v: %v", m, next)
		}
		m = next
	}
	checkEnd(t, f, m)
	if cost := impl.MachineCost(f); cost != m.Steps {
		t.Errorf("MachineCost of %v: %d, but %d steps were taken", f, cost, m.Steps)
	}
	checkMachine(t, fmt.Sprint("MachineRun of ", f), impl.MachineRun(started(t, f), m.Steps), m)
	if one := impl.MachineRun(started(t, f), m.Steps-1); one.State != impl.MachineRuns {
		t.Errorf("one step fewer than %d of %v: %v", m.Steps, f, one)
	}
}

// checkEnd asks a machine at its end for the answer that Solve tells.
func checkEnd(t *testing.T, f impl.Cnf, m impl.Machine) {
	t.Helper()
	want, can := impl.Solve(f)
	state := impl.MachineFalse
	if can {
		state = impl.MachineTrue
	}
	if m.State != state || !impl.MachineOk(m) {
		t.Errorf("the machine of %v ends as %v, want state %d", f, m, state)
	}
	if got, ok := impl.MachineAnswer(m); ok != can || !slices.Equal(got, want) {
		t.Errorf("MachineAnswer of %v: %v %v, want %v %v", m, got, ok, want, can)
	}
	checkStill(t, m)
}

// Promise 7: the machine comes to its end with the least answer, or tells that there is none.
func TestMachineEndsWithTheLeastAnswer(t *testing.T) {
	some, none := 0, 0
	for _, f := range machineFormulas(74, 300) {
		if impl.MachineCost(f) > 5000 {
			checkEnd(t, f, ended(t, started(t, f)))
			continue
		}
		checkSearch(t, f)
		if _, can := impl.Solve(f); can {
			some++
		} else {
			none++
		}
	}
	if some < 150 || none < 200 {
		t.Error("too few to tell", some, none)
	}
}

func TestMachineOfManyVariables(t *testing.T) {
	d := &dice{75}
	some, none := 0, 0
	for i := range 60 {
		f := d.narrow(24, 80+i%41)
		m := ended(t, started(t, f))
		checkEnd(t, f, m)
		least := leastDown(f)
		if (least != nil) != (m.State == impl.MachineTrue) {
			t.Errorf("the machine of %v ends as %v", f, m)
		}
		if least != nil {
			some++
		} else {
			none++
		}
		cost := m.Steps
		if cost > 1000000 {
			cost = -1
		}
		if got := impl.MachineCost(f); got != cost {
			t.Errorf("MachineCost of %v: %d, want %d", f, got, cost)
		}
	}
	if some < 15 || none < 15 {
		t.Error("too few to tell", some, none)
	}
	// Every path there is.
	m := ended(t, started(t, nowhere(24)))
	if m.State != impl.MachineFalse || m.Steps != 1<<25-1 {
		t.Errorf("the machine of a formula that fails at the last variables ends as %v", m)
	}
}

// Promise 7: n steps and then k steps are n + k steps at once, wherever the machine stands.
func TestStepsInTwoPartsAreStepsAtOnce(t *testing.T) {
	d := &dice{76}
	for _, f := range slices.Concat(edgeFormulas(), notFormulas(), machineFormulas(76, 150)) {
		for _, m := range d.machines(f) {
			for _, parts := range [][2]int{{0, 0}, {0, 3}, {3, 0}, {1, 1}, {d.below(20), d.below(20)}, {d.below(300), d.below(300)}} {
				apart := impl.MachineRun(impl.MachineRun(m, parts[0]), parts[1])
				at := impl.MachineRun(m, parts[0]+parts[1])
				if !sameMachine(apart, at) {
					t.Fatalf("%v in parts of %v: %v, at once %v", m, parts, apart, at)
				}
			}
		}
	}
	m := impl.Machine{F: costingTrue(24, 1000000)}
	at := impl.MachineRun(m, 1000000)
	for _, n := range []int{0, 1, 2, 17, 262144, 500000, 524289, 999999, 1000000} {
		checkMachine(t, fmt.Sprint("in parts at ", n), impl.MachineRun(impl.MachineRun(m, n), 1000000-n), at)
	}
}

func TestMachineAnswer(t *testing.T) {
	f := impl.Cnf{N: 3, Clauses: [][]int{{1, 2}, {-3}}}
	for _, k := range []struct {
		m    impl.Machine
		want []int
	}{
		{impl.Machine{F: f, Path: []int{-1, 2, -3}, State: impl.MachineTrue, Steps: 7}, []int{0, 1, 0}}, {impl.Machine{F: f, Path: []int{1, -2, -3}, State: impl.MachineTrue, Steps: 1000000000}, []int{1, 0, 0}}, {impl.Machine{State: impl.MachineTrue}, nil}, {impl.Machine{F: impl.Cnf{N: 24}, Path: upTo(24), State: impl.MachineTrue}, repeated(1, 24)}, {impl.Machine{F: impl.Cnf{N: 24}, Path: opposites(upTo(24)), State: impl.MachineTrue}, repeated(0, 24)},
		// Where the formula is not true, too: the path alone is asked.
		{impl.Machine{F: f, Path: []int{-1, -2, 3}, State: impl.MachineTrue}, []int{0, 0, 1}}, {impl.Machine{F: impl.Cnf{Clauses: [][]int{{}}}, State: impl.MachineTrue}, nil},
	} {
		got, ok := impl.MachineAnswer(k.m)
		checkTold(t, fmt.Sprint("MachineAnswer of ", k.m), got, ok, k.want...)
	}
	for _, m := range []impl.Machine{
		// It runs, with a whole path too; there is none.
		{}, {F: f}, {F: f, Path: []int{-1}}, {F: f, Path: []int{-1, 2, -3}}, {F: f, State: impl.MachineFalse}, {State: impl.MachineFalse},
		// Not MachineOk.
		{F: f, State: impl.MachineTrue}, {F: f, Path: []int{-1, 2}, State: impl.MachineTrue}, {F: f, Path: []int{-1, 2, -3, 4}, State: impl.MachineTrue}, {F: f, Path: []int{-1, 2, -4}, State: impl.MachineTrue}, {F: f, Path: []int{-1, 2, 0}, State: impl.MachineTrue}, {F: f, Path: []int{-1, 3, 2}, State: impl.MachineTrue}, {F: f, Path: []int{-1, 2, -3}, State: 3}, {F: f, Path: []int{-1, 2, -3}, State: -1}, {F: f, Path: []int{-1, 2, -3}, State: impl.MachineTrue, Steps: -1}, {F: f, Path: []int{-1, 2, -3}, State: impl.MachineTrue, Steps: 1000000001}, {F: f, Path: []int{-1, 2, -3}, State: impl.MachineFalse}, {F: impl.Cnf{N: 25}, Path: upTo(25), State: impl.MachineTrue}, {F: impl.Cnf{N: -1}, State: impl.MachineTrue}, {F: impl.Cnf{N: 1, Clauses: [][]int{{2}}}, Path: []int{1}, State: impl.MachineTrue},
	} {
		got, ok := impl.MachineAnswer(m)
		checkNone(t, fmt.Sprint("MachineAnswer of ", m), got, ok)
	}
	for _, g := range notFormulas() {
		for _, path := range [][]int{nil, {1}, {-1, 2}, upTo(25), upTo(26)} {
			got, ok := impl.MachineAnswer(impl.Machine{F: g, Path: path, State: impl.MachineTrue})
			checkNone(t, fmt.Sprint("MachineAnswer of ", g, " and ", path), got, ok)
		}
	}
}

func TestMachineCostAtTheEdges(t *testing.T) {
	for _, k := range []struct {
		f    impl.Cnf
		want int
	}{
		// No variables, no clauses, the empty clause.
		{impl.Cnf{}, 1}, {impl.Cnf{Clauses: [][]int{{}}}, 1}, {impl.Cnf{N: 1}, 2}, {impl.Cnf{N: 24}, 25}, {impl.Cnf{N: 24, Clauses: [][]int{{}}}, 1}, {impl.Cnf{N: 3, Clauses: [][]int{{1}, {-2, 3}, nil}}, 1}, {repeatedClause(0, nil, 120), 1},
		{impl.Cnf{N: 1, Clauses: [][]int{{1}}}, 3}, {impl.Cnf{N: 1, Clauses: [][]int{{-1}}}, 2}, {impl.Cnf{N: 1, Clauses: [][]int{{1}, {-1}}}, 3}, {impl.Cnf{N: 2, Clauses: [][]int{{2}, {-2}}}, 7}, {impl.Cnf{N: 2, Clauses: [][]int{{1}, {-1, 2}}}, 5}, {impl.Cnf{N: 2, Clauses: fourOf(nil, 1, 2)}, 7}, {nowhere(3), 15}, {nowhere(10), 2047},
		{impl.Cnf{N: 2, Clauses: [][]int{{1, -1}, {2, -2, 2}}}, 3}, {impl.Cnf{N: 2, Clauses: [][]int{{1, 1}, {2, 2, 2}}}, 5}, {impl.Cnf{N: 24, Clauses: [][]int{allLiterals()}}, 25}, {repeatedClause(24, []int{24, -1}, 120), 25}, {repeatedClause(24, []int{24, 24}, 120), 26}, {withLiterals(impl.Cnf{N: 24}, upTo(24)), 49},
		// Just 1000000, and one more; either way it ends.
		{costingTrue(24, 999999), 999999}, {costingTrue(24, 1000000), 1000000}, {costingTrue(24, 1000001), -1}, {costingTrue(24, 1000002), -1}, {costingTrue(22, 1000000), 1000000}, {costingTrue(22, 1000001), -1}, {costingFalse(24, 999999), 999999}, {costingFalse(24, 1000001), -1}, {costingFalse(24, 999997), 999997}, {costingFalse(20, 1000001), -1},
		{costingTrue(24, 123456), 123456}, {costingFalse(24, 123457), 123457},
		// Many more.
		{nowhere(24), -1}, {costingTrue(24, 1<<24), -1}, {costingFalse(24, 1<<24+1), -1}, {impl.Cnf{N: 24, Clauses: [][]int{{1, 24}, {1, -24}}}, -1}, {nowhere(19), -1}, {nowhere(18), 1<<19 - 1},
	} {
		if got := impl.MachineCost(k.f); got != k.want {
			t.Errorf("MachineCost of %v: %d, want %d", k.f, got, k.want)
		}
	}
	for _, f := range notFormulas() {
		for _, g := range []impl.Cnf{f, together(f, [][]int{{}})} {
			if got := impl.MachineCost(g); got != -1 {
				t.Errorf("MachineCost of %v: %d", g, got)
			}
		}
	}
	// Just there the machine ends, and one step fewer leaves it running; where it costs one more, it still runs.
	for _, k := range []struct {
		f     impl.Cnf
		steps int
		state int
	}{{costingTrue(24, 1000000), 1000000, impl.MachineTrue}, {costingTrue(24, 1000001), 1000001, impl.MachineTrue}, {costingFalse(24, 999999), 999999, impl.MachineFalse}, {costingFalse(24, 1000001), 1000001, impl.MachineFalse}} {
		m := impl.MachineRun(started(t, k.f), k.steps-1)
		if m.State != impl.MachineRuns || m.Steps != k.steps-1 {
			t.Errorf("one step fewer than %d: %v", k.steps, m)
		}
		m = ended(t, m)
		if m.State != k.state || m.Steps != k.steps {
			t.Errorf("the machine ends as %v, want state %d behind %d steps", m, k.state, k.steps)
		}
		checkEnd(t, k.f, m)
	}
}

func TestMachineCostAsWorkedOut(t *testing.T) {
	for _, f := range append(edgeFormulas(), machineFormulas(77, 300)...) {
		m := runOf(impl.Machine{F: f}, 5000)
		switch got := impl.MachineCost(f); {
		case !isFormula(f):
			if got != -1 {
				t.Errorf("MachineCost of %v: %d", f, got)
			}
		case m.State == 0:
			if got != -1 && got <= 5000 {
				t.Errorf("MachineCost of %v: %d, but it runs still", f, got)
			}
		case got != m.Steps:
			t.Errorf("MachineCost of %v: %d, want %d", f, got, m.Steps)
		}
	}
}

// checkApartMachine holds the clauses and the path of an answer against each other and against what was handed in.
func checkApartMachine(t *testing.T, what string, m impl.Machine, args ...argument) {
	t.Helper()
	outer := m.F.Clauses
	checkApartLists(t, what, append(slices.Clone(outer), m.Path), args...)
	checkApartLists(t, what, outer, args...)
}

// Promise 15: every function of the chapter answers at any arguments, and writes into none.
func TestMachineFunctionsWriteIntoNothing(t *testing.T) {
	d := &dice{78}
	fs := slices.Concat(edgeFormulas(), notFormulas(), machineFormulas(78, 20))
	for range 20 {
		fs = append(fs, d.formula(24, 120, 48), impl.Cnf{N: d.below(30), Clauses: [][]int{d.edges(5), d.edges(5)}})
	}
	for _, one := range fs {
		f := guardCnf(one)
		m, _ := impl.MachineStart(f.f)
		checkApartMachine(t, "MachineStart", m, f)
		impl.MachineCost(f.f)
		f.check(t, "MachineCost")
		for _, m := range append(d.machines(one), impl.Machine{F: one, Path: d.edges(5), State: d.below(4), Steps: edgeNumbers()[d.below(len(edgeNumbers()))]}) {
			path := guard(m.Path)
			m.F, m.Path = f.f, path.list
			impl.MachineOk(m)
			f.check(t, "MachineOk")
			path.check(t, "MachineOk")
			a, _ := impl.MachineAnswer(m)
			checkApart(t, "MachineAnswer", a, f, path)
			checkApartMachine(t, "MachineStep", impl.MachineStep(m), f, path)
			for _, n := range []int{0, 1, 2, 40, 1000001, -1} {
				checkApartMachine(t, "MachineRun", impl.MachineRun(m, n), f, path)
			}
		}
	}
	// One list told at several places, the path among them, is several lists in an answer.
	shared := guard([]int{1})
	m := impl.Machine{F: impl.Cnf{N: 2, Clauses: [][]int{shared.list, shared.list}}, Path: shared.list}
	for _, state := range []int{impl.MachineRuns, impl.MachineTrue} {
		m.State = state
		checkApartMachine(t, "MachineStep of one list told often", impl.MachineStep(m), shared)
		checkApartMachine(t, "MachineRun of one list told often", impl.MachineRun(m, 2), shared)
		checkApartMachine(t, "MachineRun of one list told often", impl.MachineRun(m, -1), shared)
	}
	begun, _ := impl.MachineStart(m.F)
	checkApartMachine(t, "MachineStart of one list told often", begun, shared)
}
