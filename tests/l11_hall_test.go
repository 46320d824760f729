package tests

import (
	"fmt"
	"math"
	"slices"
	"strconv"
	"strings"
	"sync"
	"testing"

	"loop.example/g00123/impl"
)

func isTenant(t impl.Tenant) bool {
	waits := 0
	for _, w := range t.Works {
		if !isFormula(w.F) || !isCost(w.Left) || !slices.Contains([]int{0, 1, 2}, w.State) {
			return false
		}
		if w.State == 0 {
			waits++
		}
	}
	return len(t.Key) <= 64 && t.Quota >= 0 && t.Quota <= 100000 && t.Most >= 0 && t.Most <= 40 && len(t.Works) <= 40 && waits <= t.Most
}

func isHall(h impl.Hall) bool {
	return len(h.Tenants) <= 8 && isCache(h.Cache) && !slices.ContainsFunc(h.Tenants, func(t impl.Tenant) bool { return !isTenant(t) })
}

// withWorks is the hall with other works of a tenant, and leaves the one handed in as it is.
func withWorks(h impl.Hall, who int, works []impl.Work) impl.Hall {
	h.Tenants = slices.Clone(h.Tenants)
	h.Tenants[who].Works = works
	return h
}

// tickedOf works out for each work what those ahead of it leave to it.
func tickedOf(h impl.Hall) impl.Hall {
	for who, one := range h.Tenants {
		works := slices.Clone(one.Works)
		ahead := 0
		for i, w := range one.Works {
			if w.State != 0 {
				continue
			}
			works[i].Left = w.Left - min(max(one.Quota-ahead, 0), w.Left)
			if works[i].Left == 0 {
				works[i].State = 1
			}
			ahead += w.Left
		}
		h = withWorks(h, who, works)
	}
	return h
}

// askedOf is what HallAsk must make of a hall that has the tenant.
func askedOf(h impl.Hall, who int, text string) (impl.Hall, string) {
	f, code, _ := formulaOf(text)
	if code != 0 {
		return h, "bad"
	}
	cache, k, ok := lookupOf(h.Cache, f)
	if !ok {
		return h, "bad"
	}
	works, waits := h.Tenants[who].Works, 0
	for _, w := range works {
		if w.State == 0 {
			waits++
		}
	}
	if waits == h.Tenants[who].Most || len(works) == 40 {
		return h, "busy"
	}
	h = withWorks(h, who, append(slices.Clone(works), impl.Work{F: f, Sat: k.Sat, Values: k.Values, Left: k.Cost}))
	h.Cache = cache
	return h, fmt.Sprintf("work %d", len(works))
}

// doneOf is what HallDo must answer.
func doneOf(h impl.Hall, op impl.HallOp) (impl.Hall, string) {
	if !isHall(h) || op.Kind < 0 || op.Kind > 4 {
		return h, ""
	}
	if op.Kind == 1 {
		return tickedOf(h), ""
	}
	if op.Who < 0 || op.Who >= len(h.Tenants) {
		return h, ""
	}
	if op.Kind == 0 {
		return askedOf(h, op.Who, op.Text)
	}
	one := h.Tenants[op.Who]
	if op.N < 0 || op.N >= len(one.Works) {
		return h, "none"
	}
	w := one.Works[op.N]
	if op.Kind == 3 && w.State == 1 {
		c, ok := certOf(one.Key, w.F)
		if !ok {
			return h, "none"
		}
		return h, certTextOf(c)
	}
	if op.Kind == 4 && w.State == 0 {
		works := slices.Clone(one.Works)
		works[op.N].State = 2
		return withWorks(h, op.Who, works), "off"
	}
	return h, []string{"waits", "done", "off"}[w.State]
}

func sameWork(a impl.Work, b impl.Work) bool {
	return a.F.N == b.F.N && sameLists(a.F.Clauses, b.F.Clauses) && a.Sat == b.Sat && slices.Equal(a.Values, b.Values) && a.Left == b.Left && a.State == b.State
}

func sameTenant(a impl.Tenant, b impl.Tenant) bool {
	return a.Key == b.Key && a.Quota == b.Quota && a.Most == b.Most && slices.EqualFunc(a.Works, b.Works, sameWork)
}

func sameHall(a impl.Hall, b impl.Hall) bool {
	return slices.EqualFunc(a.Tenants, b.Tenants, sameTenant) && sameCache(a.Cache, b.Cache)
}

// toldHall keeps what a failed test tells of a hall short.
func toldHall(h impl.Hall) string {
	var words []string
	for _, one := range h.Tenants {
		words = append(words, fmt.Sprintf("{%.20q quota %d most %d, %d works:", one.Key, one.Quota, one.Most, len(one.Works)))
		for _, w := range one.Works {
			words = append(words, fmt.Sprintf("{%.60s %v %v left %d state %d}", fmt.Sprint(w.F), w.Sat, w.Values, w.Left, w.State))
		}
		words = append(words, "}")
	}
	return fmt.Sprintf("{%d tenants: %.900s %s}", len(h.Tenants), strings.Join(words, " "), told(h.Cache))
}

func toldOp(op impl.HallOp) string {
	return fmt.Sprintf("{kind %d who %d n %d %.80q}", op.Kind, op.Who, op.N, op.Text)
}

func checkHallOk(t *testing.T, what string, h impl.Hall, want bool) {
	t.Helper()
	if got := impl.HallOk(h); got != want {
		t.Errorf("%s: HallOk of %s is %v", what, toldHall(h), got)
	}
	if isHall(h) != want {
		t.Errorf("%s: what is worked out of %s is something else", what, toldHall(h))
	}
}

// checkDo also asks for the same by a run of one op.
func checkDo(t *testing.T, h impl.Hall, op impl.HallOp, want impl.Hall, wantSaid string) {
	t.Helper()
	got, said := impl.HallDo(h, op)
	if !sameHall(got, want) || said != wantSaid {
		t.Errorf("HallDo of %s in %s: %s %.200q, want %s %.200q", toldOp(op), toldHall(h), toldHall(got), said, toldHall(want), wantSaid)
	}
	got, list := impl.HallRun(h, []impl.HallOp{op})
	if !sameHall(got, want) || !slices.Equal(list, []string{wantSaid}) {
		t.Errorf("HallRun of %s in %s: %s %.200q, want %s %.200q", toldOp(op), toldHall(h), toldHall(got), list, toldHall(want), wantSaid)
	}
}

func checkDoAsWorkedOut(t *testing.T, h impl.Hall, op impl.HallOp) {
	t.Helper()
	want, said := doneOf(h, op)
	checkDo(t, h, op, want, said)
}

// oneText is true at 1 1 alone, in five steps.
const oneText = "p cnf 2 2\n1 0\n-1 2 0\n"

// aWork is one of oneText.
func aWork(left int, state int) impl.Work {
	return impl.Work{F: impl.Cnf{N: 2, Clauses: [][]int{{1}, {-1, 2}}}, Sat: true, Values: []int{1, 1}, Left: left, State: state}
}

func workFor(f impl.Cnf, state int) impl.Work {
	values, sat := impl.Solve(f)
	return impl.Work{F: f, Sat: sat, Values: values, Left: 3, State: state}
}

func tenantOf(key string, quota int, most int, works ...impl.Work) impl.Tenant {
	return impl.Tenant{Key: key, Quota: quota, Most: most, Works: works}
}

func hallOf(c impl.Cache, tenants ...impl.Tenant) impl.Hall {
	return impl.Hall{Tenants: tenants, Cache: c}
}

// works are that many of one state.
func works(many int, state int) []impl.Work {
	return slices.Repeat([]impl.Work{aWork(3, state)}, many)
}

// threeOf has the tenant between two others.
func threeOf(one impl.Tenant) impl.Hall {
	return hallOf(cacheOf(3, "a", "b"), tenantOf("first", 2, 3, aWork(4, 0)), one, tenantOf("last", 7, 40, aWork(1, 0), aWork(0, 1)))
}

// notTenants stand just beyond the limits, each by one thing alone.
func notTenants() []impl.Tenant {
	ones := []impl.Tenant{
		tenantOf(strings.Repeat("k", 65), 1, 1), tenantOf(strings.Repeat("\x00", 65), 1, 1), tenantOf(strings.Repeat("k", 320), 1, 1), tenantOf(strings.Repeat("ä", 33), 1, 1),
		tenantOf("", -1, 1), tenantOf("", 100001, 1), tenantOf("", math.MinInt, 1), tenantOf("", math.MaxInt, 1), tenantOf("", 1<<32, 1),
		tenantOf("", 1, -1), tenantOf("", 1, 41), tenantOf("", 1, math.MinInt), tenantOf("", 1, math.MaxInt), tenantOf("", 1, 1<<32), tenantOf("", 1, 256),
		tenantOf("", 1, 40, works(41, 1)...), tenantOf("", 1, 40, works(41, 2)...), tenantOf("", 1, 40, works(41, 0)...), tenantOf("", 1, 40, append(works(40, 1), aWork(1, 0))...), tenantOf("", 1, 40, works(3000, 1)...),
		// One more waits than may.
		tenantOf("", 1, 0, aWork(1, 0)), tenantOf("", 1, 0, aWork(0, 0)), tenantOf("", 1, 1, works(2, 0)...), tenantOf("", 1, 2, slices.Concat(works(2, 0), works(5, 1), works(5, 2), works(1, 0))...), tenantOf("", 1, 39, works(40, 0)...),
	}
	for _, f := range notFormulas() {
		for state := range 3 {
			w := impl.Work{F: f, State: state}
			ones = append(ones, tenantOf("", 1, 1, w), tenantOf("", 1, 2, aWork(1, 0), aWork(1, 1), w))
		}
	}
	for _, left := range []int{-1, 1000001, math.MinInt, math.MaxInt, 1 << 32} {
		for state := range 3 {
			ones = append(ones, tenantOf("", 1, 1, aWork(left, state)), tenantOf("", 1, 2, aWork(1, 0), aWork(1, 1), aWork(left, state)))
		}
	}
	for _, state := range []int{-1, 3, 4, math.MinInt, math.MaxInt, 256, 257, 1 << 32, 1<<32 + 1} {
		ones = append(ones, tenantOf("", 1, 40, aWork(1, state)), tenantOf("", 1, 0, aWork(1, state)), tenantOf("", 1, 1, aWork(1, 1), aWork(1, state), aWork(1, 0)))
	}
	return ones
}

// notHalls have each a thing that is beyond its limit.
func notHalls() []impl.Hall {
	hs := []impl.Hall{{Tenants: make([]impl.Tenant, 9)}, {Tenants: make([]impl.Tenant, 500)}}
	for _, one := range notTenants() {
		hs = append(hs, threeOf(one))
	}
	for _, c := range notCaches() {
		hs = append(hs, hallOf(c), hallOf(c, tenantOf("k", 5, 3, aWork(2, 0), aWork(0, 1))))
	}
	return hs
}

func TestConstantsOfHalls(t *testing.T) {
	if impl.MaxTenants != 8 || impl.MaxWorks != 40 || impl.MaxQuota != 100000 {
		t.Fatal("limits")
	}
	if impl.WorkWaits != 0 || impl.WorkDone != 1 || impl.WorkOff != 2 {
		t.Fatal("states")
	}
	if impl.HallAsk != 0 || impl.HallTick != 1 || impl.HallPoll != 2 || impl.HallTake != 3 || impl.HallOff != 4 {
		t.Fatal("kinds")
	}
}

func TestHallOk(t *testing.T) {
	for many := range 12 {
		checkHallOk(t, "tenants", hallOf(impl.Cache{}, make([]impl.Tenant, many)...), many <= 8)
	}
	for _, one := range []impl.Tenant{
		{}, tenantOf(strings.Repeat("k", 64), 1, 1), tenantOf(strings.Repeat("\xff", 63), 1, 1), tenantOf(strings.Repeat("ä", 32), 1, 1),
		tenantOf("", 0, 1), tenantOf("", 1, 1), tenantOf("", 99999, 1), tenantOf("", 100000, 1), tenantOf("", 1, 0), tenantOf("", 1, 39), tenantOf("", 1, 40),
		tenantOf("", 1, 40, works(40, 0)...), tenantOf("", 1, 40, works(40, 1)...), tenantOf("", 1, 0, works(40, 2)...), tenantOf("", 1, 39, works(39, 0)...), tenantOf("", 1, 20, slices.Concat(works(10, 1), works(20, 0), works(10, 2))...),
		// Works that are done or off don't count as waiting ones.
		tenantOf("", 1, 1, works(1, 0)...), tenantOf("", 1, 2, slices.Concat(works(1, 0), works(5, 1), works(5, 2), works(1, 0))...), tenantOf("", 1, 0, works(7, 1)...), tenantOf("", 1, 0, slices.Concat(works(7, 2), works(7, 1))...),
		// All that is left to a work, and nothing, in each state.
		tenantOf("", 1, 3, aWork(0, 0), aWork(1000000, 0), aWork(999999, 0), aWork(0, 1), aWork(1000000, 1), aWork(0, 2), aWork(1000000, 2)),
		// Formulas at their limits.
		tenantOf("", 1, 9, workFor(repeatedClause(24, []int{24, -1}, 120), 0), workFor(impl.Cnf{}, 0), workFor(impl.Cnf{N: 24}, 0), workFor(impl.Cnf{N: 2, Clauses: [][]int{repeated(2, 48)}}, 0), workFor(impl.Cnf{Clauses: [][]int{{}}}, 0)),
		// What a work is told to be is not asked for.
		tenantOf("", 1, 2, impl.Work{F: impl.Cnf{N: 2}, Values: edgeNumbers()}, impl.Work{F: impl.Cnf{Clauses: [][]int{{}}}, Sat: true, Values: repeated(7, 5000)}),
	} {
		checkHallOk(t, "one", hallOf(impl.Cache{}, one), true)
		checkHallOk(t, "between others", threeOf(one), true)
	}
	for _, h := range notHalls() {
		checkHallOk(t, "beyond a limit", h, false)
	}
	for _, c := range []impl.Cache{{}, cacheOf(50), cacheOf(2, "a", ""), cacheOf(50, numbered(50)...), costing(cacheOf(1, "a"), 0, 1000000)} {
		checkHallOk(t, "a cache", hallOf(c, make([]impl.Tenant, 8)...), true)
		checkHallOk(t, "a cache without tenants", hallOf(c), true)
	}
}

// A thing that is wrong is seen whoever has it.
func TestHallOkLooksAtEveryTenant(t *testing.T) {
	for i, one := range notTenants() {
		for who := range 8 {
			h := hallOf(cacheOf(2, "a"), slices.Repeat([]impl.Tenant{tenantOf("k", 5, 3, works(3, 0)...)}, 8)...)
			checkHallOk(t, "eight tenants", h, true)
			h.Tenants[who] = one
			checkHallOk(t, fmt.Sprint("fault ", i, " of tenant ", who), h, false)
		}
	}
}

func TestHallStart(t *testing.T) {
	check := func(keys []string, quotas []int, most int, room int, wantOk bool) {
		t.Helper()
		h, ok := impl.HallStart(keys, quotas, most, room)
		want := impl.Hall{}
		if wantOk {
			want.Cache.Room = room
			for i, key := range keys {
				want.Tenants = append(want.Tenants, tenantOf(key, quotas[i], most))
			}
		}
		if !sameHall(h, want) || ok != wantOk || !impl.HallOk(h) {
			t.Errorf("HallStart of %.80q %v %d %d: %s %v", keys, quotas, most, room, toldHall(h), ok)
		}
	}
	check([]string{"x", "y"}, []int{2, 0}, 2, 4, true)
	check([]string{"same", "same"}, []int{1, 1}, 0, 0, true)
	for many := range 12 {
		check(numbered(many), upTo(many), 3, 5, many <= 8)
		check(make([]string, many), make([]int, many), 0, 0, many <= 8)
	}
	// Not equally many.
	for many := range 10 {
		check(numbered(many), upTo(many+1), 3, 5, false)
		check(numbered(many+1), upTo(many), 3, 5, false)
		check(numbered(many+1), nil, 3, 5, false)
	}
	check(nil, []int{1}, 3, 5, false)
	for _, size := range []int{0, 1, 63, 64, 65, 66, 128, 256, 320} {
		check([]string{"k", strings.Repeat("k", size)}, []int{1, 1}, 3, 5, size <= 64)
		check([]string{strings.Repeat("\x00", size), "k"}, []int{1, 1}, 3, 5, size <= 64)
	}
	for _, x := range append(edgeNumbers(), 39, 40, 41, 49, 50, 51, 99999, 100000, 100001) {
		check([]string{"a", "b"}, []int{x, 1}, 3, 5, x >= 0 && x <= 100000)
		check([]string{"a", "b"}, []int{1, x}, 3, 5, x >= 0 && x <= 100000)
		check([]string{"a", "b"}, []int{1, 1}, x, 5, x >= 0 && x <= 40)
		check([]string{"a", "b"}, []int{1, 1}, 3, x, x >= 0 && x <= 50)
		// No tenant: there is a hall, with what its cache asks for alone.
		check(nil, nil, 3, x, x >= 0 && x <= 50)
		check(nil, nil, x, 5, true)
	}
}

func TestHallDoInWhatIsNoHall(t *testing.T) {
	for _, h := range notHalls() {
		for _, op := range []impl.HallOp{{Text: oneText}, {Kind: 1}, {Kind: 2}, {Kind: 3, N: 1}, {Kind: 4}, {Kind: 2, Who: 1}, {Kind: 4, Who: 1}, {Who: 1, Text: oneText}, {Text: "q"}, {Kind: -1}, {Kind: 5}, {Kind: 2, Who: 9}} {
			checkDo(t, h, op, h, "")
		}
	}
}

func TestHallDoOfNoTenantOrKind(t *testing.T) {
	h := threeOf(tenantOf("k", 5, 3, aWork(2, 0), aWork(0, 1), aWork(1, 2)))
	for _, who := range append(edgeNumbers(), 3, 4, 8) {
		if who >= 0 && who < 3 {
			continue
		}
		for _, kind := range []int{0, 2, 3, 4} {
			checkDo(t, h, impl.HallOp{Kind: kind, Who: who, Text: oneText}, h, "")
			checkDo(t, h, impl.HallOp{Kind: kind, Who: who, N: -1, Text: "q"}, h, "")
			checkDo(t, hallOf(impl.Cache{}), impl.HallOp{Kind: kind, Who: who, Text: oneText}, hallOf(impl.Cache{}), "")
		}
		// A tick asks for no tenant.
		ticked := tickedOf(h)
		checkDo(t, h, impl.HallOp{Kind: impl.HallTick, Who: who, N: who, Text: "q"}, ticked, "")
		if sameHall(h, ticked) {
			t.Fatal("the tick does nothing")
		}
	}
	for _, who := range []int{0, 1, 2, 3, -1} {
		for _, kind := range append(edgeNumbers(), 5, 6, 7, 8, 260) {
			if kind < 0 || kind > 4 {
				checkDo(t, h, impl.HallOp{Kind: kind, Who: who, Text: oneText}, h, "")
			}
		}
	}
	// No one of no tenants.
	none := hallOf(cacheOf(2, "a"))
	for kind := range 5 {
		checkDo(t, none, impl.HallOp{Kind: kind, Text: oneText}, none, "")
	}
}

// badTexts are no formula's, or have no Lookup.
func badTexts() []string {
	return []string{
		"", "q", "q\n", "\n", "p cnf 2 2\n1 0\n-1 2 0", "p cnf 2 1\n1 0\n-1 2 0\n", "p cnf 2 3\n1 0\n-1 2 0\n", "p cnf 1 2\n1 0\n-1 2 0\n", "p cnf 25 0\n", "p cnf 2 121\n", "p cnf 02 0\n", " " + oneText, oneText + "x\n", oneText + "0\n", "p cnf 2 2;1 0;-1 2 0;",
		"p cnf 0 0\n" + strings.Repeat("\n", 11991), formulaText(costingTrue(24, 1000001)), formulaText(costingFalse(24, 1000001)), formulaText(nowhere(24)),
	}
}

func TestHallAskOfBadTexts(t *testing.T) {
	k := asked(t, impl.Cnf{N: 2, Clauses: [][]int{{1}, {-1, 2}}})
	c := impl.Cache{Room: 2, Entries: []impl.Known{k, entry("")}}
	for _, text := range badTexts() {
		for _, most := range []int{2, 40} {
			h := hallOf(c, tenantOf("k", 5, most, works(2, 0)...), tenantOf("j", 5, 0))
			// The first is busy with a Most of 2, the second always; bad comes ahead of that.
			checkDo(t, h, impl.HallOp{Text: text}, h, "bad")
			checkDo(t, h, impl.HallOp{Who: 1, Text: text}, h, "bad")
		}
	}
	h := hallOf(c, tenantOf("k", 5, 40, works(40, 1)...))
	checkDo(t, h, impl.HallOp{Text: "q"}, h, "bad")
	checkDo(t, h, impl.HallOp{Text: badTexts()[len(badTexts())-1]}, h, "bad")
}

func TestHallAskOfNewFormulas(t *testing.T) {
	h := threeOf(tenantOf("k", 5, 3, aWork(2, 0), aWork(0, 1), aWork(1, 2)))
	for _, k := range []struct {
		text string
		want impl.Work
	}{
		{oneText, aWork(5, 0)},
		{"c note\n\n" + oneText + "c\n", aWork(5, 0)},
		{"p cnf 0 0\n", impl.Work{Sat: true, Left: 1}},
		{"p cnf 0 1\n0\n", impl.Work{F: impl.Cnf{Clauses: [][]int{{}}}, Left: 1}},
		{"p cnf 24 0\n", impl.Work{F: impl.Cnf{N: 24}, Sat: true, Values: repeated(0, 24), Left: 25}},
		{formulaText(impl.Cnf{N: 2, Clauses: fourOf(nil, 1, 2)}), impl.Work{F: impl.Cnf{N: 2, Clauses: fourOf(nil, 1, 2)}, Left: 7}},
		// As typed, though it is looked up in order.
		{"p cnf 2 4\n2 -1 2 0\n1 1 0\n2 -2 0\n1 0\n", impl.Work{F: impl.Cnf{N: 2, Clauses: [][]int{{2, -1, 2}, {1, 1}, {2, -2}, {1}}}, Sat: true, Values: []int{1, 1}, Left: 5}},
		// As many steps as there may be.
		{formulaText(costingTrue(24, 1000000)), impl.Work{F: costingTrue(24, 1000000), Sat: true, Values: leastDown(costingTrue(24, 1000000)), Left: 1000000}},
		// As long as a text may be.
		{formulaText(longFormula(12000)), impl.Work{F: longFormula(12000), Left: 3}},
	} {
		want := withWorks(h, 1, append(slices.Clone(h.Tenants[1].Works), k.want))
		known := impl.Known{Digest: digestOf(k.want.F), Sat: k.want.Sat, Values: k.want.Values, Cost: k.want.Left}
		want.Cache = putOf(h.Cache, known)
		checkDo(t, h, impl.HallOp{Who: 1, N: 77, Text: k.text}, want, "work 3")
		// Where the cache is full the first goes, and with a room of none nothing is remembered.
		full, wantFull := h, want
		full.Cache = cacheOf(2, "a", "b")
		wantFull.Cache = putOf(full.Cache, known)
		checkDo(t, full, impl.HallOp{Who: 1, Text: k.text}, wantFull, "work 3")
		full.Cache, wantFull.Cache = impl.Cache{}, impl.Cache{}
		checkDo(t, full, impl.HallOp{Who: 1, Text: k.text}, wantFull, "work 3")
	}
}

func TestHallAskOfWhatIsRemembered(t *testing.T) {
	k := asked(t, impl.Cnf{N: 2, Clauses: [][]int{{1}, {-1, 2}}})
	// What is remembered is told as it stands there, so that it is seen to be used.
	forged := impl.Known{Digest: k.Digest, Values: []int{7, -8, 9}, Cost: 0}
	dear := impl.Known{Digest: k.Digest, Sat: true, Values: []int{1, 1}, Cost: 1000000}
	a, b := entry("a"), entry("b")
	turned := impl.Cnf{N: 2, Clauses: [][]int{{2, -1, 2}, {1, 1}, {2, -2}, {1}}}
	for _, one := range []impl.Known{k, forged, dear} {
		for _, f := range []impl.Cnf{aWork(0, 0).F, turned} {
			for _, entries := range [][]impl.Known{{one, a, b}, {a, one, b}, {a, b, one}} {
				h := hallOf(impl.Cache{Room: 3, Entries: entries}, tenantOf("k", 5, 3), tenantOf("j", 5, 3, aWork(5, 0)))
				for who, said := range []string{"work 0", "work 1"} {
					want := withWorks(h, who, append(slices.Clone(h.Tenants[who].Works), impl.Work{F: f, Sat: one.Sat, Values: one.Values, Left: one.Cost}))
					want.Cache = impl.Cache{Room: 3, Entries: []impl.Known{a, b, one}}
					checkDo(t, h, impl.HallOp{Who: who, Text: formulaText(f)}, want, said)
				}
			}
		}
	}
	// Remembered, a formula of too many steps has a Lookup.
	long := nowhere(24)
	known := impl.Known{Digest: digestOf(long), Sat: true, Values: []int{1}, Cost: 12}
	h := hallOf(impl.Cache{Room: 2, Entries: []impl.Known{known, a}}, tenantOf("k", 5, 3))
	want := hallOf(impl.Cache{Room: 2, Entries: []impl.Known{a, known}}, tenantOf("k", 5, 3, impl.Work{F: long, Sat: true, Values: []int{1}, Left: 12}))
	checkDo(t, h, impl.HallOp{Text: formulaText(long)}, want, "work 0")
}

// What is busy leaves all alone: also the order of what is remembered.
func TestHallAskOfTheBusy(t *testing.T) {
	k := asked(t, impl.Cnf{N: 2, Clauses: [][]int{{1}, {-1, 2}}})
	for _, c := range []impl.Cache{{}, cacheOf(3, "a"), cacheOf(1, "a"), {Room: 3, Entries: []impl.Known{k, entry("a")}}, {Room: 2, Entries: []impl.Known{k, entry("a")}}} {
		for _, one := range []impl.Tenant{
			tenantOf("k", 5, 0), tenantOf("k", 5, 0, works(3, 1)...), tenantOf("k", 5, 1, aWork(2, 0)), tenantOf("k", 5, 1, aWork(0, 0)), tenantOf("k", 5, 2, slices.Concat(works(1, 0), works(3, 1), works(3, 2), works(1, 0))...), tenantOf("k", 5, 39, works(39, 0)...),
			// It has as many as there may be, whatever waits.
			tenantOf("k", 5, 40, works(40, 0)...), tenantOf("k", 5, 40, works(40, 1)...), tenantOf("k", 5, 40, works(40, 2)...), tenantOf("k", 5, 0, works(40, 2)...), tenantOf("k", 5, 20, append(works(19, 0), works(21, 1)...)...),
		} {
			h := hallOf(c, tenantOf("i", 5, 3), one, tenantOf("j", 5, 3))
			checkDo(t, h, impl.HallOp{Who: 1, Text: oneText}, h, "busy")
			checkDo(t, h, impl.HallOp{Who: 1, Text: "p cnf 1 1\n1 0\n"}, h, "busy")
			checkDoAsWorkedOut(t, h, impl.HallOp{Who: 2, Text: oneText})
		}
		// Just not busy: one fewer waits, or there is one work fewer.
		for _, one := range []impl.Tenant{tenantOf("k", 5, 1), tenantOf("k", 5, 1, works(39, 1)...), tenantOf("k", 5, 3, slices.Concat(works(1, 0), works(3, 1), works(3, 2), works(1, 0))...), tenantOf("k", 5, 40, works(39, 0)...)} {
			h := hallOf(c, one)
			want := withWorks(h, 0, append(slices.Clone(one.Works), aWork(5, 0)))
			want.Cache, _, _ = lookupOf(c, aWork(5, 0).F)
			checkDo(t, h, impl.HallOp{Text: oneText}, want, "work "+strconv.Itoa(len(one.Works)))
		}
	}
}

// A tenant has MaxWorks works over time, and no more.
func TestHallAskUpToMaxWorks(t *testing.T) {
	h, _ := impl.HallStart([]string{"k", "j"}, []int{100000, 0}, 1, 3)
	for i := range 43 {
		for who := range 2 {
			want := "work " + strconv.Itoa(i)
			if i >= 40 {
				want = "busy"
			}
			after, said := impl.HallDo(h, impl.HallOp{Who: who, Text: oneText})
			if said != want {
				t.Fatalf("tenant %d is told %q at ask %d, want %q", who, said, i, want)
			}
			h = after
		}
		// One has it done, the other calls it off.
		h, _ = impl.HallRun(h, []impl.HallOp{{Kind: impl.HallTick}, {Kind: impl.HallOff, Who: 1, N: i}})
	}
	for _, w := range h.Tenants[0].Works {
		if !sameWork(w, aWork(0, 1)) {
			t.Fatalf("a work is not done: %v", w)
		}
	}
	for _, w := range h.Tenants[1].Works {
		if !sameWork(w, aWork(5, 2)) {
			t.Fatalf("a work is not off: %v", w)
		}
	}
}

func TestHallTickAtTheEdges(t *testing.T) {
	const waits, done, off = 0, 1, 2
	type left [2]int
	for _, k := range []struct {
		quota       int
		works, want []left
	}{
		{5, nil, nil},
		// More than is left, as much, less.
		{5, []left{{4, waits}}, []left{{0, done}}}, {5, []left{{5, waits}}, []left{{0, done}}}, {5, []left{{6, waits}}, []left{{1, waits}}},
		{1, []left{{1, waits}}, []left{{0, done}}}, {1, []left{{2, waits}}, []left{{1, waits}}}, {100000, []left{{1000000, waits}}, []left{{900000, waits}}}, {100000, []left{{100000, waits}, {1, waits}}, []left{{0, done}, {1, waits}}},
		// One after the other, spent amid a work.
		{5, []left{{2, waits}, {3, waits}}, []left{{0, done}, {0, done}}}, {5, []left{{2, waits}, {4, waits}}, []left{{0, done}, {1, waits}}}, {5, []left{{2, waits}, {2, waits}, {9, waits}, {1, waits}}, []left{{0, done}, {0, done}, {8, waits}, {1, waits}}}, {5, []left{{9, waits}, {1, waits}}, []left{{4, waits}, {1, waits}}}, {5, []left{{5, waits}, {5, waits}}, []left{{0, done}, {5, waits}}},
		// A quota of none.
		{0, []left{{1, waits}, {7, waits}}, []left{{1, waits}, {7, waits}}}, {0, []left{{0, waits}}, []left{{0, done}}}, {0, []left{{1, waits}, {0, waits}, {2, waits}, {0, waits}}, []left{{1, waits}, {0, done}, {2, waits}, {0, done}}},
		// No steps left: done at once, whatever is left to spend.
		{5, []left{{0, waits}}, []left{{0, done}}}, {5, []left{{0, waits}, {5, waits}}, []left{{0, done}, {0, done}}}, {5, []left{{5, waits}, {0, waits}}, []left{{0, done}, {0, done}}}, {5, []left{{9, waits}, {0, waits}, {1, waits}, {0, waits}}, []left{{4, waits}, {0, done}, {1, waits}, {0, done}}},
		// Works that are off or done in between spend nothing, and stay as they are.
		{5, []left{{2, off}, {3, waits}, {4, done}, {1, off}, {2, waits}, {0, off}, {0, done}, {1, waits}}, []left{{2, off}, {0, done}, {4, done}, {1, off}, {0, done}, {0, off}, {0, done}, {1, waits}}},
		{5, []left{{9, off}, {9, done}}, []left{{9, off}, {9, done}}}, {100000, []left{{0, off}, {1000000, off}, {1000000, done}}, []left{{0, off}, {1000000, off}, {1000000, done}}},
	} {
		made := func(lefts []left) (out []impl.Work) {
			for _, one := range lefts {
				out = append(out, aWork(one[0], one[1]))
			}
			return out
		}
		h := hallOf(cacheOf(3, "a", "b"), tenantOf("k", k.quota, 40, made(k.works)...))
		want := withWorks(h, 0, made(k.want))
		checkDo(t, h, impl.HallOp{Kind: impl.HallTick}, want, "")
		// Each tenant has a quota of its own.
		for _, quota := range []int{0, 1, 100000} {
			h := hallOf(h.Cache, tenantOf("a", quota, 2, aWork(1, 0), aWork(1, 0)), h.Tenants[0], tenantOf("b", quota, 2, aWork(100000, 0), aWork(1, 0)))
			checkDoAsWorkedOut(t, h, impl.HallOp{Kind: impl.HallTick})
			after, _ := impl.HallDo(h, impl.HallOp{Kind: impl.HallTick})
			if !sameTenant(after.Tenants[1], want.Tenants[0]) {
				t.Errorf("HallTick of %s: %s", toldHall(h), toldHall(after))
			}
		}
	}
}

func TestHallPollTakeOffAtTheEdges(t *testing.T) {
	h := threeOf(tenantOf("k", 5, 3, aWork(2, 0), aWork(0, 1), aWork(1, 2), aWork(0, 0)))
	cert, _ := certOf("k", aWork(0, 1).F)
	called := func(n int) impl.Hall {
		works := slices.Clone(h.Tenants[1].Works)
		works[n].State = 2
		return withWorks(h, 1, works)
	}
	for _, k := range []struct {
		kind, n int
		want    impl.Hall
		said    string
	}{
		{2, 0, h, "waits"}, {2, 1, h, "done"}, {2, 2, h, "off"}, {2, 3, h, "waits"},
		{3, 0, h, "waits"}, {3, 1, h, certTextOf(cert)}, {3, 2, h, "off"}, {3, 3, h, "waits"},
		{4, 0, called(0), "off"}, {4, 1, h, "done"}, {4, 2, h, "off"}, {4, 3, called(3), "off"},
	} {
		checkDo(t, h, impl.HallOp{Kind: k.kind, Who: 1, N: k.n, Text: "passed over"}, k.want, k.said)
	}
	for kind := 2; kind <= 4; kind++ {
		for _, n := range append(edgeNumbers(), 4, 5, 40) {
			if n < 0 || n > 3 {
				checkDo(t, h, impl.HallOp{Kind: kind, Who: 1, N: n}, h, "none")
			}
		}
		// A tenant without works; one whose works another tenant does not have.
		none := threeOf(tenantOf("k", 5, 3))
		checkDo(t, none, impl.HallOp{Kind: kind, Who: 1}, none, "none")
		checkDo(t, h, impl.HallOp{Kind: kind, Who: 0, N: 1}, h, "none")
	}
	// What is off stays off, and is told so.
	after, _ := impl.HallRun(h, []impl.HallOp{{Kind: 4, Who: 1}, {Kind: 1}})
	for kind := 2; kind <= 4; kind++ {
		checkDo(t, after, impl.HallOp{Kind: kind, Who: 1}, after, "off")
	}
}

func TestHallTake(t *testing.T) {
	never := impl.Cnf{N: 2, Clauses: fourOf(nil, 1, 2)}
	fs := append([]impl.Cnf{{}, {N: 24}, {Clauses: [][]int{{}}}, never, aWork(0, 0).F, {N: 2, Clauses: [][]int{{2, 2}, {-1, 2, 1}}}}, certFormulas(111, 20)...)
	sat, unsat := 0, 0
	for i, f := range fs {
		for _, key := range []string{"", "k", strings.Repeat("k", 64), strings.Repeat("\x00", i%65)} {
			// What a work was told to be is not what its certificate rests on.
			h := hallOf(impl.Cache{}, tenantOf("other", 0, 0), tenantOf(key, 0, 0, impl.Work{F: f, Sat: i%2 == 0, Values: []int{5}, Left: i, State: 1}))
			op := impl.HallOp{Kind: impl.HallTake, Who: 1}
			checkDoAsWorkedOut(t, h, op)
			_, said := impl.HallDo(h, op)
			c, ok := impl.ReadCert(said)
			if !ok {
				if _, issued := certOf(key, f); issued || said != "none" {
					t.Errorf("no certificate of %v: %.80q", f, said)
				}
				continue
			}
			if impl.Verify(key, f, c) != impl.CertOk || impl.Verify("another", f, c) != impl.CertMark {
				t.Errorf("the certificate of %v does not verify: %s", f, shown(c))
			}
			if c.Sat {
				sat++
			} else {
				unsat++
			}
		}
	}
	if sat < 50 || unsat < 50 {
		t.Error("too few to tell", sat, unsat)
	}
}

// A formula that cannot be true and has no proof of at most MaxProof clauses is worked on all the same; it has no certificate.
func TestHallTakeWithoutIssue(t *testing.T) {
	within, beyond := combed([]int{8, 6, 4, 3, 2}, false), combed([]int{8, 6, 4, 3, 2}, true)
	h, _ := impl.HallStart([]string{"k"}, []int{100000}, 3, 2)
	ops := []impl.HallOp{{Text: formulaText(within)}, {Text: formulaText(beyond)}, {Kind: 3, N: 1}, {Kind: 1}, {Kind: 2, N: 1}, {Kind: 3, N: 1}, {Kind: 3}, {Text: formulaText(beyond)}, {Kind: 4, N: 2}, {Kind: 3, N: 2}}
	_, said := impl.HallRun(h, ops)
	c, _ := certOf("k", within)
	if want := []string{"work 0", "work 1", "waits", "", "done", "none", certTextOf(c), "work 2", "off", "off"}; !slices.Equal(said, want) {
		t.Errorf("said %.300q", said)
	}
}

func TestHallRunAtTheEdges(t *testing.T) {
	h := threeOf(tenantOf("k", 5, 3, aWork(2, 0)))
	after, said := impl.HallRun(h, nil)
	if !sameHall(after, h) || len(said) != 0 {
		t.Error("a run of no op", toldHall(after), said)
	}
	ops := []impl.HallOp{{Kind: 4, Who: 1}, {Who: 1, Text: oneText}, {Kind: 1}}
	for len(ops) < 402 {
		ops = append(ops, impl.HallOp{Kind: 2, Who: 1, N: len(ops) % 3})
	}
	for _, many := range []int{1, 2, 3, 4, 399, 400, 401, 402} {
		after, said := impl.HallRun(h, ops[:many])
		want, wantSaid := h, []string(nil)
		if many <= 400 {
			for _, op := range ops[:many] {
				next, one := doneOf(want, op)
				want, wantSaid = next, append(wantSaid, one)
			}
		}
		if !sameHall(after, want) || !slices.Equal(said, wantSaid) {
			t.Errorf("a run of %d ops: %s and %d said, want %s", many, toldHall(after), len(said), toldHall(want))
		}
	}
	for _, h := range notHalls() {
		for _, many := range []int{0, 1, 400, 401} {
			after, said := impl.HallRun(h, ops[:many])
			if !sameHall(after, h) || !slices.Equal(said, make([]string, many%401)) {
				t.Errorf("a run of %d ops in %s: %s %q", many, toldHall(h), toldHall(after), said)
			}
		}
	}
}

func TestMineAndSeen(t *testing.T) {
	ops := []impl.HallOp{{Text: "a"}, {Kind: 1}, {Kind: 2, Who: 1, N: 3}, {Kind: 1, Who: 1}, {Kind: 3, Who: -1}, {Kind: 5}, {Kind: 1, Who: -7}, {Kind: -1, Who: 1}, {Kind: 4, Who: 8, N: -2, Text: "b"}, {Kind: 1, Who: 8}}
	said := []string{"0", "1", "2", "3", "4", "5", "6", "7", "8", "9"}
	for _, k := range []struct {
		who        int
		mine, seen []int
	}{
		{0, []int{0, 1, 3, 5, 6, 9}, []int{0, 5}},
		{1, []int{1, 2, 3, 6, 7, 9}, []int{2, 7}},
		{-1, []int{1, 3, 4, 6, 9}, []int{4}},
		{8, []int{1, 3, 6, 8, 9}, []int{8}},
		// Ticks are all there is, also for the one who is told to have asked for one.
		{2, []int{1, 3, 6, 9}, nil}, {-7, []int{1, 3, 6, 9}, nil}, {math.MaxInt, []int{1, 3, 6, 9}, nil}, {math.MinInt, []int{1, 3, 6, 9}, nil},
	} {
		var mine []impl.HallOp
		for _, i := range k.mine {
			mine = append(mine, ops[i])
		}
		var seen []string
		for _, i := range k.seen {
			seen = append(seen, said[i])
		}
		if got := impl.Mine(ops, k.who); !slices.Equal(got, mine) {
			t.Errorf("Mine of %d: %v, want %v", k.who, got, mine)
		}
		if got := impl.Seen(ops, said, k.who); !slices.Equal(got, seen) {
			t.Errorf("Seen of %d: %q, want %q", k.who, got, seen)
		}
		for _, other := range [][]string{nil, said[:9], append(slices.Clone(said), "10"), said[:1], slices.Concat(said, said)} {
			if got := impl.Seen(ops, other, k.who); len(got) != 0 {
				t.Errorf("Seen of %d ops and %d said: %q", len(ops), len(other), got)
			}
		}
		if len(impl.Mine(nil, k.who)) != 0 || len(impl.Seen(nil, nil, k.who)) != 0 || len(impl.Seen(nil, said, k.who)) != 0 {
			t.Error("of no ops")
		}
	}
	// There is no bound to how many.
	many := slices.Repeat(ops, 100)
	if len(impl.Mine(many, 0)) != 600 || len(impl.Seen(many, slices.Repeat(said, 100), 0)) != 200 {
		t.Error("of 1000 ops")
	}
}

// hallTexts are of few formulas, most in more than one order, and some that are bad.
func hallTexts(seed uint64) []string {
	d := &dice{seed}
	texts := []string{oneText, "p cnf 0 0\n", "p cnf 0 1\n0\n", "p cnf 1 2\n1 0\n-1 0\n", "p cnf 3 0\n", "q", "", "p cnf 1 2\n1 0\n"}
	for _, f := range slices.Concat(someFormulas(seed, 14), []impl.Cnf{d.crowded(3), d.crowded(4), pigeons(3)}) {
		texts = append(texts, formulaText(f), formulaText(d.shuffled(f)))
	}
	return texts
}

// op is mostly of one of the tenants, and mostly about one of its first works.
func (d *dice) op(tenants int, texts []string) impl.HallOp {
	op := impl.HallOp{Kind: []int{0, 0, 0, 1, 1, 2, 2, 3, 3, 4}[d.below(10)], Who: d.below(max(tenants, 1)), N: d.below(6), Text: texts[d.below(len(texts))]}
	all := edgeNumbers()
	switch d.below(40) {
	case 0:
		op.Kind = []int{-1, 5, all[d.below(len(all))]}[d.below(3)]
	case 1:
		op.Who = []int{-1, tenants, all[d.below(len(all))]}[d.below(3)]
	case 2:
		op.N = []int{-1, 39, 40, all[d.below(len(all))]}[d.below(4)]
	}
	return op
}

func (d *dice) ops(many int, tenants int, texts []string) []impl.HallOp {
	ops := make([]impl.HallOp, many)
	for i := range ops {
		ops[i] = d.op(tenants, texts)
	}
	return ops
}

func (d *dice) work(texts []string) impl.Work {
	f, _, _ := formulaOf(texts[d.below(len(texts))])
	return impl.Work{F: f, Sat: d.below(2) == 0, Values: d.edges(3), Left: d.below(12) * d.below(12), State: d.below(3)}
}

func (d *dice) tenant(texts []string) impl.Tenant {
	one := tenantOf(d.text(d.below(65)), []int{0, 1, 2, 5, 20, 100000}[d.below(6)], 5+d.below(3))
	for range d.below(6) {
		one.Works = append(one.Works, d.work(texts))
	}
	if d.below(15) == 0 {
		one.Works = slices.Concat(one.Works, works(40-len(one.Works), 1+d.below(2)))
	}
	return one
}

// hall stands anywhere; now and then it is none.
func (d *dice) hall(texts []string) impl.Hall {
	h := hallOf(d.cache())
	for range d.below(5) {
		h.Tenants = append(h.Tenants, d.tenant(texts))
	}
	for i := range h.Cache.Entries {
		if f, code, _ := formulaOf(texts[d.below(len(texts))]); code == 0 && d.below(3) == 0 {
			h.Cache.Entries[i].Digest = digestOf(f)
		}
	}
	if wrong := notTenants(); len(h.Tenants) > 0 && d.below(8) == 0 {
		h.Tenants[d.below(len(h.Tenants))] = wrong[d.below(len(wrong))]
	}
	return h
}

func TestHallOkAndDoAsWorkedOut(t *testing.T) {
	texts := hallTexts(112)
	d := &dice{112}
	good, bad := 0, 0
	for range 1500 {
		h := d.hall(texts)
		checkHallOk(t, "any hall", h, isHall(h))
		if isHall(h) {
			good++
		} else {
			bad++
		}
		for range 4 {
			checkDoAsWorkedOut(t, h, d.op(len(h.Tenants), texts))
		}
	}
	if good < 500 || bad < 200 {
		t.Error("too few to tell", good, bad)
	}
}

func TestHallRunAsWorkedOut(t *testing.T) {
	texts := hallTexts(113)
	d := &dice{113}
	for range 40 {
		h := d.hall(texts)
		ops := d.ops(d.below(120), len(h.Tenants), texts)
		got, said := impl.HallRun(h, ops)
		want, one := h, h
		for i, op := range ops {
			next, wantSaid := doneOf(want, op)
			after, oneSaid := impl.HallDo(one, op)
			if oneSaid != wantSaid || said[i] != wantSaid || !sameHall(after, next) {
				t.Fatalf("op %d %s in %s: %.80q and %.80q, want %.80q", i, toldOp(op), toldHall(want), oneSaid, said[i], wantSaid)
			}
			want, one = next, after
		}
		if !sameHall(got, want) || len(said) != len(ops) {
			t.Errorf("HallRun of %d ops: %s, want %s", len(ops), toldHall(got), toldHall(want))
		}
	}
}

// session is a hall that began with HallStart, and what is asked of it.
type session struct {
	keys   []string
	quotas []int
	most   int
	room   int
	ops    []impl.HallOp
}

func (d *dice) session(texts []string) session {
	s := session{most: []int{0, 1, 2, 3, 5, 40}[d.below(6)], room: []int{0, 1, 2, 8, 50}[d.below(5)]}
	for range 1 + d.below(8) {
		s.keys = append(s.keys, d.text(d.below(65)))
		s.quotas = append(s.quotas, []int{0, 1, 3, 7, 30, 200, 100000}[d.below(7)])
	}
	s.ops = d.ops(400, len(s.keys), texts)
	return s
}

func (s session) start(t *testing.T, room int) impl.Hall {
	t.Helper()
	h, ok := impl.HallStart(s.keys, s.quotas, s.most, room)
	if !ok || !impl.HallOk(h) {
		t.Fatalf("no hall of %q %v %d %d", s.keys, s.quotas, s.most, room)
	}
	return h
}

// otherwise is what the tenant asks, and as many ticks between, with other things asked by the others.
func (d *dice) otherwise(s session, who int, texts []string) []impl.HallOp {
	var ops []impl.HallOp
	mine := impl.Mine(s.ops, who)
	for i, op := range mine {
		for len(ops)+len(mine)-i < 400 && d.below(3) > 0 {
			if other := d.op(len(s.keys), texts); other.Who != who && other.Kind != impl.HallTick {
				ops = append(ops, other)
			}
		}
		ops = append(ops, op)
	}
	return ops
}

// wordOf is the first word of what is said, so that it can be counted.
func wordOf(said string) string {
	if strings.Contains(said, "\n") {
		return strings.Fields(said)[1]
	}
	word, _, _ := strings.Cut(said, " ")
	return word
}

// Promise 11: a tenant is told just what it would be told alone in a hall that remembers nothing, whatever the others do.
func TestATenantIsToldWhatItIsToldAlone(t *testing.T) {
	texts := hallTexts(114)
	d := &dice{114}
	words := map[string]int{}
	remembered := 0
	for range 60 {
		s := d.session(texts)
		after, said := impl.HallRun(s.start(t, s.room), s.ops)
		remembered += len(after.Cache.Entries)
		for who := -1; who <= len(s.keys); who++ {
			seen := impl.Seen(s.ops, said, who)
			for _, one := range seen {
				words[wordOf(one)]++
			}
			mine := impl.Mine(s.ops, who)
			_, alone := impl.HallRun(s.start(t, 0), mine)
			if !slices.Equal(seen, impl.Seen(mine, alone, who)) {
				t.Fatalf("tenant %d of %d, room %d, is told something else alone", who, len(s.keys), s.room)
			}
			ops := d.otherwise(s, who, texts)
			_, other := impl.HallRun(s.start(t, []int{0, 1, 8, 50}[d.below(4)]), ops)
			if len(ops) > 400 || !slices.Equal(seen, impl.Seen(ops, other, who)) {
				t.Fatalf("tenant %d of %d, room %d, is told something else beside others", who, len(s.keys), s.room)
			}
		}
	}
	for _, word := range []string{"work", "busy", "bad", "waits", "done", "off", "none", "sat", "unsat", ""} {
		if words[word] < 50 {
			t.Error("too few to tell", word, words[word])
		}
	}
	if remembered < 100 {
		t.Error("too little is remembered to tell", remembered)
	}
}

// checkTakes asks that each certificate that was told is that of the work, by the tenant's own key.
func checkTakes(t *testing.T, s session, after impl.Hall, said []string) int {
	t.Helper()
	takes := 0
	for i, op := range s.ops {
		if op.Kind != impl.HallTake || !strings.Contains(said[i], "\n") {
			continue
		}
		takes++
		w := after.Tenants[op.Who].Works[op.N]
		c, ok := impl.ReadCert(said[i])
		if !ok || impl.Verify(s.keys[op.Who], w.F, c) != impl.CertOk || impl.Verify(s.keys[op.Who]+"\x01", w.F, c) != impl.CertMark {
			t.Fatalf("the certificate %.200q of %v does not verify", said[i], w.F)
		}
		if c.Sat != w.Sat || c.Sat && c.Body != assignmentText(w.Values) {
			t.Fatalf("the certificate %.200q tells something else than the work %v", said[i], w)
		}
	}
	return takes
}

// Promise 11: certificates verify, and what a work was told to be is what Solve answers.
func TestCertificatesOfAHallVerify(t *testing.T) {
	texts := hallTexts(115)
	d := &dice{115}
	takes, done := 0, 0
	for range 60 {
		s := d.session(texts)
		after, said := impl.HallRun(s.start(t, s.room), s.ops)
		takes += checkTakes(t, s, after, said)
		for _, one := range after.Tenants {
			for _, w := range one.Works {
				values, sat := solvedOf(w.F)
				least, ok := impl.Solve(w.F)
				if w.Sat != sat || w.Sat != ok || !slices.Equal(w.Values, values) || !slices.Equal(w.Values, least) {
					t.Fatalf("the work %v is told to be something else than %v %v", w, values, sat)
				}
				if w.State == impl.WorkDone {
					done++
				}
			}
		}
	}
	if takes < 500 || done < 300 {
		t.Error("too few to tell", takes, done)
	}
}

// ticksOf is how many ticks a waiting work needs from now on, by its steps and those of the waiting ones ahead; -1 where it is never done.
func ticksOf(one impl.Tenant, n int) int {
	steps := 0
	for _, w := range one.Works[:n+1] {
		if w.State == 0 {
			steps += w.Left
		}
	}
	switch {
	case one.Works[n].Left == 0:
		return 1
	case one.Quota == 0:
		return -1
	}
	return (steps + one.Quota - 1) / one.Quota
}

// Promise 11: a work is done when its steps and those of the waiting ones ahead of it are spent, and not one tick sooner.
func TestWorksAreDoneWhenTheirStepsAreSpent(t *testing.T) {
	texts := hallTexts(116)
	d := &dice{116}
	ends, never := 0, 0
	for range 80 {
		s := d.session(texts)
		// Any beginning, and then nothing but ticks, and asks of works behind.
		h, _ := impl.HallRun(s.start(t, s.room), s.ops[:d.below(150)])
		for who, one := range h.Tenants {
			for n, w := range one.Works {
				if w.State != impl.WorkWaits {
					continue
				}
				ticks := ticksOf(one, n)
				if ticks < 0 || ticks > 130 {
					never++
				} else {
					ends++
				}
				checkDoneAt(t, d, h, who, n, ticks, texts)
			}
		}
	}
	if ends < 100 || never < 20 {
		t.Error("too few to tell", ends, never)
	}
}

// checkDoneAt ticks and polls up to one tick behind the one at which the work is due, or long enough where it never is.
func checkDoneAt(t *testing.T, d *dice, h impl.Hall, who int, n int, ticks int, texts []string) {
	t.Helper()
	behind := impl.HallOp{Who: who, Text: texts[d.below(len(texts))]}
	poll := impl.HallOp{Kind: impl.HallPoll, Who: who, N: n}
	ops := []impl.HallOp{behind, poll}
	for range 130 {
		ops = append(ops, impl.HallOp{Kind: impl.HallTick}, behind, poll)
	}
	_, said := impl.HallRun(h, ops)
	for tick := range 131 {
		want := "waits"
		if ticks >= 0 && tick >= ticks {
			want = "done"
		}
		if got := said[1+3*tick]; got != want {
			t.Fatalf("work %d of tenant %d in %s is told %q behind %d ticks, due behind %d", n, who, toldHall(h), got, tick, ticks)
		}
	}
}

// checkGrown asks what may become of a tenant's works in one op.
func checkGrown(t *testing.T, op impl.HallOp, who int, was impl.Tenant, now impl.Tenant) {
	t.Helper()
	if len(now.Works) < len(was.Works) || len(now.Works) > len(was.Works)+1 || now.Key != was.Key || now.Quota != was.Quota || now.Most != was.Most {
		t.Fatalf("%s makes another tenant of %d", toldOp(op), who)
	}
	waits := 0
	for i, w := range now.Works {
		if w.State == impl.WorkWaits {
			waits++
		}
		if i == len(was.Works) {
			if op.Kind != impl.HallAsk || op.Who != who || w.State != impl.WorkWaits {
				t.Fatalf("%s makes a work of tenant %d", toldOp(op), who)
			}
			continue
		}
		old := was.Works[i]
		ticked := op.Kind == impl.HallTick && old.State == impl.WorkWaits
		called := op.Kind == impl.HallOff && op.Who == who && op.N == i && old.State == impl.WorkWaits
		if ticked && (w.Left > old.Left || w.State == impl.WorkOff || (w.State == impl.WorkDone) != (w.Left == 0)) {
			t.Fatalf("%s makes %v of %v", toldOp(op), w, old)
		}
		if called != (w.State == impl.WorkOff && old.State != impl.WorkOff) {
			t.Fatalf("%s calls off %v", toldOp(op), old)
		}
		if ticked {
			old.Left, old.State = w.Left, w.State
		}
		if called {
			old.State = impl.WorkOff
		}
		if !sameWork(w, old) {
			t.Fatalf("%s makes %v of %v", toldOp(op), w, old)
		}
	}
	if waits > now.Most {
		t.Fatalf("%d works of tenant %d wait, behind %s", waits, who, toldOp(op))
	}
}

// Promise 11: a work that was called off or is done stays so, works keep their numbers, and never do more than Most wait.
func TestWorksStayWhatTheyAre(t *testing.T) {
	texts := hallTexts(117)
	d := &dice{117}
	for range 30 {
		s := d.session(texts)
		h := s.start(t, s.room)
		for _, op := range s.ops {
			after, _ := impl.HallDo(h, op)
			if !impl.HallOk(after) || len(after.Tenants) != len(h.Tenants) || after.Cache.Room != s.room {
				t.Fatalf("%s makes %s", toldOp(op), toldHall(after))
			}
			for who := range h.Tenants {
				checkGrown(t, op, who, h.Tenants[who], after.Tenants[who])
			}
			h = after
		}
	}
}

// Nothing is kept from one call to another: calls at the same time, and calls again, answer as one alone does.
func TestHallsAtTheSameTime(t *testing.T) {
	texts := hallTexts(118)
	s := (&dice{118}).session(texts)
	h := s.start(t, s.room)
	after, alone := impl.HallRun(h, s.ops)
	wrong := notHalls()
	var group sync.WaitGroup
	for i := range 8 {
		group.Go(func() {
			// All of them look at one hall and at one list of ops.
			if got, said := impl.HallRun(h, s.ops); !sameHall(got, after) || !slices.Equal(said, alone) {
				t.Errorf("worker %d is answered in another way than one alone", i)
			}
			for _, one := range wrong {
				if impl.HallOk(one) || !impl.HallOk(after) {
					t.Errorf("worker %d is told something else of a hall", i)
				}
			}
		})
	}
	group.Wait()
}

// guardedWorks have spare room behind them, behind the clauses of each, and behind its values.
type guardedWorks struct {
	whole  []impl.Work
	was    []impl.Work
	fs     []guardedCnf
	values []guarded
}

func guardWorks(list []impl.Work) guardedWorks {
	var g guardedWorks
	for _, w := range list {
		f, values := guardCnf(w.F), guard(w.Values)
		w.F, w.Values = f.f, values.list
		g.whole = append(g.whole, w)
		g.fs = append(g.fs, f)
		g.values = append(g.values, values)
	}
	for i := range 5 {
		g.whole = append(g.whole, impl.Work{Left: 7000 + i})
	}
	g.was = slices.Clone(g.whole)
	return g
}

func (g guardedWorks) check(t *testing.T, what string) {
	t.Helper()
	for i := range g.fs {
		g.fs[i].check(t, what)
		g.values[i].check(t, what)
	}
	for i, w := range g.whole {
		if !sameWork(w, g.was[i]) || !sameMemory(w.F.Clauses, g.was[i].F.Clauses) || !sameMemory(w.Values, g.was[i].Values) {
			t.Fatalf("%s wrote into its argument at work %d", what, i)
		}
	}
}

func (g guardedWorks) spoil() {
	for i := range g.fs {
		g.fs[i].spoil()
		g.values[i].spoil()
	}
	for i := range g.whole {
		g.whole[i] = impl.Work{Left: 9000 + i}
	}
}

func (g guardedWorks) mend() {
	for i := range g.fs {
		g.fs[i].mend()
		g.values[i].mend()
	}
	copy(g.whole, g.was)
}

// guardedHall has spare room behind its tenants, the works of each, and its entries.
type guardedHall struct {
	h     impl.Hall
	whole []impl.Tenant
	was   []impl.Tenant
	works []guardedWorks
	cache guardedCache
}

func guardHall(h impl.Hall) guardedHall {
	g := guardedHall{cache: guardCache(h.Cache)}
	for _, one := range h.Tenants {
		some := guardWorks(one.Works)
		one.Works = some.whole[:len(one.Works)]
		g.works = append(g.works, some)
		g.whole = append(g.whole, one)
	}
	for i := range 5 {
		g.whole = append(g.whole, impl.Tenant{Key: "spare", Quota: 7000 + i})
	}
	g.was = slices.Clone(g.whole)
	g.h = impl.Hall{Tenants: g.whole[:len(h.Tenants)], Cache: g.cache.c}
	return g
}

func (g guardedHall) check(t *testing.T, what string) {
	t.Helper()
	g.cache.check(t, what)
	for _, some := range g.works {
		some.check(t, what)
	}
	for i, one := range g.whole {
		if !sameTenant(one, g.was[i]) || !sameMemory(one.Works, g.was[i].Works) {
			t.Fatalf("%s wrote into its argument at tenant %d", what, i)
		}
	}
}

func (g guardedHall) spoil() {
	g.cache.spoil()
	for _, some := range g.works {
		some.spoil()
	}
	for i := range g.whole {
		g.whole[i] = impl.Tenant{Key: "spoiled", Quota: -i}
	}
}

func (g guardedHall) mend() {
	g.cache.mend()
	for _, some := range g.works {
		some.mend()
	}
	copy(g.whole, g.was)
}

// hallParts are the lists of a hall, each with the room behind it.
type hallParts struct {
	tenants []impl.Tenant
	works   [][]impl.Work
	clauses [][][]int
	numbers [][]int
}

func partsOf(h impl.Hall) hallParts {
	p := hallParts{tenants: h.Tenants[:cap(h.Tenants)]}
	for _, one := range h.Tenants {
		p.works = append(p.works, one.Works[:cap(one.Works)])
		for _, w := range one.Works {
			p.clauses = append(p.clauses, w.F.Clauses[:cap(w.F.Clauses)])
			p.numbers = append(append(p.numbers, w.F.Clauses...), w.Values)
		}
	}
	for _, k := range h.Cache.Entries {
		p.numbers = append(p.numbers, k.Values)
	}
	return p
}

func (p hallParts) write() {
	for i := range p.tenants {
		p.tenants[i] = impl.Tenant{Key: "over", Quota: -i}
	}
	for n, some := range p.works {
		for i := range some {
			some[i] = impl.Work{Left: -1000*n - i}
		}
	}
	for n, some := range p.clauses {
		for i := range some {
			some[i] = []int{-1000*n - i}
		}
	}
}

func (p hallParts) check(t *testing.T, what string) {
	t.Helper()
	for i, one := range p.tenants {
		if !sameTenant(one, impl.Tenant{Key: "over", Quota: -i}) {
			t.Fatalf("%s answers the tenants of an argument", what)
		}
	}
	for n, some := range p.works {
		for i, w := range some {
			if !sameWork(w, impl.Work{Left: -1000*n - i}) {
				t.Fatalf("%s answers works of an argument or of another tenant", what)
			}
		}
	}
	for n, some := range p.clauses {
		for i, c := range some {
			if !slices.Equal(c, []int{-1000*n - i}) {
				t.Fatalf("%s answers clauses of an argument or of another work", what)
			}
		}
	}
}

// checkApartHall writes all over an answer and then all over its arguments: neither may be seen in the other, nor one list of the answer in another.
func checkApartHall(t *testing.T, what string, h impl.Hall, args ...argument) {
	t.Helper()
	p := partsOf(h)
	checkApartLists(t, what, p.numbers, args...)
	checkApartCache(t, what, impl.Cache{Entries: h.Cache.Entries}, impl.Known{}, args...)
	p.write()
	for _, g := range args {
		g.check(t, what+", written over its answer,")
		g.spoil()
	}
	p.check(t, what)
	for _, g := range args {
		g.mend()
	}
}

// checkHallFunctionsApart asks every function of the chapter that is about a hall or ops.
func checkHallFunctionsApart(t *testing.T, h guardedHall, ops guardedOf[impl.HallOp]) {
	t.Helper()
	impl.HallOk(h.h)
	h.check(t, "HallOk")
	for _, op := range ops.list[:min(len(ops.list), 5)] {
		after, _ := impl.HallDo(h.h, op)
		checkApartHall(t, "HallDo", after, h)
	}
	after, said := impl.HallRun(h.h, ops.list)
	told := guardOf(said, "other")
	checkApartHall(t, "HallRun", after, h, ops)
	checkApartOf(t, "HallRun", said, "over", h, ops)
	for who := -1; who < 3; who++ {
		checkApartOf(t, "Mine", impl.Mine(ops.list, who), impl.HallOp{Text: "over"}, ops)
		checkApartOf(t, "Seen", impl.Seen(ops.list, told.list, who), "over", ops, told)
		checkApartOf(t, "Seen of fewer", impl.Seen(ops.list, told.list[:len(told.list)/2], who), "over", ops, told)
	}
}

// Promise 15: every function of the chapter answers at any arguments, and writes into none.
func TestHallFunctionsWriteIntoNothing(t *testing.T) {
	texts := hallTexts(119)
	d := &dice{119}
	wrong := notHalls()
	for i := range 150 {
		h := d.hall(texts)
		if i%5 == 0 {
			h = wrong[d.below(len(wrong))]
		}
		many := d.below(12)
		if i%50 == 0 {
			many = 400 + d.below(2)
		}
		ops := d.ops(many, len(h.Tenants), texts)
		checkHallFunctionsApart(t, guardHall(h), guardOf(ops, impl.HallOp{Kind: 77, Text: "other"}))
	}
}

func TestHallStartWritesIntoNothing(t *testing.T) {
	d := &dice{120}
	all := edgeNumbers()
	for range 300 {
		many := d.below(11)
		quotas := upTo(many + d.below(5)/4)
		if many > 0 && d.below(4) == 0 {
			quotas[d.below(many)] = all[d.below(len(all))]
		}
		keys := guardOf(numbered(many), "other")
		list := guard(quotas)
		most, room := d.below(42), d.below(52)
		if d.below(5) == 0 {
			most, room = all[d.below(len(all))], all[d.below(len(all))]
		}
		h, _ := impl.HallStart(keys.list, list.list, most, room)
		checkApartHall(t, "HallStart", h, keys, list)
	}
}

// hallOfOneList has that one list wherever a list of numbers stands.
func hallOfOneList(list []int, most int, room int) impl.Hall {
	one := impl.Work{F: impl.Cnf{N: 2, Clauses: [][]int{list, list}}, Values: list, Left: 3}
	some := []impl.Work{one, one, {F: one.F, Values: list, State: 1}}
	entries := []impl.Known{{Digest: digestOf(aWork(0, 0).F), Values: list}, {Digest: "b", Values: list}}
	return hallOf(impl.Cache{Room: room, Entries: entries}, tenantOf("a", 2, most, some...), tenantOf("b", 2, most, some...))
}

// One list told at several places is several lists in an answer.
func TestHallsOfOneListToldOften(t *testing.T) {
	shared := guard([]int{1})
	for _, most := range []int{2, 5, 1} {
		for _, room := range []int{2, 5, 1} {
			h := hallOfOneList(shared.list, most, room)
			for _, op := range []impl.HallOp{{Text: oneText}, {Text: "p cnf 1 0\n"}, {Kind: 1}, {Kind: 2}, {Kind: 3, N: 2}, {Kind: 4}, {Kind: 5}, {Text: "q"}} {
				after, _ := impl.HallDo(h, op)
				checkApartHall(t, "HallDo of one list told often", after, shared)
				after, _ = impl.HallRun(h, []impl.HallOp{op, op, {Kind: 1}, op})
				checkApartHall(t, "HallRun of one list told often", after, shared)
			}
			after, _ := impl.HallRun(h, make([]impl.HallOp, 401))
			checkApartHall(t, "HallRun of too many", after, shared)
		}
	}
}

// One formula asked again and again shares nothing with what is remembered of it.
func TestAsksOfOneFormulaShareNothing(t *testing.T) {
	for _, room := range []int{0, 1, 5} {
		h, _ := impl.HallStart([]string{"a", "b"}, []int{5, 5}, 40, room)
		ops := slices.Repeat([]impl.HallOp{{Text: oneText}, {Who: 1, Text: oneText}, {Kind: 1}}, 8)
		after, _ := impl.HallRun(h, ops)
		checkApartHall(t, "HallRun of one formula", after)
	}
}
