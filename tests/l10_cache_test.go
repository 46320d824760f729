package tests

import (
	"fmt"
	"math"
	"slices"
	"strconv"
	"strings"
	"sync"
	"testing"

	"loop.example/g00123/impl"
)

func isCost(cost int) bool {
	return cost >= 0 && cost <= 1000000
}

// isCache holds every two entries against each other.
func isCache(c impl.Cache) bool {
	if c.Room < 0 || c.Room > 50 || len(c.Entries) > c.Room {
		return false
	}
	for i, k := range c.Entries {
		if !isCost(k.Cost) || placeOf(c.Entries[:i], k.Digest) >= 0 {
			return false
		}
	}
	return true
}

// placeOf is -1 where no entry has the digest.
func placeOf(entries []impl.Known, digest string) int {
	return slices.IndexFunc(entries, func(k impl.Known) bool { return k.Digest == digest })
}

// foundOf is what CacheFind must answer.
func foundOf(c impl.Cache, digest string) (impl.Cache, impl.Known, bool) {
	at := placeOf(c.Entries, digest)
	if at < 0 || !isCache(c) {
		return c, impl.Known{}, false
	}
	k := c.Entries[at]
	return impl.Cache{Room: c.Room, Entries: slices.Concat(c.Entries[:at], c.Entries[at+1:], []impl.Known{k})}, k, true
}

// putOf is what CachePut must answer.
func putOf(c impl.Cache, k impl.Known) impl.Cache {
	if !isCache(c) || !isCost(k.Cost) {
		return c
	}
	entries := slices.DeleteFunc(slices.Clone(c.Entries), func(old impl.Known) bool { return old.Digest == k.Digest })
	entries = append(entries, k)
	return impl.Cache{Room: c.Room, Entries: entries[max(0, len(entries)-c.Room):]}
}

// costOf goes step by step as long as that is short, and else asks the program, whose costs have tests of their own.
func costOf(f impl.Cnf) int {
	sorted, ok := sortedFormula(f)
	if !ok {
		return -1
	}
	if m := runOf(impl.Machine{F: sorted}, 3000); m.State != 0 {
		return m.Steps
	}
	return impl.MachineCost(f)
}

// askOf is what Ask must answer.
func askOf(f impl.Cnf) (impl.Known, bool) {
	cost := costOf(f)
	if !isFormula(f) || cost < 0 {
		return impl.Known{}, false
	}
	values, sat := solvedOf(f)
	return impl.Known{Digest: digestOf(f), Sat: sat, Values: values, Cost: cost}, true
}

// lookupOf is what Lookup must answer.
func lookupOf(c impl.Cache, f impl.Cnf) (impl.Cache, impl.Known, bool) {
	digest := ""
	if isFormula(f) {
		digest = digestOf(f)
	}
	if found, k, ok := foundOf(c, digest); ok {
		return found, k, true
	}
	k, ok := askOf(f)
	if !ok || !isCache(c) {
		return c, impl.Known{}, false
	}
	return putOf(c, k), k, true
}

func sameKnown(a impl.Known, b impl.Known) bool {
	return a.Digest == b.Digest && a.Sat == b.Sat && a.Cost == b.Cost && slices.Equal(a.Values, b.Values)
}

func sameCache(a impl.Cache, b impl.Cache) bool {
	return a.Room == b.Room && slices.EqualFunc(a.Entries, b.Entries, sameKnown)
}

// told keeps what a failed test tells of a cache short.
func told(c impl.Cache) string {
	var words []string
	for _, k := range c.Entries {
		words = append(words, toldKnown(k))
	}
	return fmt.Sprintf("{room %d, %d entries: %.600s}", c.Room, len(c.Entries), strings.Join(words, " "))
}

func toldKnown(k impl.Known) string {
	return fmt.Sprintf("{%.20q %v %v %d}", k.Digest, k.Sat, k.Values, k.Cost)
}

func checkFind(t *testing.T, c impl.Cache, digest string, want impl.Cache, wantKnown impl.Known, wantOk bool) {
	t.Helper()
	got, k, ok := impl.CacheFind(c, digest)
	if !sameCache(got, want) || !sameKnown(k, wantKnown) || ok != wantOk {
		t.Errorf("CacheFind of %.20q in %s: %s %s %v, want %s %s %v", digest, told(c), told(got), toldKnown(k), ok, told(want), toldKnown(wantKnown), wantOk)
	}
}

func checkPut(t *testing.T, c impl.Cache, k impl.Known, want impl.Cache) {
	t.Helper()
	if got := impl.CachePut(c, k); !sameCache(got, want) {
		t.Errorf("CachePut of %s into %s: %s, want %s", toldKnown(k), told(c), told(got), told(want))
	}
}

func checkAsk(t *testing.T, f impl.Cnf, want impl.Known, wantOk bool) {
	t.Helper()
	if got, ok := impl.Ask(f); !sameKnown(got, want) || ok != wantOk {
		t.Errorf("Ask of %v: %s %v, want %s %v", f, toldKnown(got), ok, toldKnown(want), wantOk)
	}
}

func checkLookup(t *testing.T, c impl.Cache, f impl.Cnf, want impl.Cache, wantKnown impl.Known, wantOk bool) {
	t.Helper()
	got, k, ok := impl.Lookup(c, f)
	if !sameCache(got, want) || !sameKnown(k, wantKnown) || ok != wantOk {
		t.Errorf("Lookup of %v in %s: %s %s %v, want %s %s %v", f, told(c), told(got), toldKnown(k), ok, told(want), toldKnown(wantKnown), wantOk)
	}
}

func asked(t *testing.T, f impl.Cnf) impl.Known {
	t.Helper()
	k, ok := impl.Ask(f)
	if !ok {
		t.Fatalf("nothing is known of %v", f)
	}
	return k
}

// entry is one that no other of another name is like.
func entry(name string) impl.Known {
	k := impl.Known{Digest: name, Sat: len(name)%2 == 1, Cost: 3 * len(name), Values: []int{len(name)}}
	for i := range len(name) {
		k.Values = append(k.Values, int(name[i]))
		k.Cost += int(name[i])
	}
	return k
}

func cacheOf(room int, names ...string) impl.Cache {
	c := impl.Cache{Room: room}
	for _, name := range names {
		c.Entries = append(c.Entries, entry(name))
	}
	return c
}

// numbered are that many names, none of them empty.
func numbered(many int) []string {
	names := make([]string, many)
	for i := range names {
		names[i] = "d" + strconv.Itoa(i)
	}
	return names
}

// costing is the cache with that cost at that entry.
func costing(c impl.Cache, at int, cost int) impl.Cache {
	c.Entries = slices.Clone(c.Entries)
	c.Entries[at].Cost = cost
	return c
}

// notCaches stand just beyond the limits; most have entries of the digests a and "".
func notCaches() []impl.Cache {
	full := append([]string{"a", ""}, numbered(48)...)
	return []impl.Cache{
		cacheOf(-1), cacheOf(51), cacheOf(51, "a", ""), cacheOf(-1, "a", ""), cacheOf(1, "a", ""), cacheOf(0, "a"), cacheOf(0, ""), cacheOf(2, "a", "", "b"), cacheOf(50, append(full, "b")...), cacheOf(51, append(full, "b")...), cacheOf(51, full...),
		cacheOf(math.MinInt, "a", ""), cacheOf(math.MaxInt, "a", ""), cacheOf(256, "a", ""), cacheOf(257, "", "a"), cacheOf(1<<32, "", "a"), cacheOf(1<<32+5, "", "a"),
		cacheOf(3, "a", "", "a"), cacheOf(3, "", "a", ""), cacheOf(5, "", "", "a"), cacheOf(5, "b", "a", "a", ""), cacheOf(50, append(full[:49:49], "a")...), cacheOf(50, append(full[:49:49], "")...),
		costing(cacheOf(2, "a", ""), 0, -1), costing(cacheOf(2, "a", ""), 1, -1), costing(cacheOf(2, "a", ""), 0, 1000001), costing(cacheOf(9, "b", "a", ""), 2, 1000001), costing(cacheOf(50, full...), 49, -1), costing(cacheOf(50, full...), 49, 1000001), costing(cacheOf(50, full...), 25, math.MinInt), costing(cacheOf(2, "a", ""), 0, math.MaxInt), costing(cacheOf(2, "a", ""), 0, 1<<32),
	}
}

// cache has some of few digests, so that many are there already; now and then it is none.
func (d *dice) cache() impl.Cache {
	names := append(numbered(9), "", "\x00", strings.Repeat("x", 32))
	d.shuffle(len(names), func(i, j int) { names[i], names[j] = names[j], names[i] })
	names = names[:d.below(len(names)+1)]
	c := cacheOf(len(names)+d.below(3), names...)
	for i := range c.Entries {
		c.Entries[i] = d.known(c.Entries[i].Digest)
	}
	if len(names) == 0 {
		return c
	}
	switch at := d.below(len(names)); d.below(12) {
	case 0:
		c.Room = len(names) - 1
	case 1:
		c.Entries[at].Cost = []int{-1, 1000001, math.MinInt, math.MaxInt}[d.below(4)]
	case 2:
		c.Entries[at].Digest = c.Entries[d.below(len(names))].Digest
	case 3:
		c.Room = edgeNumbers()[d.below(len(edgeNumbers()))]
	case 4:
		c.Entries[at].Cost = []int{0, 1000000}[d.below(2)]
	}
	return c
}

func (d *dice) known(digest string) impl.Known {
	return impl.Known{Digest: digest, Sat: d.below(2) == 0, Values: d.edges(4), Cost: d.below(1000001)}
}

func (d *dice) digest() string {
	return append(numbered(11), "", "\x00", "\x00\x00", strings.Repeat("x", 32))[d.below(15)]
}

func TestCacheOk(t *testing.T) {
	if impl.MaxRoom != 50 {
		t.Fatal("limit", impl.MaxRoom)
	}
	a := func(cost int) impl.Cache { return costing(cacheOf(1, "a"), 0, cost) }
	for _, k := range []struct {
		c    impl.Cache
		want bool
	}{
		// The room.
		{impl.Cache{}, true}, {cacheOf(-1), false}, {cacheOf(0), true}, {cacheOf(1), true}, {cacheOf(49), true}, {cacheOf(50), true}, {cacheOf(51), false}, {cacheOf(math.MinInt), false}, {cacheOf(math.MaxInt), false}, {cacheOf(-256), false}, {cacheOf(256), false}, {cacheOf(1 << 32), false},
		// As many entries as there is room for, one fewer and one more.
		{cacheOf(0, "a"), false}, {cacheOf(0, ""), false}, {cacheOf(1, "a"), true}, {cacheOf(1, "a", "b"), false}, {cacheOf(2, "a", "b"), true}, {cacheOf(3, "a", "b"), true}, {cacheOf(2, "a", "b", "c"), false}, {cacheOf(50, numbered(49)...), true}, {cacheOf(50, numbered(50)...), true}, {cacheOf(50, numbered(51)...), false}, {cacheOf(49, numbered(50)...), false}, {cacheOf(51, numbered(51)...), false}, {cacheOf(51, numbered(50)...), false}, {cacheOf(-1, "a"), false}, {cacheOf(math.MinInt, "a"), false}, {cacheOf(50, numbered(3000)...), false},
		// Two of one digest: beside each other, apart, at both ends; the empty one too. What is longer by a byte 0 is another one.
		{cacheOf(2, "a", "a"), false}, {cacheOf(3, "a", "b", "a"), false}, {cacheOf(3, "b", "a", "a"), false}, {cacheOf(3, "a", "a", "b"), false}, {cacheOf(2, "", ""), false}, {cacheOf(5, "", "a", ""), false}, {cacheOf(1, ""), true}, {cacheOf(2, "", "a"), true}, {cacheOf(50, append(numbered(49), "d0")...), false}, {cacheOf(50, append(numbered(49), "d48")...), false}, {cacheOf(50, append(numbered(49), "")...), true}, {cacheOf(3, "", "\x00", "\x00\x00"), true}, {cacheOf(2, "a", "A"), true}, {cacheOf(3, "a", "b", "ab"), true}, {cacheOf(2, "\xff", "\xfe"), true}, {cacheOf(2, "\xff", "\xff"), false},
		{impl.Cache{Room: 2, Entries: []impl.Known{{Digest: "a", Cost: 1}, {Digest: "a", Sat: true, Values: []int{1}, Cost: 2}}}, false}, {impl.Cache{Room: 2, Entries: make([]impl.Known, 2)}, false}, {impl.Cache{Room: 1, Entries: make([]impl.Known, 1)}, true},
		// The cost.
		{a(-1), false}, {a(0), true}, {a(1), true}, {a(999999), true}, {a(1000000), true}, {a(1000001), false}, {a(math.MinInt), false}, {a(math.MaxInt), false}, {a(1 << 32), false}, {costing(cacheOf(3, "a", "b", "c"), 2, -1), false}, {costing(cacheOf(3, "a", "b", "c"), 1, 1000001), false}, {costing(cacheOf(3, "a", "b", "c"), 0, 1000001), false}, {costing(cacheOf(50, numbered(50)...), 49, 1000000), true}, {costing(cacheOf(50, numbered(50)...), 49, 1000001), false},
		// What else an entry has is not asked for.
		{impl.Cache{Room: 2, Entries: []impl.Known{{Digest: strings.Repeat("x", 70000), Values: []int{7, math.MinInt}}, {Digest: "\n", Sat: true, Values: repeated(2, 5000)}}}, true},
	} {
		if got := impl.CacheOk(k.c); got != k.want {
			t.Errorf("CacheOk of %s is %v", told(k.c), got)
		}
		if isCache(k.c) != k.want {
			t.Errorf("what is worked out of %s is something else", told(k.c))
		}
	}
	for _, c := range notCaches() {
		if impl.CacheOk(c) {
			t.Errorf("CacheOk takes %s", told(c))
		}
	}
}

func TestCacheOkAsWorkedOut(t *testing.T) {
	d := &dice{101}
	good, bad := 0, 0
	for range 3000 {
		c := d.cache()
		if impl.CacheOk(c) != isCache(c) {
			t.Errorf("CacheOk of %s is %v", told(c), impl.CacheOk(c))
		}
		if isCache(c) {
			good++
		} else {
			bad++
		}
	}
	if good < 1000 || bad < 500 {
		t.Error("too few to tell", good, bad)
	}
}

func TestCacheStart(t *testing.T) {
	for _, room := range append(edgeNumbers(), 49, 50, 51, 52, -50, -51, 25) {
		c, ok := impl.CacheStart(room)
		want := impl.Cache{}
		if room >= 0 && room <= 50 {
			want.Room = room
		}
		if !sameCache(c, want) || ok != (room >= 0 && room <= 50) {
			t.Errorf("CacheStart of %d: %s %v", room, told(c), ok)
		}
		if !impl.CacheOk(c) {
			t.Errorf("CacheStart of %d is not CacheOk", room)
		}
	}
}

func TestCacheFindAtTheEdges(t *testing.T) {
	some := cacheOf(5, "a", "b", "", "c")
	for _, k := range []struct {
		digest string
		want   []string
	}{
		// The first, those in the middle, the last.
		{"a", []string{"b", "", "c", "a"}}, {"b", []string{"a", "", "c", "b"}}, {"", []string{"a", "b", "c", ""}}, {"c", []string{"a", "b", "", "c"}},
	} {
		checkFind(t, some, k.digest, cacheOf(5, k.want...), entry(k.digest), true)
		full := some
		full.Room = 4
		checkFind(t, full, k.digest, cacheOf(4, k.want...), entry(k.digest), true)
	}
	for _, digest := range []string{"d", "A", "ab", "aa", "a\x00", "\x00", " a", "a ", strings.Repeat("a", 70000)} {
		checkFind(t, some, digest, some, impl.Known{}, false)
	}
	for _, none := range []impl.Cache{{}, cacheOf(7), cacheOf(50), cacheOf(1, "a"), cacheOf(50, numbered(50)...)} {
		for _, digest := range []string{"", "b", "d", "d50"} {
			checkFind(t, none, digest, none, impl.Known{}, false)
		}
	}
	one := cacheOf(1, "")
	checkFind(t, one, "", one, entry(""), true)
	names := numbered(50)
	for i, name := range names {
		want := slices.Concat(names[:i], names[i+1:], []string{name})
		checkFind(t, cacheOf(50, names...), name, cacheOf(50, want...), entry(name), true)
	}
	// An entry that is all zero is there all the same.
	zero := impl.Cache{Room: 2, Entries: []impl.Known{{}, entry("a")}}
	checkFind(t, zero, "", impl.Cache{Room: 2, Entries: []impl.Known{entry("a"), {}}}, impl.Known{}, true)
	// No cache, though the digest is there.
	for _, c := range notCaches() {
		for _, digest := range []string{"a", "", "b", "zz"} {
			checkFind(t, c, digest, c, impl.Known{}, false)
		}
	}
}

func TestCachePutAtTheEdges(t *testing.T) {
	again := func(name string) impl.Known {
		return impl.Known{Digest: name, Sat: len(name)%2 == 0, Values: []int{9, 8}, Cost: 77}
	}
	with := func(c impl.Cache, k impl.Known) impl.Cache {
		c.Entries = append(slices.Clone(c.Entries), k)
		return c
	}
	for _, k := range []struct {
		room        int
		names, left []string
		name        string
	}{
		// A room of none, of one, with nothing in it, with some left.
		{1, nil, nil, "a"}, {1, nil, nil, ""}, {3, nil, nil, "a"}, {3, []string{"a"}, []string{"a"}, "b"}, {3, []string{"a", "b"}, []string{"a", "b"}, "c"}, {50, numbered(49), numbered(49), "x"},
		// A full one: the first goes.
		{1, []string{"a"}, nil, "b"}, {1, []string{""}, nil, "b"}, {1, []string{"a"}, nil, ""}, {2, []string{"a", "b"}, []string{"b"}, "c"}, {3, []string{"", "a", "b"}, []string{"a", "b"}, "c"}, {3, []string{"a", "", "b"}, []string{"", "b"}, "c"}, {50, numbered(50), numbered(50)[1:], "x"}, {50, numbered(50), numbered(50)[1:], ""},
		// There already: first, in the middle, last; with room left, and in a full one, where no other one goes.
		{5, []string{"a", "b", "c"}, []string{"b", "c"}, "a"}, {5, []string{"a", "b", "c"}, []string{"a", "c"}, "b"}, {5, []string{"a", "b", "c"}, []string{"a", "b"}, "c"}, {3, []string{"a", "b", "c"}, []string{"b", "c"}, "a"}, {3, []string{"a", "b", "c"}, []string{"a", "c"}, "b"}, {3, []string{"a", "b", "c"}, []string{"a", "b"}, "c"}, {3, []string{"", "b", "c"}, []string{"b", "c"}, ""}, {3, []string{"a", "", "c"}, []string{"a", "c"}, ""}, {3, []string{"a", "b", ""}, []string{"a", "b"}, ""}, {1, []string{"a"}, nil, "a"}, {1, []string{""}, nil, ""}, {2, []string{"a"}, nil, "a"},
		{50, numbered(50), numbered(50)[1:], "d0"}, {50, numbered(50), numbered(50)[:49], "d49"}, {50, numbered(50), slices.Concat(numbered(50)[:20], numbered(50)[21:]), "d20"},
	} {
		c := cacheOf(k.room, k.names...)
		for _, cost := range []int{0, 1, 77, 999999, 1000000} {
			one := again(k.name)
			one.Cost = cost
			checkPut(t, c, one, with(cacheOf(k.room, k.left...), one))
		}
		for _, cost := range []int{-1, 1000001, math.MinInt, math.MaxInt, 1 << 32, -1000000} {
			one := again(k.name)
			one.Cost = cost
			checkPut(t, c, one, c)
		}
	}
	for _, name := range []string{"a", "", "d"} {
		checkPut(t, impl.Cache{}, again(name), impl.Cache{})
		checkPut(t, cacheOf(0), entry(name), cacheOf(0))
	}
	for _, c := range notCaches() {
		for _, name := range []string{"a", "", "b", "zz"} {
			checkPut(t, c, again(name), c)
			checkPut(t, c, impl.Known{Digest: name, Cost: -1}, c)
		}
	}
	// What else is put is taken as it is.
	odd := impl.Known{Digest: strings.Repeat("x", 70000), Values: append(edgeNumbers(), repeated(3, 5000)...)}
	checkPut(t, cacheOf(2, "a"), odd, with(cacheOf(2, "a"), odd))
	checkPut(t, cacheOf(2, "a"), impl.Known{}, with(cacheOf(2, "a"), impl.Known{}))
}

func TestFindAndPutAsWorkedOut(t *testing.T) {
	d := &dice{102}
	hits, misses, over, wrong := 0, 0, 0, 0
	for range 4000 {
		c, digest := d.cache(), d.digest()
		want, known, ok := foundOf(c, digest)
		checkFind(t, c, digest, want, known, ok)
		k := d.known(digest)
		if d.below(10) == 0 {
			k.Cost = []int{-1, 0, 1000000, 1000001}[d.below(4)]
		}
		left := putOf(c, k)
		checkPut(t, c, k, left)
		switch {
		case !isCache(c) || !isCost(k.Cost):
			wrong++
		case ok:
			hits++
		case len(left.Entries) <= len(c.Entries):
			over++
		default:
			misses++
		}
	}
	if hits < 500 || misses < 500 || over < 300 || wrong < 500 {
		t.Error("too few to tell", hits, misses, over, wrong)
	}
}

// Promise 10: what was put last is found, and of all that were put or found the latest ones stay, in the order of their last use.
func TestTheLatestUsedOnesStay(t *testing.T) {
	d := &dice{103}
	for _, room := range []int{0, 1, 2, 3, 7, 49, 50} {
		c, _ := impl.CacheStart(room)
		kept := map[string]impl.Known{}
		var used []string
		for i := range 600 {
			name := "d" + strconv.Itoa(d.below(room+4))
			there := slices.Contains(used[max(0, len(used)-room):], name)
			if d.below(3) == 0 {
				next, k, ok := impl.CacheFind(c, name)
				if ok != there || ok && !sameKnown(k, kept[name]) {
					t.Fatalf("use %d: CacheFind of %q in %s: %s %v", i, name, told(c), toldKnown(k), ok)
				}
				c = next
				if !ok {
					continue
				}
			} else {
				kept[name] = d.known(name)
				c = impl.CachePut(c, kept[name])
				if _, k, ok := impl.CacheFind(c, name); ok != (room > 0) || ok && !sameKnown(k, kept[name]) {
					t.Fatalf("use %d: what was put last is not found in %s", i, told(c))
				}
			}
			used = append(slices.DeleteFunc(used, func(old string) bool { return old == name }), name)
			want := impl.Cache{Room: room}
			for _, name := range used[max(0, len(used)-room):] {
				want.Entries = append(want.Entries, kept[name])
			}
			if !sameCache(c, want) || len(c.Entries) > room || !impl.CacheOk(c) {
				t.Fatalf("use %d: %s, want %s", i, told(c), told(want))
			}
			// One that was given up and comes back is new.
			if len(used) > room {
				used = used[len(used)-room:]
			}
		}
	}
}

func TestAskAtTheEdges(t *testing.T) {
	for _, k := range []struct {
		f      impl.Cnf
		sat    bool
		values []int
		cost   int
	}{
		// It can be true.
		{impl.Cnf{}, true, nil, 1}, {impl.Cnf{N: 1}, true, []int{0}, 2}, {impl.Cnf{N: 24}, true, repeated(0, 24), 25}, {impl.Cnf{N: 2, Clauses: [][]int{{1}, {-1, 2}}}, true, []int{1, 1}, 5}, {impl.Cnf{N: 2, Clauses: [][]int{{-1, 2}, {1}, {2, -1, 2}, {1, -1}}}, true, []int{1, 1}, 5}, {impl.Cnf{N: 3, Clauses: [][]int{{3, 1}, {-3, 2}}}, true, []int{0, 1, 1}, 8}, {withLiterals(impl.Cnf{N: 24}, upTo(24)), true, repeated(1, 24), 49}, {repeatedClause(24, []int{24, 24}, 120), true, append(repeated(0, 23), 1), 26},
		// It cannot.
		{impl.Cnf{Clauses: [][]int{{}}}, false, nil, 1}, {impl.Cnf{N: 24, Clauses: [][]int{{1}, {}}}, false, nil, 1}, {impl.Cnf{N: 1, Clauses: [][]int{{1}, {-1}}}, false, nil, 3}, {impl.Cnf{N: 2, Clauses: fourOf(nil, 1, 2)}, false, nil, 7}, {nowhere(10), false, nil, 2047}, {nowhere(18), false, nil, 1<<19 - 1},
		// As many steps as there may be where it cannot: they are always an odd number.
		{costingFalse(24, 999999), false, nil, 999999}, {costingFalse(24, 999997), false, nil, 999997},
	} {
		checkAsk(t, k.f, impl.Known{Digest: digestOf(k.f), Sat: k.sat, Values: k.values, Cost: k.cost}, true)
	}
	// Just 1000000 steps, and fewer.
	for _, cost := range []int{123456, 999999, 1000000} {
		f := costingTrue(24, cost)
		checkAsk(t, f, impl.Known{Digest: digestOf(f), Sat: true, Values: leastDown(f), Cost: cost}, true)
	}
	// More than 1000000 steps, with an answer and without.
	for _, f := range []impl.Cnf{costingTrue(24, 1000001), costingTrue(24, 1000002), costingTrue(22, 1000001), costingFalse(24, 1000001), nowhere(19), nowhere(24), {N: 24, Clauses: [][]int{{1, 24}, {1, -24}}}} {
		checkAsk(t, f, impl.Known{}, false)
	}
	for _, f := range notFormulas() {
		checkAsk(t, f, impl.Known{}, false)
		checkAsk(t, together(f, [][]int{{}}), impl.Known{}, false)
	}
}

func TestAskAsWorkedOut(t *testing.T) {
	sat, unsat, none := 0, 0, 0
	for _, f := range slices.Concat(edgeFormulas(), certFormulas(104, 150)) {
		want, ok := askOf(f)
		checkAsk(t, f, want, ok)
		switch {
		case !ok:
			none++
			continue
		case want.Sat:
			sat++
		default:
			unsat++
		}
		got := asked(t, f)
		if len(got.Digest) != 32 || got.Sat != impl.CnfTrue(f, got.Values) || !got.Sat && len(got.Values) > 0 {
			t.Errorf("Ask of %v: %s", f, toldKnown(got))
		}
	}
	if sat < 100 || unsat < 100 || none < 50 {
		t.Error("too few to tell", sat, unsat, none)
	}
}

func TestLookupAtTheEdges(t *testing.T) {
	f := impl.Cnf{N: 2, Clauses: [][]int{{1}, {-1, 2}}}
	turned := impl.Cnf{N: 2, Clauses: [][]int{{2, -1, 2}, {1, 1}, {2, -2}, {1}}}
	other := impl.Cnf{N: 3, Clauses: f.Clauses}
	never := impl.Cnf{N: 2, Clauses: fourOf(nil, 1, 2)}
	known := impl.Known{Digest: digestOf(f), Sat: true, Values: []int{1, 1}, Cost: 5}
	knownOther := impl.Known{Digest: digestOf(other), Sat: true, Values: []int{1, 1, 0}, Cost: 6}
	knownNever := impl.Known{Digest: digestOf(never), Cost: 7}
	at := func(room int, entries ...impl.Known) impl.Cache { return impl.Cache{Room: room, Entries: entries} }
	a, b := entry("a"), entry("b")
	for _, k := range []struct {
		c, want impl.Cache
		f       impl.Cnf
		known   impl.Known
	}{
		// Remembered: first, in the middle, last, alone; with room left or not.
		{at(3, known, a, b), at(3, a, b, known), f, known}, {at(5, a, known, b), at(5, a, b, known), f, known}, {at(3, a, b, known), at(3, a, b, known), f, known}, {at(1, known), at(1, known), f, known}, {at(2, knownNever, knownOther), at(2, knownOther, knownNever), never, knownNever},
		// In another order.
		{at(3, known, a, b), at(3, a, b, known), turned, known}, {at(1, known), at(1, known), turned, known},
		// Not remembered; where it is full the first goes.
		{at(1), at(1, known), f, known}, {at(1), at(1, known), turned, known}, {at(50), at(50, knownNever), never, knownNever}, {at(3, a, b), at(3, a, b, known), f, known}, {at(2, a, b), at(2, b, known), f, known}, {at(1, a), at(1, knownNever), never, knownNever}, {at(2, known, a), at(2, a, knownOther), other, knownOther}, {at(1, knownOther), at(1, known), f, known}, {at(3, entry(""), a), at(3, entry(""), a, known), f, known},
		// A room of none.
		{at(0), at(0), f, known}, {at(0), at(0), never, knownNever}, {impl.Cache{}, impl.Cache{}, turned, known}, {at(0), at(0), impl.Cnf{}, impl.Known{Digest: digestOf(impl.Cnf{}), Sat: true, Cost: 1}},
	} {
		checkLookup(t, k.c, k.f, k.want, k.known, true)
		checkAsk(t, k.f, k.known, true)
	}
	full := cacheOf(50, numbered(50)...)
	checkLookup(t, full, f, impl.Cache{Room: 50, Entries: append(slices.Clone(full.Entries[1:]), known)}, known, true)
	// What is remembered under the digest is told as it stands there.
	forged := impl.Known{Digest: digestOf(f), Values: []int{0, 7}, Cost: 9}
	checkLookup(t, at(3, forged, a), f, at(3, a, forged), forged, true)
	checkLookup(t, at(3, forged, a), turned, at(3, a, forged), forged, true)
}

func TestLookupWithoutAsk(t *testing.T) {
	long := []impl.Cnf{costingTrue(24, 1000001), costingFalse(24, 1000001), nowhere(24)}
	for _, f := range append(notFormulas(), long...) {
		for _, c := range []impl.Cache{{}, cacheOf(1), cacheOf(1, "a"), cacheOf(4, "a", "b"), cacheOf(50, numbered(50)...)} {
			checkLookup(t, c, f, c, impl.Known{}, false)
		}
	}
	// The empty Digest is found like any other one; a formula that has a Digest is not found by it.
	empty := cacheOf(3, "", "a", "b")
	for _, f := range notFormulas() {
		checkLookup(t, empty, f, cacheOf(3, "a", "b", ""), entry(""), true)
		checkLookup(t, cacheOf(1, ""), f, cacheOf(1, ""), entry(""), true)
	}
	for _, f := range long {
		checkLookup(t, empty, f, empty, impl.Known{}, false)
		// Remembered, it needs no Ask.
		k := impl.Known{Digest: digestOf(f), Sat: true, Values: []int{1}, Cost: 1000000}
		c := impl.Cache{Room: 2, Entries: []impl.Known{k, entry("a")}}
		checkLookup(t, c, f, impl.Cache{Room: 2, Entries: []impl.Known{entry("a"), k}}, k, true)
	}
}

func TestLookupInWhatIsNoCache(t *testing.T) {
	f := impl.Cnf{N: 2, Clauses: [][]int{{1}, {-1, 2}}}
	k := asked(t, f)
	for _, c := range notCaches() {
		checkLookup(t, c, f, c, impl.Known{}, false)
		checkLookup(t, c, impl.Cnf{N: 25}, c, impl.Known{}, false)
		checkLookup(t, c, nowhere(24), c, impl.Known{}, false)
		// Though it is remembered there.
		if len(c.Entries) > 0 {
			c = impl.Cache{Room: c.Room, Entries: append(slices.Clone(c.Entries), k)}
			checkLookup(t, c, f, c, impl.Known{}, false)
		}
	}
}

func TestLookupAsWorkedOut(t *testing.T) {
	d := &dice{105}
	found, fresh, none := 0, 0, 0
	for _, f := range slices.Concat(notFormulas(), certFormulas(105, 120)) {
		digest := impl.Digest(f)
		for range 4 {
			c := d.cache()
			if at := len(c.Entries) - 1; at >= 0 && d.below(2) == 0 {
				c.Entries[d.below(at+1)] = d.known(digest)
			}
			want, k, ok := lookupOf(c, f)
			checkLookup(t, c, f, want, k, ok)
			switch {
			case !ok:
				none++
			case placeOf(c.Entries, digest) >= 0:
				found++
			default:
				fresh++
			}
		}
	}
	if found < 200 || fresh < 200 || none < 50 {
		t.Error("too few to tell", found, fresh, none)
	}
}

// Promise 10: what is looked up is what is asked, whether it was remembered or not, and it is remembered then.
func TestWhatIsLookedUpIsWhatIsKnown(t *testing.T) {
	d := &dice{106}
	var fs []impl.Cnf
	for _, f := range certFormulas(106, 40) {
		if cost := impl.MachineCost(f); cost >= 0 && cost < 5000 {
			fs = append(fs, f)
		}
	}
	for _, room := range []int{0, 1, 2, 10, 50} {
		c, _ := impl.CacheStart(room)
		var used []string
		remembered, not := 0, 0
		for range 250 {
			// Most are of few, so that they come again soon.
			f := fs[d.below(min(len(fs), 1+d.below(room+8)))]
			if g := d.shuffled(f); len(g.Clauses) <= 120 {
				f = g
			}
			want := asked(t, f)
			if _, _, ok := impl.CacheFind(c, want.Digest); ok {
				remembered++
			} else {
				not++
			}
			next, k, ok := impl.Lookup(c, f)
			if !ok || !sameKnown(k, want) {
				t.Fatalf("Lookup of %v in %s: %s %v, want %s", f, told(c), toldKnown(k), ok, toldKnown(want))
			}
			c = next
			used = append(slices.DeleteFunc(used, func(old string) bool { return old == k.Digest }), k.Digest)
			checkRemembered(t, c, room, used)
			if _, again, found := impl.CacheFind(c, k.Digest); found != (room > 0) || found && !sameKnown(again, want) {
				t.Fatalf("what was looked up is not found in %s", told(c))
			}
		}
		if not < 20 || room > 0 && remembered < 20 {
			t.Error("too few to tell", room, remembered, not)
		}
	}
}

// checkRemembered asks for the digests used last, the last one at the end.
func checkRemembered(t *testing.T, c impl.Cache, room int, used []string) {
	t.Helper()
	used = used[max(0, len(used)-room):]
	same := slices.EqualFunc(c.Entries, used, func(k impl.Known, digest string) bool { return k.Digest == digest })
	if !same || c.Room != room || len(c.Entries) > room || !impl.CacheOk(c) {
		t.Fatalf("what is remembered is %s, want %q", told(c), used)
	}
}

// Nothing is kept from one call to another: calls at the same time, and calls again, answer as one alone does.
func TestLookupsAtTheSameTime(t *testing.T) {
	fs := someFormulas(107, 40)
	work := func() []string {
		c, _ := impl.CacheStart(3)
		var said []string
		for i := range 2 * len(fs) {
			next, k, ok := impl.Lookup(c, fs[i*i%len(fs)])
			c = next
			said = append(said, fmt.Sprint(told(c), toldKnown(k), ok))
		}
		return said
	}
	alone := work()
	var all [8][]string
	var group sync.WaitGroup
	for i := range all {
		group.Go(func() { all[i] = work() })
	}
	group.Wait()
	for i, said := range all {
		if !slices.Equal(said, alone) {
			t.Errorf("worker %d is answered in another way than one alone", i)
		}
	}
}

// guardedCache has spare room behind its entries and behind the values of each.
type guardedCache struct {
	c      impl.Cache
	whole  []impl.Known
	was    []impl.Known
	values []guarded
}

func guardCache(c impl.Cache) guardedCache {
	g := guardedCache{whole: make([]impl.Known, len(c.Entries)+spare)}
	for i := range g.whole {
		k := impl.Known{Digest: "spare" + strconv.Itoa(i), Cost: 7000 + i}
		if i < len(c.Entries) {
			k = c.Entries[i]
		}
		part := guard(k.Values)
		k.Values = part.list
		g.values = append(g.values, part)
		g.whole[i] = k
	}
	g.was = slices.Clone(g.whole)
	g.c = impl.Cache{Room: c.Room, Entries: g.whole[:len(c.Entries)]}
	return g
}

func (g guardedCache) check(t *testing.T, what string) {
	t.Helper()
	for i, k := range g.whole {
		g.values[i].check(t, what)
		if !sameKnown(k, g.was[i]) || !sameMemory(k.Values, g.was[i].Values) {
			t.Fatalf("%s wrote into its argument at entry %d", what, i)
		}
	}
}

func (g guardedCache) spoil() {
	for i, part := range g.values {
		part.spoil()
		g.whole[i] = impl.Known{Digest: "spoiled", Cost: -1 - i}
	}
}

func (g guardedCache) mend() {
	for _, part := range g.values {
		part.mend()
	}
	copy(g.whole, g.was)
}

// checkApartCache holds the entries of an answer, their values and those of what is told beside it against each other and against what was handed in.
func checkApartCache(t *testing.T, what string, c impl.Cache, k impl.Known, args ...argument) {
	t.Helper()
	lists := [][]int{k.Values}
	for _, one := range c.Entries {
		lists = append(lists, one.Values)
	}
	checkApartLists(t, what, lists, args...)
	entries := c.Entries[:cap(c.Entries)]
	for i := range entries {
		entries[i] = impl.Known{Digest: "over", Cost: -9000 - i}
	}
	for _, g := range args {
		g.check(t, what+", written over its entries,")
		g.spoil()
	}
	for i, one := range entries {
		if !sameKnown(one, impl.Known{Digest: "over", Cost: -9000 - i}) {
			t.Fatalf("%s answers the entries of an argument", what)
		}
	}
	for _, g := range args {
		g.mend()
	}
}

// checkCacheFunctionsApart asks every function of the chapter.
func checkCacheFunctionsApart(t *testing.T, c guardedCache, f guardedCnf, k impl.Known, values guarded, digest string) {
	t.Helper()
	k.Values = values.list
	impl.CacheOk(c.c)
	c.check(t, "CacheOk")
	found, one, _ := impl.CacheFind(c.c, digest)
	checkApartCache(t, "CacheFind", found, one, c)
	checkApartCache(t, "CachePut", impl.CachePut(c.c, k), impl.Known{}, c, values)
	one, _ = impl.Ask(f.f)
	checkApart(t, "Ask", one.Values, f)
	found, one, _ = impl.Lookup(c.c, f.f)
	checkApartCache(t, "Lookup", found, one, c, f)
}

// Promise 15: every function of the chapter answers at any arguments, and writes into none.
func TestCacheFunctionsWriteIntoNothing(t *testing.T) {
	d := &dice{108}
	fs := append(edgeFormulas(), certFormulas(108, 40)...)
	for range 20 {
		fs = append(fs, d.formula(24, 60, 48), impl.Cnf{N: d.below(30), Clauses: [][]int{d.edges(5), d.edges(5)}})
	}
	wrong := notCaches()
	for i, f := range fs {
		c := d.cache()
		if i%4 == 0 {
			c = wrong[i/4%len(wrong)]
			c.Entries = slices.Clone(c.Entries)
		}
		digest, k := d.digest(), d.known(d.digest())
		// The formula is remembered, and what is found and put is there already.
		if at := len(c.Entries) - 1; at >= 0 && d.below(2) == 0 {
			c.Entries[d.below(at+1)].Digest = impl.Digest(f)
			digest, k.Digest = c.Entries[d.below(at+1)].Digest, c.Entries[d.below(at+1)].Digest
		}
		if d.below(5) == 0 {
			k.Cost = edgeNumbers()[d.below(len(edgeNumbers()))]
		}
		checkCacheFunctionsApart(t, guardCache(c), guardCnf(f), k, guard(k.Values), digest)
	}
}

// One list told at several places is several lists in an answer.
func TestCachesOfOneListToldOften(t *testing.T) {
	shared := guard([]int{1, 0})
	f := impl.Cnf{N: 2, Clauses: [][]int{shared.list[:1], shared.list[:1]}}
	k := impl.Known{Digest: impl.Digest(f), Values: shared.list, Cost: 3}
	for _, room := range []int{2, 3, 4, 1, -1} {
		c := impl.Cache{Room: room, Entries: []impl.Known{k, {Digest: "a", Values: shared.list}}}
		for _, digest := range []string{"a", k.Digest, "b"} {
			found, one, _ := impl.CacheFind(c, digest)
			checkApartCache(t, "CacheFind of one list told often", found, one, shared)
			put := impl.CachePut(c, impl.Known{Digest: digest, Values: shared.list, Cost: 1})
			checkApartCache(t, "CachePut of one list told often", put, impl.Known{}, shared)
			put = impl.CachePut(c, impl.Known{Digest: digest, Values: shared.list, Cost: -1})
			checkApartCache(t, "CachePut of a wrong cost", put, impl.Known{}, shared)
		}
		for _, g := range []impl.Cnf{f, {N: 1}, {N: 25}} {
			found, one, _ := impl.Lookup(c, g)
			checkApartCache(t, "Lookup of one list told often", found, one, shared)
		}
	}
}
