package tests

import (
	"fmt"
	"math"
	"reflect"
	"slices"
	"strings"
	"testing"

	"loop.example/bobbin/impl"
)

// Lines, modules and records, written short.

func say(num int64) impl.Line   { return impl.Line{Op: impl.LSay, Num: num} }
func give(num int64) impl.Line  { return impl.Line{Op: impl.LGive, Num: num} }
func throw(num int64) impl.Line { return impl.Line{Op: impl.LThrow, Num: num} }

func imports(name string) impl.Line { return impl.Line{Op: impl.LImport, Name: name} }
func tries(name string) impl.Line   { return impl.Line{Op: impl.LTry, Name: name} }
func show(name string) impl.Line    { return impl.Line{Op: impl.LShow, Name: name} }

func when(name string, skip int) impl.Line {
	return impl.Line{Op: impl.LIf, Name: name, Skip: skip}
}

func module(name string, lines ...impl.Line) impl.Module {
	return impl.Module{Name: name, Lines: lines}
}

func plainWorld(modules ...impl.Module) impl.World {
	return impl.World{Roots: []string{""}, Modules: modules}
}

func read(name string, code int) impl.Rec { return impl.Rec{Kind: 1, Name: name, Code: code} }
func begins(name string) impl.Rec         { return impl.Rec{Kind: 2, Name: name} }
func said(name string, num int64) impl.Rec {
	return impl.Rec{Kind: 3, Name: name, Num: num}
}
func ends(name string, num int64) impl.Rec {
	return impl.Rec{Kind: 4, Name: name, Num: num}
}
func fails(name string, code int) impl.Rec { return impl.Rec{Kind: 5, Name: name, Code: code} }
func threw(name string, num int64) impl.Rec {
	return impl.Rec{Kind: 5, Name: name, Code: 6, Num: num}
}
func caught(name string, code int) impl.Rec { return impl.Rec{Kind: 6, Name: name, Code: code} }

func loaded(name string, give int64) impl.State {
	return impl.State{Name: name, Now: 2, Give: give}
}
func failed(name string, code int) impl.State { return impl.State{Name: name, Now: 3, Code: code} }

func sameReport(a, b impl.Report) bool {
	return a.Code == b.Code && a.Reads == b.Reads && slices.Equal(a.Recs, b.Recs) && slices.Equal(a.States, b.States) &&
		slices.EqualFunc(a.Rings, b.Rings, slices.Equal)
}

func checkLoad(t *testing.T, w impl.World, name string, want impl.Report) impl.Report {
	t.Helper()
	got := impl.Load(w, name)
	if !sameReport(got, want) {
		t.Errorf("Load(%q)\n got %v\nwant %v\n of %v", name, got, want, w)
	}
	return got
}

// checkRecs is checkLoad where code and records say all that is asked.
func checkRecs(t *testing.T, w impl.World, name string, code int, recs ...impl.Rec) impl.Report {
	t.Helper()
	got := impl.Load(w, name)
	if got.Code != code || !slices.Equal(got.Recs, recs) {
		t.Errorf("Load(%q)\n got %v %v\nwant %v %v\n of %v", name, got.Code, got.Recs, code, recs, w)
	}
	return got
}

func TestRunConstants(t *testing.T) {
	got := []int{
		impl.RRead, impl.RBegin, impl.RSay, impl.REnd, impl.RFail, impl.RCatch,
		impl.FName, impl.FAbsent, impl.FBroken, impl.FRing, impl.FFailed, impl.FThrown, impl.FDepth,
		impl.SAbsent, impl.SLoading, impl.SLoaded, impl.SFailed,
	}
	if want := []int{1, 2, 3, 4, 5, 6, 1, 2, 3, 4, 5, 6, 7, 0, 1, 2, 3}; !slices.Equal(got, want) {
		t.Errorf("got %v, want %v", got, want)
	}
}

// noWorlds has worlds that are none, for each fault of chapter 2.
func noWorlds(t *testing.T) []impl.World {
	t.Helper()
	var all []impl.World
	for code, spoil := range [][]func(*impl.World){
		1: {moreModules(61), moreRoots(9), moreFaults(401)},
		2: {roots("", "./lib")},
		3: {faults(3, 3), faults(-1), faults(400)},
		4: {rename(2, "C"), rename(2, "a"), lines(2, says(61)...)},
		5: {badLine(1, 2), lines(2, when("a", 1)), lines(2, imports(letters(121)))},
	} {
		for _, change := range spoil {
			w := soundWorld()
			change(&w)
			if got := impl.WorldOk(w).Code; got != code {
				t.Fatalf("the world has fault %d, not %d", got, code)
			}
			all = append(all, w)
		}
	}
	return all
}

func TestNoWorldLoadsNothing(t *testing.T) {
	for _, w := range noWorlds(t) {
		for _, name := range []string{"a", "c", "none", "", "A"} {
			checkLoad(t, w, name, impl.Report{Code: -1})
		}
	}
}

func TestNothingToLoad(t *testing.T) {
	checkLoad(t, impl.World{}, "a", impl.Report{Code: 1})
	checkLoad(t, impl.World{}, "./a", impl.Report{Code: 2, Reads: 1, Recs: []impl.Rec{read("a", 2)}})
	checkLoad(t, plainWorld(), "a", impl.Report{Code: 2, Reads: 1, Recs: []impl.Rec{read("a", 2)}})
	for _, name := range []string{"", "A", "..", "../a", "a/..", "a b", "a/", letters(61), strings.Repeat("\xff", 100000)} {
		checkLoad(t, plainWorld(module("a")), name, impl.Report{Code: 1})
	}
	w := plainWorld(module("a"))
	w.Roots = nil
	checkLoad(t, w, "a", impl.Report{Code: 1})
	checkRecs(t, w, "./a", 0, read("a", 0), begins("a"), ends("a", 0))
}

func TestTopStandsInMain(t *testing.T) {
	w := plainWorld(module("main"), module("x/a"), module(letters(60)))
	for name, found := range map[string]string{
		"main": "main", "./main": "main", "./x/a": "x/a", "x/a": "x/a", "x/./b/../a": "x/a", letters(60): letters(60),
	} {
		checkLoad(t, w, name, impl.Report{
			Reads: 1, Recs: []impl.Rec{read(found, 0), begins(found), ends(found, 0)}, States: []impl.State{loaded(found, 0)},
		})
	}
	// main itself is no body that is being run: to import it closes no ring
	w = plainWorld(module("main", tries("main"), tries("./main")))
	r := checkRecs(t, w, "./main", 0, read("main", 0), begins("main"), caught("main", 4), caught("main", 4), ends("main", 0))
	if !reflect.DeepEqual(r.Rings, [][]string{{"main"}, {"main"}}) {
		t.Error(r.Rings)
	}
}

func TestWhichReadingsAreDue(t *testing.T) {
	w := impl.World{Roots: []string{"p", "", "q"}, Modules: []impl.Module{
		module("a", imports("b"), imports("b"), tries("c"), tries("c"), imports("b")),
		module("q/b"),
	}}
	// what was absent is asked for again, what has begun is not, wherever it stands among the Tries
	checkLoad(t, w, "a", impl.Report{
		Reads: 15,
		Recs: []impl.Rec{
			read("p/a", 2), read("a", 0), begins("a"),
			read("p/b", 2), read("b", 2), read("q/b", 0), begins("q/b"), ends("q/b", 0),
			read("p/b", 2), read("b", 2),
			read("p/c", 2), read("c", 2), read("q/c", 2), caught("", 2),
			read("p/c", 2), read("c", 2), read("q/c", 2), caught("", 2),
			read("p/b", 2), read("b", 2),
			ends("a", 0),
		},
		States: []impl.State{loaded("a", 0), loaded("q/b", 0)},
	})
	// the first of the Tries has begun: nothing is read, also when it is running or has failed
	w = plainWorld(
		module("a", imports("b"), imports("b"), tries("a"), tries("c"), tries("c")),
		module("b"),
		module("c", throw(0)),
	)
	checkLoad(t, w, "a", impl.Report{
		Reads: 3,
		Recs: []impl.Rec{
			read("a", 0), begins("a"), read("b", 0), begins("b"), ends("b", 0), caught("a", 4),
			read("c", 0), begins("c"), fails("c", 6), caught("c", 6), caught("c", 5), ends("a", 0),
		},
		States: []impl.State{loaded("a", 0), loaded("b", 0), failed("c", 6)},
		Rings:  [][]string{{"a"}},
	})
}

func TestEarlierTryWinsOverOneThatHasBegun(t *testing.T) {
	// q/b is loaded under its own name, but p/b stands ahead of it
	w := impl.World{Roots: []string{"p", "q"}, Modules: []impl.Module{
		module("p/a", imports("../q/b"), imports("b"), show("b"), tries("../q/b")),
		module("p/b", give(1)),
		module("q/b", give(2)),
	}}
	checkRecs(t, w, "a", 0,
		read("p/a", 0), begins("p/a"), read("q/b", 0), begins("q/b"), ends("q/b", 2),
		read("p/b", 0), begins("p/b"), ends("p/b", 1), said("p/a", 1), ends("p/a", 0))
}

func TestBrokenReadingEndsTheSearch(t *testing.T) {
	modules := []impl.Module{module("a", tries("b"), tries("b"), say(1)), module("q/b")}
	both := []impl.Rec{read("b", 2), read("q/b", 0), begins("q/b"), ends("q/b", 0)}
	for _, c := range []struct {
		faults []int
		code   int
		recs   []impl.Rec
	}{
		{nil, 0, slices.Concat([]impl.Rec{read("a", 0), begins("a")}, both, []impl.Rec{read("b", 2), said("a", 1), ends("a", 0)})},
		// at the first reading nothing has begun
		{[]int{0}, 3, []impl.Rec{read("a", 3)}},
		{[]int{0, 1, 2}, 3, []impl.Rec{read("a", 3)}},
		// a reading is broken also where there is no such module, and q/b is not looked for; the next time it is
		{[]int{1}, 0, slices.Concat([]impl.Rec{read("a", 0), begins("a"), read("b", 3), caught("b", 3)}, both, []impl.Rec{said("a", 1), ends("a", 0)})},
		// behind one that was absent
		{[]int{2}, 0, slices.Concat([]impl.Rec{read("a", 0), begins("a"), read("b", 2), read("q/b", 3), caught("q/b", 3)}, both, []impl.Rec{said("a", 1), ends("a", 0)})},
		{[]int{1, 2}, 0, []impl.Rec{read("a", 0), begins("a"), read("b", 3), caught("b", 3), read("b", 3), caught("b", 3), said("a", 1), ends("a", 0)}},
		// what has begun further behind is not found behind a broken reading
		{[]int{3}, 0, slices.Concat([]impl.Rec{read("a", 0), begins("a")}, both, []impl.Rec{read("b", 3), caught("b", 3), said("a", 1), ends("a", 0)})},
		// readings that never come
		{[]int{4, 5, 399}, 0, slices.Concat([]impl.Rec{read("a", 0), begins("a")}, both, []impl.Rec{read("b", 2), said("a", 1), ends("a", 0)})},
	} {
		w := impl.World{Roots: []string{"", "q"}, Modules: modules, Faults: c.faults}
		r := checkRecs(t, w, "a", c.code, c.recs...)
		reads := 0
		for _, rec := range r.Recs {
			if rec.Kind == impl.RRead {
				reads++
			}
		}
		if r.Reads != reads {
			t.Errorf("%v: %d readings, %d records of them", c.faults, r.Reads, reads)
		}
	}
}

func TestBrokenReadingBeginsNothing(t *testing.T) {
	// b is broken, then read, then among the States: it is run once, and stands once
	w := plainWorld(module("a", tries("b"), tries("b"), tries("b")), module("b", say(2)))
	w.Faults = []int{1}
	checkLoad(t, w, "a", impl.Report{
		Reads:  3,
		Recs:   []impl.Rec{read("a", 0), begins("a"), read("b", 3), caught("b", 3), read("b", 0), begins("b"), said("b", 2), ends("b", 0), ends("a", 0)},
		States: []impl.State{loaded("a", 0), loaded("b", 0)},
	})
	// and an import of it fails the body
	w = plainWorld(module("a", imports("b"), say(1)), module("b"))
	w.Faults = []int{1}
	checkLoad(t, w, "a", impl.Report{
		Code: 3, Reads: 2, Recs: []impl.Rec{read("a", 0), begins("a"), read("b", 3), fails("a", 3)}, States: []impl.State{failed("a", 3)},
	})
}

// readings has one module, a, of which so many readings come behind its own one; then its lines.
func readings(n int, behind ...impl.Line) impl.World {
	w := impl.World{Roots: []string{"", "p", "q", "r", "s", "t", "u", "v"}}
	var all []impl.Line
	for ; n >= 8; n -= 8 {
		all = append(all, tries("none"))
	}
	for ; n > 0; n-- {
		all = append(all, tries("./none"))
	}
	w.Modules = []impl.Module{module("a", append(all, behind...)...), module("b", give(3)), module("v/c", give(4))}
	return w
}

func TestMostReadings(t *testing.T) {
	for _, c := range []struct {
		ahead int
		line  impl.Line
		code  int
		reads int
		recs  []impl.Rec
	}{
		// the 400th reading is made, the one behind it is not
		{398, tries("b"), 0, 400, []impl.Rec{read("b", 0), begins("b"), ends("b", 3), ends("a", 0)}},
		{399, tries("b"), 0, 400, []impl.Rec{caught("", 3), ends("a", 0)}},
		{399, imports("b"), 3, 400, []impl.Rec{fails("a", 3)}},
		{399, tries("./none"), 0, 400, []impl.Rec{caught("", 3), ends("a", 0)}},
		{398, tries("./none"), 0, 400, []impl.Rec{read("none", 2), caught("", 2), ends("a", 0)}},
		// amid the Tries
		{398, tries("c"), 0, 400, []impl.Rec{read("c", 2), caught("", 3), ends("a", 0)}},
		{392, tries("c"), 0, 400, []impl.Rec{
			read("c", 2), read("p/c", 2), read("q/c", 2), read("r/c", 2), read("s/c", 2), read("t/c", 2), read("u/c", 2), caught("", 3), ends("a", 0),
		}},
		{391, tries("c"), 0, 400, []impl.Rec{
			read("c", 2), read("p/c", 2), read("q/c", 2), read("r/c", 2), read("s/c", 2), read("t/c", 2), read("u/c", 2), read("v/c", 0),
			begins("v/c"), ends("v/c", 4), ends("a", 0),
		}},
		// what needs no reading is done still
		{399, tries("a"), 0, 400, []impl.Rec{caught("a", 4), ends("a", 0)}},
		{399, tries("A"), 0, 400, []impl.Rec{caught("", 1), ends("a", 0)}},
		{399, show("b"), 2, 400, []impl.Rec{fails("a", 2)}},
		{399, when("b", 0), 0, 400, []impl.Rec{ends("a", 0)}},
	} {
		// c.ahead are the readings behind that of a itself
		w := readings(c.ahead, c.line)
		r := impl.Load(w, "a")
		ahead := impl.Load(readings(c.ahead), "a")
		if r.Code != c.code || r.Reads != c.reads {
			t.Errorf("%d, %v: code %d, %d readings", c.ahead, c.line, r.Code, r.Reads)
		}
		if n := len(ahead.Recs) - 1; !slices.Equal(r.Recs[:n], ahead.Recs[:n]) || !slices.Equal(r.Recs[n:], c.recs) {
			t.Errorf("%d, %v: got %v, want %v", c.ahead, c.line, r.Recs[n:], c.recs)
		}
	}
	// the last reading may be broken, and is known by its name
	w := readings(398, tries("b"), tries("b"))
	w.Faults = []int{399}
	r := impl.Load(w, "a")
	if last := r.Recs[len(r.Recs)-4:]; !slices.Equal(last, []impl.Rec{read("b", 3), caught("b", 3), caught("", 3), ends("a", 0)}) || r.Reads != 400 {
		t.Error(last, r.Reads)
	}
}

func TestLoadedAheadOfTheLastReading(t *testing.T) {
	w := readings(0)
	all := []impl.Line{imports("b")}
	for range 50 {
		all = append(all, tries("none"))
	}
	w.Modules[0].Lines = append(all, imports("b"), show("b"), imports("c"))
	r := impl.Load(w, "a")
	n := len(r.Recs)
	if want := []impl.Rec{caught("", 3), said("a", 3), fails("a", 3)}; r.Reads != 400 || r.Code != 3 || !slices.Equal(r.Recs[n-3:], want) {
		t.Error(r.Reads, r.Code, r.Recs[n-3:])
	}
}

func TestWhatIsCaughtWithoutAName(t *testing.T) {
	w := impl.World{Roots: []string{"", "q"}, Faults: []int{6}, Modules: []impl.Module{
		module("a",
			tries(""), tries("B"), tries(".."), tries("../b"), tries(letters(61)),
			tries("none"), tries("./none"),
			tries("c"),
			tries("broken"),
			tries("a"), tries("q/x/../c"),
			tries("named"), tries("absent"), tries("ringed"), tries("again"),
		),
		module("q/c", throw(8)),
		module("named", imports("C")),
		module("absent", imports("./nowhere")),
		module("ringed", imports("a")),
		module("again", imports("q/c")),
	}}
	checkRecs(t, w, "a", 0,
		read("a", 0), begins("a"),
		caught("", 1), caught("", 1), caught("", 1), caught("", 1), caught("", 1),
		read("none", 2), read("q/none", 2), caught("", 2), read("none", 2), caught("", 2),
		read("c", 2), read("q/c", 0), begins("q/c"), threw("q/c", 8), caught("q/c", 6),
		read("broken", 3), caught("broken", 3),
		caught("a", 4), caught("q/c", 5),
		// what a body failed with is known by the module that was asked for, not by the one within
		read("named", 0), begins("named"), fails("named", 1), caught("named", 1),
		read("absent", 0), begins("absent"), read("nowhere", 2), fails("absent", 2), caught("absent", 2),
		read("ringed", 0), begins("ringed"), fails("ringed", 4), caught("ringed", 4),
		read("again", 0), begins("again"), fails("again", 5), caught("again", 5),
		ends("a", 0))
}

func TestFailureWithinIsCaughtByTheOuterName(t *testing.T) {
	w := plainWorld(
		module("a", tries("b"), tries("c"), tries("d")),
		module("b", imports("c")),
		module("c", imports("d")),
		module("d", imports("e")),
		module("e"),
	)
	w.Faults = []int{4}
	checkLoad(t, w, "a", impl.Report{
		Reads: 5,
		Recs: []impl.Rec{
			read("a", 0), begins("a"), read("b", 0), begins("b"), read("c", 0), begins("c"), read("d", 0), begins("d"), read("e", 3),
			fails("d", 3), fails("c", 3), fails("b", 3), caught("b", 3), caught("c", 5), caught("d", 5), ends("a", 0),
		},
		States: []impl.State{loaded("a", 0), failed("b", 3), failed("c", 3), failed("d", 3)},
	})
}

// What a body can fail with, behind lines that gave and imported.
func TestFailsBehindWhatItGave(t *testing.T) {
	for _, c := range []struct {
		last impl.Line
		code int
		recs []impl.Rec
	}{
		{throw(5), 6, []impl.Rec{threw("b", 5)}},
		{throw(0), 6, []impl.Rec{threw("b", 0)}},
		{imports("B"), 1, []impl.Rec{fails("b", 1)}},
		{imports("none"), 2, []impl.Rec{read("none", 2), fails("b", 2)}},
		{imports("broken"), 3, []impl.Rec{read("broken", 3), fails("b", 3)}},
		{imports("a"), 4, []impl.Rec{fails("b", 4)}},
		{imports("b"), 4, []impl.Rec{fails("b", 4)}},
		{imports("bad"), 5, []impl.Rec{fails("b", 5)}},
		{show("B"), 1, []impl.Rec{fails("b", 1)}},
		{show("none"), 2, []impl.Rec{fails("b", 2)}},
		{show("a"), 2, []impl.Rec{fails("b", 2)}},
		{show("b"), 2, []impl.Rec{fails("b", 2)}},
		{show("bad"), 2, []impl.Rec{fails("b", 2)}},
	} {
		w := plainWorld(
			module("a", tries("bad"), tries("b"), when("b", 1), show("b"), when("c", 1), show("c"), tries("b"), tries("c")),
			module("b", give(7), imports("c"), give(8), c.last, say(1), give(9)),
			module("c", give(3)),
			module("bad", give(1), throw(1)),
		)
		if c.last == imports("broken") {
			w.Faults = []int{4}
		}
		r := checkRecs(t, w, "a", 0, slices.Concat(
			[]impl.Rec{read("a", 0), begins("a"), read("bad", 0), begins("bad"), threw("bad", 1), caught("bad", 6)},
			[]impl.Rec{read("b", 0), begins("b"), read("c", 0), begins("c"), ends("c", 3)},
			c.recs,
			[]impl.Rec{caught("b", c.code), said("a", 3), caught("b", 5), ends("a", 0)},
		)...)
		if want := []impl.State{loaded("a", 0), failed("bad", 6), failed("b", c.code), loaded("c", 3)}; !slices.Equal(r.States, want) {
			t.Errorf("%v: %v", c.last, r.States)
		}
	}
}

func TestNothingIsDoneBehindAFailure(t *testing.T) {
	// the module that fails was asked for at the top: its state and its code are told, what it had imported stays
	w := plainWorld(module("a", give(7), imports("b"), throw(-3), imports("c")), module("b", give(4)), module("c"))
	checkLoad(t, w, "a", impl.Report{
		Code: 6, Reads: 2,
		Recs:   []impl.Rec{read("a", 0), begins("a"), read("b", 0), begins("b"), ends("b", 4), threw("a", -3)},
		States: []impl.State{failed("a", 6), loaded("b", 4)},
	})
}

func TestRings(t *testing.T) {
	self := plainWorld(module("a", give(1), imports("a"), say(1)))
	checkLoad(t, self, "a", impl.Report{
		Code: 4, Reads: 1, Recs: []impl.Rec{read("a", 0), begins("a"), fails("a", 4)}, States: []impl.State{failed("a", 4)}, Rings: [][]string{{"a"}},
	})
	two := plainWorld(module("a", imports("b")), module("b", imports("a")))
	checkLoad(t, two, "b", impl.Report{
		Code: 4, Reads: 2,
		Recs:   []impl.Rec{read("b", 0), begins("b"), read("a", 0), begins("a"), fails("a", 4), fails("b", 4)},
		States: []impl.State{failed("b", 4), failed("a", 4)}, Rings: [][]string{{"b", "a"}},
	})
	// the ring begins behind two modules, and ahead of it one was done with and one was caught
	behind := plainWorld(
		module("z", tries("done"), tries("bad"), imports("y")),
		module("y", tries("done"), tries("c")),
		module("done"),
		module("bad", throw(2)),
		module("a", imports("done"), tries("b")),
		module("b", imports("done"), imports("c")),
		module("c", tries("bad"), imports("a")),
	)
	r := impl.Load(behind, "z")
	checkNesting(t, r)
	states := []impl.State{loaded("z", 0), loaded("done", 0), failed("bad", 6), loaded("y", 0), loaded("c", 0), loaded("a", 0), failed("b", 4)}
	if r.Code != 0 || !reflect.DeepEqual(r.Rings, [][]string{{"c", "a", "b"}}) || !slices.Equal(r.States, states) {
		t.Error(r)
	}
}

func TestRingsToldByWhoeverClosesThem(t *testing.T) {
	// closed twice by one body, and by two of them, from each module that they asked for on
	w := plainWorld(
		module("a", imports("b"), tries("b")),
		module("b", tries("a"), tries("a"), tries("c"), tries("c"), tries("b")),
		module("c", tries("b"), tries("a"), tries("c"), imports("b")),
	)
	checkLoad(t, w, "a", impl.Report{
		Reads: 3,
		Recs: []impl.Rec{
			read("a", 0), begins("a"), read("b", 0), begins("b"), caught("a", 4), caught("a", 4),
			read("c", 0), begins("c"), caught("b", 4), caught("a", 4), caught("c", 4), fails("c", 4),
			caught("c", 4), caught("c", 5), caught("b", 4), ends("b", 0), ends("a", 0),
		},
		States: []impl.State{loaded("a", 0), loaded("b", 0), failed("c", 4)},
		Rings:  [][]string{{"a", "b"}, {"a", "b"}, {"b", "c"}, {"a", "b", "c"}, {"c"}, {"b", "c"}, {"b"}},
	})
}

// link is the name of a module of a chain.
func link(i int) string { return fmt.Sprint("m", i) }

// chain has n modules of which each imports the next one; the last one has the lines.
func chain(n int, last ...impl.Line) impl.World {
	w := plainWorld()
	for i := range n - 1 {
		w.Modules = append(w.Modules, module(link(i), imports(link(i+1)), give(int64(i))))
	}
	w.Modules = append(w.Modules, module(link(n-1), last...))
	return w
}

// checkNesting asks for P4: no body begins twice, each that begins ends or fails, those that began later first; and for P5.
func checkNesting(t *testing.T, r impl.Report) {
	t.Helper()
	var open, begun []string
	for _, rec := range r.Recs {
		switch rec.Kind {
		case impl.RBegin:
			if slices.Contains(begun, rec.Name) {
				t.Fatalf("%s begins twice: %v", rec.Name, r)
			}
			open, begun = append(open, rec.Name), append(begun, rec.Name)
		case impl.REnd, impl.RFail:
			if len(open) == 0 || open[len(open)-1] != rec.Name {
				t.Fatalf("%s ends while %v are open: %v", rec.Name, open, r)
			}
			open = open[:len(open)-1]
			state := r.States[slices.Index(begun, rec.Name)]
			want := impl.State{Name: rec.Name, Now: impl.SLoaded, Give: rec.Num}
			if rec.Kind == impl.RFail {
				want = impl.State{Name: rec.Name, Now: impl.SFailed, Code: rec.Code}
			}
			if state != want {
				t.Fatalf("%v behind %v", state, rec)
			}
		case impl.RSay:
			if len(open) == 0 || open[len(open)-1] != rec.Name {
				t.Fatalf("%s says while %v are open: %v", rec.Name, open, r)
			}
		}
	}
	if len(open) > 0 || len(begun) != len(r.States) {
		t.Fatalf("%v are open at the end, %v began: %v", open, begun, r)
	}
}

func TestRingsOfEveryLength(t *testing.T) {
	for n := 1; n <= 39; n++ {
		for to := range n {
			r := impl.Load(chain(n, imports(link(to))), "m0")
			checkNesting(t, r)
			var ring []string
			for i := to; i < n; i++ {
				ring = append(ring, link(i))
			}
			if r.Code != impl.FRing || r.Reads != n || !reflect.DeepEqual(r.Rings, [][]string{ring}) || len(r.States) != n {
				t.Fatalf("%d to %d: %v", n, to, r)
			}
			for i, state := range r.States {
				if state != failed(link(i), impl.FRing) {
					t.Fatalf("%d to %d: %v", n, to, state)
				}
			}
		}
		r := impl.Load(chain(n), "m0")
		if r.Code != 0 || len(r.Rings) != 0 || len(r.States) != n {
			t.Fatalf("%d: %v", n, r)
		}
		for i, state := range r.States {
			if state.Now != impl.SLoaded {
				t.Fatalf("%d: %d is %v", n, i, state)
			}
		}
	}
}

func TestChainsAndDepth(t *testing.T) {
	for n := 1; n <= 60; n++ {
		r := impl.Load(chain(n, give(int64(n-1))), "m0")
		checkNesting(t, r)
		var want impl.Report
		for i := range min(n, 40) {
			want.Recs = append(want.Recs, read(link(i), 0), begins(link(i)))
		}
		if n > 40 {
			want.Code = impl.FDepth
			want.Recs = append(want.Recs, read("m40", 0))
		}
		want.Reads = min(n, 41)
		for i := range min(n, 40) {
			if n > 40 {
				want.States = append(want.States, failed(link(i), 7))
				want.Recs = append(want.Recs, fails(link(39-i), 7))
			} else {
				want.States = append(want.States, loaded(link(i), int64(i)))
				want.Recs = append(want.Recs, ends(link(n-1-i), int64(n-1-i)))
			}
		}
		if !sameReport(r, want) {
			t.Errorf("a chain of %d: got %v, want %v", n, r, want)
		}
	}
}

func TestDepthCaught(t *testing.T) {
	// in the fortieth body: what is too deep was read but did not begin, so that it is read again, and loaded from higher up
	w := chain(40, tries("m40"), tries("m40"), say(9))
	w.Modules[38].Lines = []impl.Line{imports("m39"), imports("m40"), show("m40")}
	w.Modules = append(w.Modules, module("m40", give(5)))
	r := impl.Load(w, "m0")
	checkNesting(t, r)
	want := []impl.Rec{
		read("m39", 0), begins("m39"), read("m40", 0), caught("m40", 7), read("m40", 0), caught("m40", 7), said("m39", 9), ends("m39", 0),
		read("m40", 0), begins("m40"), ends("m40", 5), said("m38", 5), ends("m38", 0),
	}
	if r.Code != 0 || !slices.Equal(r.Recs[78:78+len(want)], want) || len(r.States) != 41 || r.States[40] != loaded("m40", 5) || r.Reads != 43 {
		t.Error(r)
	}
	// at full depth a ring is still a ring, what is loaded is, what failed did, and what is absent or broken is
	w = chain(40, tries("m0"), tries("ok"), tries("bad"), tries("none"), tries("N"), tries("m40"), tries("m40"))
	w.Modules[0].Lines = []impl.Line{tries("ok"), tries("bad"), imports("m1")}
	w.Modules = append(w.Modules, module("m40"), module("ok"), module("bad", throw(1)))
	w.Faults = []int{44}
	r = impl.Load(w, "m0")
	want = []impl.Rec{
		begins("m39"), caught("m0", 4), caught("bad", 5), read("none", 2), caught("", 2), caught("", 1),
		read("m40", 0), caught("m40", 7), read("m40", 3), caught("m40", 3), ends("m39", 0),
	}
	if at := slices.Index(r.Recs, begins("m39")); r.Code != 0 || !slices.Equal(r.Recs[at:at+len(want)], want) {
		t.Error(r)
	}
	if len(r.Rings) != 1 || len(r.Rings[0]) != 40 {
		t.Error(r.Rings)
	}
}

func TestDepthCountsWhatIsBeingRun(t *testing.T) {
	// sixty bodies, one behind the other: never more than two are being run
	var all []impl.Line
	w := plainWorld()
	for i := 1; i < 60; i++ {
		all = append(all, tries(link(i)))
		body := []impl.Line{give(int64(i))}
		if i%2 == 0 {
			body = append(body, throw(0))
		}
		w.Modules = append(w.Modules, module(link(i), body...))
	}
	w.Modules = append(w.Modules, module("m0", all...))
	r := impl.Load(w, "m0")
	checkNesting(t, r)
	if r.Code != 0 || len(r.States) != 60 || r.Reads != 60 {
		t.Error(r)
	}
}

func TestTriedTwice(t *testing.T) {
	// each module tries the next one twice: without remembering, the last one of n would be run 2^(n-1) times
	for n := 1; n <= 14; n++ {
		for _, last := range [][]impl.Line{nil, {throw(7)}, {imports("none")}, {imports("N")}, {imports("m0")}} {
			w := plainWorld()
			for i := range n - 1 {
				w.Modules = append(w.Modules, module(link(i), tries(link(i+1)), tries(link(i+1))))
			}
			w.Modules = append(w.Modules, module(link(n-1), last...))
			r := impl.Load(w, "m0")
			checkNesting(t, r)
			if len(r.States) != n {
				t.Fatalf("%d: %v", n, r)
			}
			var catches []impl.Rec
			for _, rec := range r.Recs {
				if rec.Kind == impl.RCatch {
					catches = append(catches, rec)
				}
			}
			var want []impl.Rec
			if n > 1 && last != nil {
				code := r.States[n-1].Code
				want = []impl.Rec{caught(link(n-1), code), caught(link(n-1), impl.FFailed)}
			}
			if !slices.Equal(catches, want) {
				t.Fatalf("%d, %v: %v", n, last, catches)
			}
		}
		// and where each one fails behind what it tried
		w := plainWorld()
		for i := range n {
			w.Modules = append(w.Modules, module(link(i), tries(link(i+1)), tries(link(i+1)), give(1), throw(int64(i))))
		}
		r := impl.Load(w, "m0")
		checkNesting(t, r)
		var want []impl.Rec
		for i := range n {
			want = append(want, read(link(i), 0), begins(link(i)))
		}
		want = append(want, read(link(n), 2), caught("", 2), read(link(n), 2), caught("", 2), threw(link(n-1), int64(n-1)))
		for i := n - 1; i > 0; i-- {
			want = append(want, caught(link(i), 6), caught(link(i), 5), threw(link(i-1), int64(i-1)))
		}
		if r.Code != 6 || !slices.Equal(r.Recs, want) {
			t.Fatalf("%d: got %v, want %v", n, r.Recs, want)
		}
	}
}

func TestShow(t *testing.T) {
	w := impl.World{Roots: []string{"p", "", "q"}, Modules: []impl.Module{
		module("a", tries("./p/x"), tries("./x"), tries("./q/x"), show("x"), show("./q/x"), show("q/y/../x"), tries("b"), tries("c"), tries("d"), tries("e"), tries("f")),
		module("p/x", give(1), throw(1)),
		module("x", give(2)),
		module("q/x", give(3)),
		// each of these is left at its first line
		module("b", show("./p/x"), say(1)),
		module("c", show("never"), say(1)),
		module("d", show("D"), say(1)),
		module("e", show("e"), say(1)),
		module("f", show("a"), say(1)),
	}}
	r := impl.Load(w, "./a")
	checkNesting(t, r)
	at := slices.Index(r.Recs, said("a", 2))
	want := []impl.Rec{
		said("a", 2), said("a", 3), said("a", 3),
		read("p/b", 2), read("b", 0), begins("b"), fails("b", 2), caught("b", 2),
		read("p/c", 2), read("c", 0), begins("c"), fails("c", 2), caught("c", 2),
		read("p/d", 2), read("d", 0), begins("d"), fails("d", 1), caught("d", 1),
		read("p/e", 2), read("e", 0), begins("e"), fails("e", 2), caught("e", 2),
		read("p/f", 2), read("f", 0), begins("f"), fails("f", 2), caught("f", 2),
		ends("a", 0),
	}
	if at < 0 || !slices.Equal(r.Recs[at:], want) || r.Code != 0 || r.Reads != 14 {
		t.Errorf("%d %v", at, r)
	}
}

func TestShowReadsNothing(t *testing.T) {
	// b is in the store, and the store would break
	w := plainWorld(module("a", when("b", 0), show("b")), module("b", give(1)))
	w.Faults = []int{1, 2}
	checkLoad(t, w, "a", impl.Report{
		Code: 2, Reads: 1, Recs: []impl.Rec{read("a", 0), begins("a"), fails("a", 2)}, States: []impl.State{failed("a", 2)},
	})
}

func TestShowSaysTheLastThatWasGiven(t *testing.T) {
	for _, num := range []int64{0, 1, -1, math.MinInt64, math.MaxInt64} {
		w := plainWorld(module("a", imports("b"), imports("c"), show("b"), show("c"), say(num), give(5), give(num)), module("b", give(4), give(num)), module("c"))
		checkRecs(t, w, "a", 0,
			read("a", 0), begins("a"), read("b", 0), begins("b"), ends("b", num), read("c", 0), begins("c"), ends("c", 0),
			said("a", num), said("a", 0), said("a", num), ends("a", num))
	}
}

func TestIf(t *testing.T) {
	ahead := []impl.Rec{
		read("a", 0), begins("a"), read("ok", 0), begins("ok"), ends("ok", 0), read("p/bad", 0), begins("p/bad"), threw("p/bad", 1), caught("p/bad", 6),
	}
	for _, c := range []struct {
		name string
		is   bool
	}{
		{"ok", true}, {"./ok", true}, {"p/../ok", true},
		{"p/bad", false}, {"a", false}, {"./a", false}, {"none", false}, {"there", false}, {"bad", false},
		{"", false}, {"OK", false}, {"..", false}, {"../ok", false}, {letters(120), false},
	} {
		lines := []impl.Line{say(0), say(1), say(2), say(3)}
		for at := range 5 {
			for skip := range 5 - at {
				body := slices.Concat([]impl.Line{imports("ok"), tries("p/bad")}, slices.Insert(slices.Clone(lines), at, when(c.name, skip)))
				recs := slices.Clone(ahead)
				for i := range 4 {
					if c.is || i < at || i >= at+skip {
						recs = append(recs, said("a", int64(i)))
					}
				}
				w := impl.World{Roots: []string{"", "q"}, Modules: []impl.Module{module("a", body...), module("ok"), module("p/bad", throw(1)), module("there")}}
				r := checkRecs(t, w, "a", 0, append(recs, ends("a", 0))...)
				if r.Reads != 3 {
					t.Errorf("%v: %d readings", c, r.Reads)
				}
			}
		}
	}
}

func TestIfOverLinesThatWouldFail(t *testing.T) {
	for _, line := range []impl.Line{throw(1), imports("none"), imports("N"), imports("a"), show("none"), show("N"), give(4), say(4), tries("none"), tries("b"), when("none", 0)} {
		w := plainWorld(module("a", when("none", 1), line, say(1), when("none", 2), line, line), module("b"))
		checkLoad(t, w, "a", impl.Report{
			Reads: 1, Recs: []impl.Rec{read("a", 0), begins("a"), said("a", 1), ends("a", 0)}, States: []impl.State{loaded("a", 0)},
		})
	}
	// the first of the Tries has failed, a later one is loaded
	w := impl.World{Roots: []string{"p", ""}, Modules: []impl.Module{
		module("a", when("x", 1), throw(1), tries("./p/x"), when("x", 1), throw(2), imports("./x"), when("x", 1), say(3), when("./p/x", 1), throw(4)),
		module("p/x", throw(0)),
		module("x"),
	}}
	checkRecs(t, w, "a", 0,
		read("p/a", 2), read("a", 0), begins("a"), read("p/x", 0), begins("p/x"), fails("p/x", 6), caught("p/x", 6),
		read("x", 0), begins("x"), ends("x", 0), said("a", 3), ends("a", 0))
}

func TestThrownIsToldOfEachWhomItLeaves(t *testing.T) {
	for _, num := range []int64{0, 1, -9, math.MinInt64, math.MaxInt64} {
		w := plainWorld(
			module("a", tries("b"), tries("c"), imports("e")),
			module("b", imports("c"), say(1)),
			module("c", give(2), imports("d"), say(1)),
			module("d", throw(num), say(1)),
			module("e", tries("f"), imports("d")),
			module("f", throw(77)),
		)
		checkLoad(t, w, "a", impl.Report{
			Code: 5, Reads: 6,
			Recs: []impl.Rec{
				read("a", 0), begins("a"), read("b", 0), begins("b"), read("c", 0), begins("c"), read("d", 0), begins("d"),
				threw("d", num), threw("c", num), threw("b", num), caught("b", 6), caught("c", 5),
				read("e", 0), begins("e"), read("f", 0), begins("f"), threw("f", 77), caught("f", 6),
				// what failed because of another that threw has no number of its own
				fails("e", 5), fails("a", 5),
			},
			States: []impl.State{failed("a", 5), failed("b", 6), failed("c", 6), failed("d", 6), failed("e", 5), failed("f", 6)},
		})
	}
}

func TestModulesThatAreNeverAskedForStayOut(t *testing.T) {
	w := plainWorld(module("x", throw(1)), module("a", imports("b")), module("y", imports("y")), module("b"))
	checkLoad(t, w, "a", impl.Report{
		Reads: 2, Recs: []impl.Rec{read("a", 0), begins("a"), read("b", 0), begins("b"), ends("b", 0), ends("a", 0)},
		States: []impl.State{loaded("a", 0), loaded("b", 0)},
	})
}

func TestImportsStandInTheirOwnModule(t *testing.T) {
	w := impl.World{Roots: []string{"", "lib"}, Modules: []impl.Module{
		module("a", imports("lib/x/m")),
		module("lib/x/m", imports("./n"), imports("../n"), imports("n"), show("./n"), show("../n"), when("../../a", 1), throw(1), tries("../../../a")),
		module("lib/x/n", give(1)),
		module("lib/n", give(2)),
	}}
	checkRecs(t, w, "a", 0,
		read("a", 0), begins("a"), read("lib/x/m", 0), begins("lib/x/m"), read("lib/x/n", 0), begins("lib/x/n"), ends("lib/x/n", 1),
		read("lib/n", 0), begins("lib/n"), ends("lib/n", 2), read("n", 2),
		said("lib/x/m", 1), said("lib/x/m", 2), caught("", 1), ends("lib/x/m", 0), ends("a", 0))
}

// told is a second telling of chapter 3: bodies lie on a stack, and what became of an import is handed to the one on top.
type told struct {
	impl.Report
	w    impl.World
	open []running
}

type running struct {
	module, line int
	give         int64
}

func loadOf(w impl.World, name string) impl.Report {
	if len(faultsOf(w)) > 0 {
		return impl.Report{Code: -1}
	}
	r := &told{w: w}
	r.ask("main", name)
	for len(r.open) > 0 {
		top := &r.open[len(r.open)-1]
		if all := w.Modules[top.module].Lines; top.line < len(all) {
			r.line(top, all[top.line])
		} else {
			r.close(impl.Rec{Kind: impl.REnd, Num: top.give}, 0)
		}
	}
	return r.Report
}

func (r *told) tell(kind int, name string, code int, num int64) {
	r.Recs = append(r.Recs, impl.Rec{Kind: kind, Name: name, Code: code, Num: num})
}

func (r *told) stateOf(name string) *impl.State {
	for i := range r.States {
		if r.States[i].Name == name {
			return &r.States[i]
		}
	}
	return &impl.State{}
}

func (r *told) ask(from, name string) {
	all := triesOf(r.w.Roots, from, name)
	if len(all) == 0 {
		r.hand("", impl.FName, 0)
		return
	}
	for _, try := range all {
		state := r.stateOf(try)
		if state.Now == impl.SLoaded {
			r.hand(try, 0, 0)
			return
		}
		if state.Now == impl.SFailed {
			r.hand(try, impl.FFailed, 0)
			return
		}
		if state.Now == impl.SLoading {
			var ring []string
			for _, b := range r.open {
				if one := r.w.Modules[b.module].Name; ring != nil || one == try {
					ring = append(ring, one)
				}
			}
			r.Rings = append(r.Rings, ring)
			r.hand(try, impl.FRing, 0)
			return
		}
		if r.Reads == 400 {
			r.hand("", impl.FBroken, 0)
			return
		}
		number := r.Reads
		r.Reads++
		place := slices.IndexFunc(r.w.Modules, func(m impl.Module) bool { return m.Name == try })
		if slices.Contains(r.w.Faults, number) {
			r.tell(impl.RRead, try, impl.FBroken, 0)
			r.hand(try, impl.FBroken, 0)
			return
		}
		if place < 0 {
			r.tell(impl.RRead, try, impl.FAbsent, 0)
			continue
		}
		r.tell(impl.RRead, try, 0, 0)
		if len(r.open) >= 40 {
			r.hand(try, impl.FDepth, 0)
			return
		}
		r.open = append(r.open, running{module: place})
		r.States = append(r.States, impl.State{Name: try, Now: impl.SLoading})
		r.tell(impl.RBegin, try, 0, 0)
		return
	}
	r.hand("", impl.FAbsent, 0)
}

// hand tells the body on top, or the caller, what became of the import that it asked for.
func (r *told) hand(name string, code int, num int64) {
	if len(r.open) == 0 {
		r.Code = code
		return
	}
	top := &r.open[len(r.open)-1]
	op := r.w.Modules[top.module].Lines[top.line].Op
	top.line++
	if code != 0 && op == impl.LTry {
		r.tell(impl.RCatch, name, code, 0)
	} else if code != 0 {
		r.fail(code, num)
	}
}

func (r *told) fail(code int, num int64) {
	r.close(impl.Rec{Kind: impl.RFail, Code: code, Num: num}, num)
}

// close takes the body on top away, with its last record, and hands on why it failed.
func (r *told) close(last impl.Rec, num int64) {
	top := r.open[len(r.open)-1]
	r.open = r.open[:len(r.open)-1]
	last.Name = r.w.Modules[top.module].Name
	r.Recs = append(r.Recs, last)
	state := r.stateOf(last.Name)
	if last.Kind == impl.REnd {
		state.Now, state.Give = impl.SLoaded, last.Num
	} else {
		state.Now, state.Code = impl.SFailed, last.Code
	}
	r.hand(last.Name, last.Code, num)
}

func (r *told) line(top *running, line impl.Line) {
	here := r.w.Modules[top.module].Name
	all := triesOf(r.w.Roots, here, line.Name)
	at := slices.IndexFunc(all, func(try string) bool { return r.stateOf(try).Now == impl.SLoaded })
	if line.Op != impl.LImport && line.Op != impl.LTry {
		top.line++
	}
	switch line.Op {
	case impl.LSay:
		r.tell(impl.RSay, here, 0, line.Num)
	case impl.LGive:
		top.give = line.Num
	case impl.LImport, impl.LTry:
		r.ask(here, line.Name)
	case impl.LThrow:
		r.fail(impl.FThrown, line.Num)
	case impl.LIf:
		if at < 0 {
			top.line += line.Skip
		}
	case impl.LShow:
		if len(all) == 0 {
			r.fail(impl.FName, 0)
		} else if at < 0 {
			r.fail(impl.FAbsent, 0)
		} else {
			r.tell(impl.RSay, here, 0, r.stateOf(all[at]).Give)
		}
	}
}

// pick is one of them.
func pick(d *draws, all []string) string { return all[d.below(len(all))] }

// someLine is any line, with up to so many lines behind it.
func someLine(d *draws, names []string, behind int) impl.Line {
	switch d.below(16) {
	case 0:
		return say(int64(d.below(5)))
	case 1, 2:
		return give(int64(d.below(9) - 4))
	case 3:
		if d.below(2) == 0 {
			return throw(int64(d.below(5) - 2))
		}
		return give(1)
	case 4, 5:
		return show(pick(d, names))
	case 6, 7:
		return when(pick(d, names), d.below(behind+1))
	case 8, 9, 10:
		return imports(pick(d, names))
	}
	return tries(pick(d, names))
}

// someWorld has few names, so that modules meet.
func someWorld(d *draws) impl.World {
	var w impl.World
	paths := []string{"a", "b", "c", "main", "lib/a", "lib/b", "lib/x/c", "x/a", "x/b", "lib/x/a"}
	names := []string{"a", "b", "c", "a", "b", "c", "./a", "./b", "../a", "../x/b", "x/a", "lib/x/../b", "x/c", "main", "", "A", "none", "./none"}
	for range d.below(4) + d.below(2) {
		w.Roots = append(w.Roots, pick(d, []string{"", "", "lib", "x", "lib/x", "no"}))
	}
	for _, path := range paths {
		if d.below(3) == 0 {
			continue
		}
		n := d.below(7)
		m := impl.Module{Name: path}
		for l := range n {
			m.Lines = append(m.Lines, someLine(d, names, n-l-1))
		}
		w.Modules = append(w.Modules, m)
	}
	for i := range 30 {
		if d.below(14) == 0 {
			w.Faults = append(w.Faults, i)
		}
	}
	return w
}

// deepWorld is a long chain with much beside it, so that it comes to the fortieth body, or to the last reading.
func deepWorld(d *draws) impl.World {
	n := 38 + d.below(23)
	w := impl.World{Roots: []string{"p", "", "q"}[d.below(2):]}
	busy, catching := d.below(3)*4, d.below(2) == 0
	var names []string
	for i := range n {
		names = append(names, link(i), "none")
		m := impl.Module{Name: link(i)}
		for range d.below(3) {
			line := someLine(d, names, 0)
			if line.Op != impl.LThrow && line.Op != impl.LImport && line.Op != impl.LShow {
				m.Lines = append(m.Lines, line)
			}
		}
		next := imports(link(i + 1))
		if catching && d.below(3) == 0 {
			next = tries(link(i + 1))
		}
		m.Lines = append(m.Lines, slices.Repeat([]impl.Line{tries("none")}, d.below(busy+1))...)
		m.Lines = append(m.Lines, next)
		behind := d.below(4)
		for l := range behind {
			m.Lines = append(m.Lines, someLine(d, append(names, link(i+2)), behind-l-1))
		}
		w.Modules = append(w.Modules, m)
	}
	for i := range 400 {
		if d.below(150) == 0 {
			w.Faults = append(w.Faults, i)
		}
	}
	return w
}

// met counts what a report shows, so that a test can tell that it met all there is.
func met(seen map[string]int, r impl.Report) {
	seen[fmt.Sprint("code ", r.Code)]++
	for _, rec := range r.Recs {
		seen[fmt.Sprint("kind ", rec.Kind, " code ", rec.Code, " named ", rec.Name != "")]++
	}
	for _, ring := range r.Rings {
		seen[fmt.Sprint("ring of ", min(len(ring), 4))]++
	}
}

func TestManyWorldsAsTheDocumentSays(t *testing.T) {
	d := draws(3)
	seen := map[string]int{}
	for i := range 40000 {
		w := someWorld(&d)
		if i%20 == 0 {
			w = deepWorld(&d)
		}
		for _, name := range []string{"a", "./m0", pick(&d, []string{"b", "lib/a", "x/b", "main", "", "./x/a"})} {
			r := checkLoad(t, w, name, loadOf(w, name))
			if t.Failed() {
				return
			}
			checkNesting(t, r)
			met(seen, r)
		}
	}
	for _, what := range []string{
		"code 0", "code 1", "code 2", "code 3", "code 4", "code 5", "code 6", "code 7",
		"kind 1 code 0 named true", "kind 1 code 2 named true", "kind 1 code 3 named true",
		"kind 2 code 0 named true", "kind 3 code 0 named true", "kind 4 code 0 named true",
		"kind 5 code 1 named true", "kind 5 code 2 named true", "kind 5 code 3 named true", "kind 5 code 4 named true",
		"kind 5 code 5 named true", "kind 5 code 6 named true", "kind 5 code 7 named true",
		"kind 6 code 1 named false", "kind 6 code 2 named false", "kind 6 code 3 named false",
		"kind 6 code 1 named true", "kind 6 code 2 named true", "kind 6 code 3 named true", "kind 6 code 4 named true",
		"kind 6 code 5 named true", "kind 6 code 6 named true", "kind 6 code 7 named true",
		"ring of 1", "ring of 2", "ring of 3", "ring of 4",
	} {
		if seen[what] < 20 {
			t.Errorf("%q was met only %d times", what, seen[what])
		}
	}
}

func TestSpoiltWorldsLoadNothing(t *testing.T) {
	d := draws(4)
	for i := range 5000 {
		w := spoilt(&d, i%4)
		checkLoad(t, w, "a", loadOf(w, "a"))
	}
}

// textsOf are the texts of a report, list by list.
func textsOf(r impl.Report) [][]string {
	out := make([][]string, 2)
	for _, rec := range r.Recs {
		out[0] = append(out[0], rec.Name)
	}
	for _, state := range r.States {
		out[1] = append(out[1], state.Name)
	}
	return append(out, r.Rings...)
}

func textsOfWorld(w impl.World) []string {
	out := slices.Clone(w.Roots)
	for _, m := range w.Modules {
		out = append(out, m.Name)
		for _, line := range m.Lines {
			out = append(out, line.Name)
		}
	}
	return out
}

func anyShared(a, b []string) bool {
	return slices.ContainsFunc(a, func(one string) bool {
		return slices.ContainsFunc(b, func(other string) bool { return sharesMemory(one, other) })
	})
}

func TestReportIsNewMemory(t *testing.T) {
	d := draws(5)
	for range 300 {
		w := someWorld(&d)
		name := strings.Clone("a")
		r := impl.Load(w, name)
		lists := textsOf(r)
		given := append(textsOfWorld(w), name)
		for i, list := range lists {
			if anyShared(list, given) {
				t.Fatalf("list %d shares memory with the world: %v", i, list)
			}
			for j := range i {
				if anyShared(list, lists[j]) {
					t.Fatalf("lists %d and %d share memory", i, j)
				}
			}
		}
	}
}

func TestRingsShareNoMemory(t *testing.T) {
	w := plainWorld(module("a", imports("b")), module("b", tries("a"), tries("b"), tries("a"), imports("c")), module("c", tries("a"), tries("b")))
	want := [][]string{{"a", "b"}, {"b"}, {"a", "b"}, {"a", "b", "c"}, {"b", "c"}}
	for i := range want {
		r := impl.Load(w, "a")
		for j := range r.Rings[i] {
			r.Rings[i][j] = "written over"
		}
		_ = append(r.Rings[i], "behind it", "behind it")
		for j := range want {
			if j != i && !slices.Equal(r.Rings[j], want[j]) {
				t.Errorf("ring %d became %v when ring %d was written over", j, r.Rings[j], i)
			}
		}
	}
}

func TestLoadLeavesTheWorldAlone(t *testing.T) {
	d := draws(6)
	for i := range 2000 {
		whole := someWorld(&d)
		if i%10 == 0 {
			whole = deepWorld(&d)
		}
		whole.Roots, whole.Faults = append(whole.Roots, "kept"), append(whole.Faults, 399)
		whole.Modules = append(whole.Modules, module("kept", says(2)...))
		before := copyOf(whole)
		w := whole
		w.Roots, w.Faults, w.Modules = w.Roots[:len(w.Roots)-1], w.Faults[:len(w.Faults)-1], w.Modules[:len(w.Modules)-1]
		first, second := impl.Load(w, "a"), impl.Load(w, "a")
		if !reflect.DeepEqual(whole, before) {
			t.Fatalf("the world became %v, was %v", whole, before)
		}
		if !sameReport(first, second) {
			t.Fatalf("the second answer is %v, the first was %v", second, first)
		}
		clear(first.Recs)
		clear(first.States)
		for _, ring := range first.Rings {
			clear(ring)
		}
		if third := impl.Load(w, "a"); !sameReport(second, third) || !reflect.DeepEqual(whole, before) {
			t.Fatalf("the third answer is %v, the second was %v", third, second)
		}
	}
}
