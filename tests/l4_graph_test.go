package tests

import (
	"fmt"
	"math"
	"reflect"
	"slices"
	"strings"
	"testing"

	"loop.example/bobbin/impl"
)

func edge(from, line, to int) impl.Edge { return impl.Edge{From: from, Line: line, To: to} }

func checkEdges(t *testing.T, w impl.World, want ...impl.Edge) {
	t.Helper()
	if got := impl.Edges(w); !slices.Equal(got, want) {
		t.Errorf("Edges\n got %v\nwant %v\n of %v", got, want, w)
	}
}

func checkOrder(t *testing.T, w impl.World, name string, want ...string) {
	t.Helper()
	if got := impl.Order(w, name); !slices.Equal(got, want) {
		t.Errorf("Order(%q)\n got %q\nwant %q\n of %v", name, got, want, w)
	}
}

func checkRing(t *testing.T, w impl.World, want ...string) {
	t.Helper()
	if got := impl.ShortestRing(w); !slices.Equal(got, want) {
		t.Errorf("ShortestRing\n got %q\nwant %q\n of %v", got, want, w)
	}
}

// checkAnswer takes the lines without their newlines.
func checkAnswer(t *testing.T, w impl.World, name string, lines ...string) {
	t.Helper()
	want := ""
	for _, line := range lines {
		want += line + "\n"
	}
	if got := impl.Answer(w, name); got != want {
		t.Errorf("Answer(%q)\n got %q\nwant %q\n of %v", name, got, want, w)
	}
}

// joined has a module for each word, in their order, that imports each module of which a letter stands behind the colon.
func joined(words ...string) impl.World {
	w := plainWorld()
	for _, word := range words {
		name, all, _ := strings.Cut(word, ":")
		m := impl.Module{Name: name}
		for _, letter := range all {
			m.Lines = append(m.Lines, imports(string(letter)))
		}
		w.Modules = append(w.Modules, m)
	}
	return w
}

func TestNoWorldHasNoGraph(t *testing.T) {
	for _, w := range noWorlds(t) {
		// a ring that would be there, were it a world
		w.Modules[0].Lines = append(w.Modules[0].Lines, imports("./a"))
		if impl.WorldOk(w) == (impl.Wrong{}) {
			t.Fatal("this is a world", w)
		}
		checkEdges(t, w)
		checkRing(t, w)
		for _, name := range []string{"a", "./a", "c", "none", "", "A"} {
			checkOrder(t, w, name)
			checkAnswer(t, w, name, "no world")
		}
	}
}

func TestEmptyGraphs(t *testing.T) {
	for _, w := range []impl.World{{}, plainWorld(), {Roots: []string{"lib"}, Faults: []int{0}}} {
		checkEdges(t, w)
		checkRing(t, w)
		for _, name := range []string{"a", "./a", "", ".", "..", "A", letters(61), strings.Repeat("\xff", 100000)} {
			checkOrder(t, w, name)
		}
	}
	w := joined("a", "b")
	checkEdges(t, w)
	checkRing(t, w)
	checkOrder(t, w, "a", "a")
	checkOrder(t, w, "b", "b")
}

func TestEdgesByModuleThenLine(t *testing.T) {
	w := plainWorld(
		module("c", tries("b"), say(1), imports("a"), imports("b")),
		module("a"),
		module("b", give(1), show("c"), when("c", 1), throw(1), imports("c"), tries("b"), tries("a")),
	)
	checkEdges(t, w, edge(0, 0, 2), edge(0, 2, 1), edge(0, 3, 2), edge(2, 4, 0), edge(2, 5, 2), edge(2, 6, 1))
}

func TestOnlyImportsAreEdges(t *testing.T) {
	for line, is := range map[impl.Line]bool{
		say(1): false, give(1): false, throw(1): false, show("b"): false, when("b", 0): false, imports("b"): true, tries("b"): true,
	} {
		for at := range 4 {
			all := says(3)
			w := plainWorld(module("b"), module("a", slices.Insert(all, at, line)...))
			var want []impl.Edge
			if is {
				want = append(want, edge(1, at, 0))
			}
			checkEdges(t, w, want...)
		}
	}
	// the first line and the last one of as many as there may be
	all := says(60)
	all[0], all[59] = imports("m59"), tries("m0")
	w := soundWorld()
	moreModules(60)(&w)
	w.Modules[0].Lines, w.Modules[1].Lines, w.Modules[59].Lines = nil, nil, all
	checkEdges(t, w, edge(59, 0, 59), edge(59, 59, -1))
}

func TestImportsThatAreNeverDoneAreEdges(t *testing.T) {
	w := plainWorld(
		module("a", throw(1), imports("b"), tries("a")),
		module("b", when("none", 2), imports("a"), tries("b"), imports("none"), imports("a")),
		module("c", imports("C"), imports("b")),
		module("d", show("none"), imports("d")),
	)
	checkEdges(t, w,
		edge(0, 1, 1), edge(0, 2, 0),
		edge(1, 1, 0), edge(1, 2, 1), edge(1, 3, -1), edge(1, 4, 0),
		edge(2, 0, -1), edge(2, 1, 1),
		edge(3, 1, 3))
	checkOrder(t, w, "c", "a", "b", "c")
	checkRing(t, w, "a")
}

func TestWhereEdgesLead(t *testing.T) {
	modules := []impl.Module{module("a"), module("lib/a"), module("lib/b"), module("x/a"), module("lib/x/c"), module("x/y/m"), module("x/y/a")}
	for _, c := range []struct {
		roots []string
		name  string
		to    int
	}{
		// the line stands in x/y/m
		{[]string{""}, "a", 0},
		{[]string{"", "lib"}, "a", 0},
		{[]string{"lib", ""}, "a", 1},
		{[]string{"no", "x", "lib"}, "a", 3},
		// the first try is absent, a later one there
		{[]string{"", "lib"}, "b", 2},
		{[]string{"", "x", "lib"}, "b", 2},
		{[]string{"p", "q", "r", "s", "t", "u", "v", "lib"}, "b", 2},
		{[]string{"", "lib"}, "x/c", 4},
		{[]string{"", "lib"}, "x/a", 3},
		{[]string{"lib/x"}, "c", 4},
		{[]string{"lib"}, "x/../b", 2},
		// walked from the module
		{[]string{"lib"}, "./a", 6},
		{nil, "./a", 6},
		{[]string{"lib"}, "./m", 5},
		{[]string{"lib"}, "../a", 3},
		{[]string{"lib"}, "../../a", 0},
		{[]string{"lib"}, "../../lib/./b", 2},
		{[]string{""}, "x/y/m", 5},
		{[]string{""}, "../y/m", 5},
		// none of the Tries is there
		{[]string{"", "lib"}, "none", -1},
		{[]string{"", "lib"}, "./b", -1},
		{[]string{"lib"}, "x/a", -1},
		{[]string{"", "lib"}, ".", -1},
		// no Tries
		{nil, "a", -1},
		{[]string{"", "lib"}, "", -1},
		{[]string{"", "lib"}, "A", -1},
		{[]string{"", "lib"}, "a/..", -1},
		{[]string{"", "lib"}, "../../../a", -1},
		{[]string{"", "lib"}, "a/../../a", -1},
		{[]string{"", "lib"}, "./A", -1},
		{[]string{"", "lib"}, "a/", -1},
		{[]string{"", "lib"}, letters(61), -1},
		{[]string{"", "lib"}, letters(120), -1},
		{[]string{"", "lib"}, strings.Repeat("\xff", 120), -1},
	} {
		for _, faults := range [][]int{nil, {0}, {0, 1, 2, 3, 399}} {
			w := impl.World{Roots: c.roots, Modules: slices.Clone(modules), Faults: faults}
			w.Modules[5].Lines = []impl.Line{imports(c.name), say(1), tries(c.name)}
			checkEdges(t, w, edge(5, 0, c.to), edge(5, 2, c.to))
		}
	}
}

func TestFaultsChangeNoGraph(t *testing.T) {
	w := joined("a:bc", "b:c", "c:a")
	for _, faults := range [][]int{nil, {0}, {1}, {0, 1, 2, 3, 4, 5}} {
		w.Faults = faults
		checkEdges(t, w, edge(0, 0, 1), edge(0, 1, 2), edge(1, 0, 2), edge(2, 0, 0))
		checkOrder(t, w, "a", "c", "b", "a")
		checkRing(t, w, "a", "c")
	}
	moreFaults(400)(&w)
	checkOrder(t, w, "b", "a", "c", "b")
}

func TestOrderOfModules(t *testing.T) {
	for _, c := range []struct {
		world string
		name  string
		want  string
	}{
		// ordinary ones
		{"a:b b:c c", "a", "c b a"},
		{"a:b b:c c", "b", "c b"},
		{"a:b b:c c", "c", "c"},
		{"c b:c a:b", "a", "c b a"},
		// in the order of lines, not of modules
		{"a:bc b c", "a", "b c a"},
		{"a:cb b c", "a", "c b a"},
		{"a:dcb b c d", "a", "d c b a"},
		// what was met before does not come again
		{"a:bb b", "a", "b a"},
		{"a:bcb b c", "a", "b c a"},
		{"a:bc b:d c:d d", "a", "d b c a"},
		{"a:cb b:d c:d d", "a", "d c b a"},
		{"a:bc b:c c", "a", "c b a"},
		{"a:cb b:c c", "a", "c b a"},
		{"a:bcd b:d c:b d", "a", "d b c a"},
		// a module that imports itself
		{"a:a", "a", "a"},
		{"a:ab b:b", "a", "b a"},
		{"a:bab b:bb", "a", "b a"},
		// rings: the one that is met first comes last
		{"a:b b:a", "a", "b a"},
		{"a:b b:a", "b", "a b"},
		{"a:b b:c c:a", "b", "a c b"},
		{"a:b b:ca c:d d:b", "a", "d c b a"},
		{"a:bd b:c c:bd d:a", "a", "d c b a"},
		{"a:bc b:a c:b", "a", "b c a"},
		{"a:bc b:a c:b", "c", "a b c"},
		// what can't be reached is not there
		{"a:b b c:a d:d", "a", "b a"},
		{"a:b b c:a d:d", "d", "d"},
		{"a:b b c:a d:d", "c", "b a c"},
		// imports that find nothing
		{"a:xbx b:x", "a", "b a"},
		{"a:x", "a", "a"},
		{"a:x", "x", ""},
	} {
		checkOrder(t, joined(strings.Fields(c.world)...), c.name, strings.Fields(c.want)...)
	}
}

func TestOrderFindsItsName(t *testing.T) {
	w := impl.World{Roots: []string{"", "lib"}, Modules: []impl.Module{
		module("lib/b", imports("./c"), imports("c")),
		module("lib/c", imports("../main")),
		module("main", imports("./none")),
		module("a", tries("b")),
		module("c"),
		module("lib/a"),
	}}
	checkOrder(t, w, "a", "main", "lib/c", "c", "lib/b", "a")
	checkOrder(t, w, "./a", "main", "lib/c", "c", "lib/b", "a")
	checkOrder(t, w, "lib/../a", "main", "lib/c", "c", "lib/b", "a")
	// found under the second root only
	checkOrder(t, w, "b", "main", "lib/c", "c", "lib/b")
	// as if it stood in main: at the top
	checkOrder(t, w, "./lib/c", "main", "lib/c")
	checkOrder(t, w, "./main", "main")
	checkOrder(t, w, "main", "main")
	checkOrder(t, w, "./c", "c")
	checkOrder(t, w, "c", "c")
	// found by none of the roots, or not from the top
	for _, name := range []string{"none", "./b", "lib/none", "./none"} {
		checkOrder(t, w, name)
	}
	// no Tries
	for _, name := range []string{"", ".", "..", "../a", "../lib/b", "A", "a/", "a/..", letters(61), strings.Repeat("a", 100000)} {
		checkOrder(t, w, name)
	}
	w.Roots = []string{"lib", ""}
	checkOrder(t, w, "a", "lib/a")
	checkOrder(t, w, "./a", "main", "lib/c", "lib/b", "a")
	w.Roots = nil
	checkOrder(t, w, "a")
	checkOrder(t, w, "./a", "a")
}

func TestOrderOfChains(t *testing.T) {
	// longer than what can be loaded
	for n := 1; n <= 60; n++ {
		for to := range n {
			w := chain(n, imports(link(to)), tries("none"))
			var want, ring []string
			for i := range n {
				want = append(want, link(n-1-i))
			}
			for i := to; i < n; i++ {
				ring = append(ring, link(i))
			}
			checkOrder(t, w, "m0", want...)
			checkOrder(t, w, link(n-1), append(slices.Clone(want[1:n-to]), link(n-1))...)
			checkRing(t, w, ring...)
		}
	}
}

func TestShortestRings(t *testing.T) {
	for _, c := range []struct {
		world string
		want  string
	}{
		// none
		{"a:b b:c c", ""},
		{"a:bc b:c c", ""},
		{"a:x b:xx", ""},
		// a module that imports itself
		{"a:a", "a"},
		{"a:b b:b", "b"},
		{"a:aa b:b", "a"},
		{"a:b b:ab", "b"},
		{"a:b b:c c:ac", "c"},
		{"a:ba b:a", "a"},
		// two and more
		{"a:b b:a", "a b"},
		{"b:a a:b", "b a"},
		{"a:b b:c c:a", "a b c"},
		{"c:a a:b b:c", "c a b"},
		{"a:c b:a c:b", "a c b"},
		{"a:b b:c c:d d:b", "b c d"},
		{"a:b d:b b:c c:d", "d b c"},
		{"a:bc b:d c:d d:e e:a", "a b d e"},
		// a shorter one behind a longer one in the world
		{"a:b b:c c:a d:e e:d", "d e"},
		{"a:b b:c c:a d:e e:d f:f", "f"},
		{"a:b b:ac c:bc", "c"},
		{"a:b b:c c:ba", "b c"},
		{"a:b b:c c:bda d:a", "b c"},
		// of as short ones that which begins with the module that stands first
		{"c:d d:c a:b b:a", "c d"},
		{"x d:c a:b b:a c:d", "d c"},
		{"x:b b:a a:b c:d d:c", "b a"},
		{"d:e a:b b:c c:a e:f f:d", "d e f"},
		// it begins with the module, also when another of its modules is met by an earlier edge
		{"a:x b:cd c:b d:b", "b c"},
		{"a:x b:dc c:b d:b", "b d"},
		// of these: by the order of edges
		{"a:bc b:a c:a", "a b"},
		{"a:cb b:a c:a", "a c"},
		{"a:xcbx b:xa c:xxa", "a c"},
		{"a:cbc b:a c:a", "a c"},
		{"a:bc b:d c:d d:a", "a b d"},
		{"a:cb b:d c:d d:a", "a c d"},
		{"a:bc b:de d:a e:a c:a", "a c"},
		{"a:bc b:d c:e d:a e:a", "a b d"},
		{"a:cb b:d c:e d:a e:a", "a c e"},
		{"a:bc b:ed c:d d:a e:a", "a b e"},
		{"a:bc b:x c:ed d:a e:a", "a c e"},
		{"a:bc b:d c:e d:f e:a f:a", "a c e"},
		// the edge by which a module was met first counts, not a later one
		{"a:cb b:de c:e d:f e:g f:a g:a", "a c e g"},
		{"a:bc b:e c:de d:f e:f f:a", "a b e f"},
		{"a:cb b:e c:de d:f e:f f:a", "a c d f"},
		{"a:cb b:e c:ed d:f e:f f:a", "a c e f"},
		// those of a module that was met earlier first, not those of the one that stands earlier
		{"a:db b:f d:e e:a f:a", "a d e"},
		{"a:bd b:f d:e e:a f:a", "a b f"},
		// the last module of the ring is met first, but its edge back comes late
		{"a:bc b:xxxxa c:a", "a b"},
		{"a:bc c:xa b:dddda d", "a b"},
	} {
		checkRing(t, joined(strings.Fields(c.world)...), strings.Fields(c.want)...)
	}
}

func TestRingsByTheNamesTheyFind(t *testing.T) {
	w := impl.World{Roots: []string{"p", ""}, Modules: []impl.Module{
		module("a", tries("b"), show("a"), when("a", 1), imports("./b")),
		module("b", say(1), throw(1), tries("../a"), tries("./a"), imports("none")),
		module("p/b", tries("c")),
		module("p/c", imports("../d"), imports("./d")),
		module("d", imports("b")),
	}}
	checkRing(t, w, "a", "b")
	w.Modules[0].Lines = w.Modules[0].Lines[:3]
	w.Modules[0].Lines[2].Skip = 0
	checkRing(t, w, "p/b", "p/c", "d")
	// the other root first: now it is b itself that a finds
	w.Roots = []string{"", "p"}
	checkRing(t, w, "a", "b")
	w.Roots = nil
	checkRing(t, w)
}

func TestAnswerOfEachRecord(t *testing.T) {
	w := impl.World{Roots: []string{"", "q"}, Faults: []int{3}, Modules: []impl.Module{
		module("a",
			say(5), tries("none"), tries("broken"), tries(""), tries("b"), tries("c"), tries("b"), tries("a"), tries("d"), imports("e"), show("e"), give(-7),
		),
		module("q/b", throw(3)),
		module("c", imports("q/b")),
		module("d", show("d")),
		module("e", give(9)),
	}}
	checkAnswer(t, w, "a",
		"read a", "begin a", "say a 5",
		"read none absent", "read q/none absent", "catch absent",
		"read broken broken", "catch broken broken",
		"catch name",
		"read b absent", "read q/b", "begin q/b", "fail q/b thrown 3", "catch q/b thrown",
		"read c", "begin c", "fail c failed", "catch c failed",
		"read b absent", "catch q/b failed",
		"catch a ring",
		"read d", "begin d", "fail d absent", "catch d absent",
		"read e", "begin e", "end e 9", "say a 9", "end a -7",
		"ring a",
		"loaded")
}

func TestAnswerNumbers(t *testing.T) {
	for num, text := range map[int64]string{
		0: "0", 1: "1", -1: "-1", 10: "10", 1000000: "1000000",
		math.MaxInt64: "9223372036854775807", math.MinInt64: "-9223372036854775808",
	} {
		checkAnswer(t, plainWorld(module("a", say(num))), "a", "read a", "begin a", "say a "+text, "end a 0", "loaded")
		checkAnswer(t, plainWorld(module("a", give(num))), "a", "read a", "begin a", "end a "+text, "loaded")
		checkAnswer(t, plainWorld(module("a", imports("b"), show("b")), module("b", give(num))), "a",
			"read a", "begin a", "read b", "begin b", "end b "+text, "say a "+text, "end a 0", "loaded")
		checkAnswer(t, plainWorld(module("a", give(8), throw(num))), "a",
			"read a", "begin a", "fail a thrown "+text, "not loaded: thrown")
		// caught, a number is not told; who fails because of it tells it
		checkAnswer(t, plainWorld(module("a", tries("b"), tries("b")), module("b", imports("c")), module("c", throw(num))), "a",
			"read a", "begin a", "read b", "begin b", "read c", "begin c", "fail c thrown "+text, "fail b thrown "+text,
			"catch b thrown", "catch b failed", "end a 0", "loaded")
	}
}

func TestAnswerOfEachFailure(t *testing.T) {
	world := func(last impl.Line, more ...impl.Module) impl.World {
		return plainWorld(append([]impl.Module{module("a", give(4), last)}, more...)...)
	}
	checkAnswer(t, plainWorld(), "A", "not loaded: name")
	checkAnswer(t, plainWorld(), "", "not loaded: name")
	checkAnswer(t, impl.World{}, "a", "not loaded: name")
	checkAnswer(t, plainWorld(), "a", "read a absent", "not loaded: absent")
	broken := plainWorld(module("a"))
	broken.Faults = []int{0}
	checkAnswer(t, broken, "a", "read a broken", "not loaded: broken")
	checkAnswer(t, world(imports("B")), "a", "read a", "begin a", "fail a name", "not loaded: name")
	checkAnswer(t, world(show("b")), "a", "read a", "begin a", "fail a absent", "not loaded: absent")
	checkAnswer(t, world(imports("b")), "a", "read a", "begin a", "read b absent", "fail a absent", "not loaded: absent")
	broken = world(imports("b"), module("b"))
	broken.Faults = []int{1}
	checkAnswer(t, broken, "a", "read a", "begin a", "read b broken", "fail a broken", "not loaded: broken")
	checkAnswer(t, world(imports("a")), "a", "read a", "begin a", "fail a ring", "ring a", "not loaded: ring")
	checkAnswer(t, world(throw(0)), "a", "read a", "begin a", "fail a thrown 0", "not loaded: thrown")
	again := plainWorld(module("a", tries("b"), imports("b")), module("b", throw(-1)))
	checkAnswer(t, again, "a",
		"read a", "begin a", "read b", "begin b", "fail b thrown -1", "catch b thrown", "fail a failed", "not loaded: failed")

	var deep []string
	for i := range 40 {
		deep = append(deep, "read "+link(i), "begin "+link(i))
	}
	caught := append(slices.Clone(deep), "read m40", "catch m40 deep")
	deep = append(deep, "read m40")
	for i := range 40 {
		deep = append(deep, "fail "+link(39-i)+" deep")
		caught = append(caught, fmt.Sprintf("end %s %d", link(39-i), (39-i)%39))
	}
	w := chain(41)
	checkAnswer(t, w, "m0", append(deep, "not loaded: deep")...)
	w.Modules[39].Lines = []impl.Line{tries("m40")}
	checkAnswer(t, w, "m0", append(caught, "loaded")...)
}

func TestAnswerOfRings(t *testing.T) {
	w := plainWorld(
		module("a", imports("b")),
		module("b", tries("a"), tries("b"), tries("a"), imports("x/c")),
		module("x/c", tries("a"), tries("b"), imports("./c")),
	)
	checkAnswer(t, w, "a",
		"read a", "begin a", "read b", "begin b", "catch a ring", "catch b ring", "catch a ring",
		"read x/c", "begin x/c", "catch a ring", "catch b ring", "fail x/c ring", "fail b ring", "fail a ring",
		"ring a b", "ring b", "ring a b", "ring a b x/c", "ring b x/c", "ring x/c",
		"not loaded: ring")
	// a ring that is there but is never done is not told
	w = plainWorld(module("a", when("none", 1), imports("a")))
	checkAnswer(t, w, "a", "read a", "begin a", "end a 0", "loaded")
	checkRing(t, w, "a")
}

// edgesOf is a second telling of Edges.
func edgesOf(w impl.World) []impl.Edge {
	var all []impl.Edge
	if len(faultsOf(w)) > 0 {
		return nil
	}
	for m, module := range w.Modules {
		for l, line := range module.Lines {
			if line.Op == impl.LImport || line.Op == impl.LTry {
				all = append(all, edge(m, l, foundBy(w, module.Name, line.Name)))
			}
		}
	}
	return all
}

func foundBy(w impl.World, from, name string) int {
	for _, try := range triesOf(w.Roots, from, name) {
		for m, module := range w.Modules {
			if module.Name == try {
				return m
			}
		}
	}
	return -1
}

// orderOf is a second telling of Order, with a stack: of each module on it so many edges were followed.
func orderOf(w impl.World, name string) []string {
	var order []string
	first := foundBy(w, "main", name)
	if len(faultsOf(w)) > 0 || first < 0 {
		return nil
	}
	edges := edgesOf(w)
	type open struct{ module, edge int }
	stack := []open{{first, 0}}
	known := map[int]bool{-1: true, first: true}
	for len(stack) > 0 {
		top := &stack[len(stack)-1]
		for top.edge < len(edges) && (edges[top.edge].From != top.module || known[edges[top.edge].To]) {
			top.edge++
		}
		if top.edge < len(edges) {
			to := edges[top.edge].To
			known[to] = true
			stack = append(stack, open{to, 0})
		} else {
			order = append(order, w.Modules[top.module].Name)
			stack = stack[:len(stack)-1]
		}
	}
	return order
}

// ringOf is a second telling of ShortestRing: rounds of one edge, of two and so on, tried from each module along the first edges first.
// The first one that comes back is the one that a search in breadth finds, since that meets modules in the order of such rounds.
func ringOf(w impl.World) []string {
	edges := edgesOf(w)
	var round func(at, first, left int) []string
	round = func(at, first, left int) []string {
		if left == 0 && at == first {
			return []string{}
		}
		for _, e := range edges {
			if left == 0 || e.From != at || e.To < 0 {
				continue
			}
			if rest := round(e.To, first, left-1); rest != nil {
				return append([]string{w.Modules[at].Name}, rest...)
			}
		}
		return nil
	}
	for n := 1; n <= len(w.Modules); n++ {
		for m := range w.Modules {
			if ring := round(m, m, n); ring != nil {
				return ring
			}
		}
	}
	return nil
}

// answerOf is a second telling of Answer: a line is written whole, then what is not told is taken out of it.
func answerOf(w impl.World, name string) string {
	r := loadOf(w, name)
	if r.Code == -1 {
		return "no world\n"
	}
	words := strings.Split("- name absent broken ring failed thrown deep", " ")
	var text strings.Builder
	for _, rec := range r.Recs {
		kind := strings.Split("- read begin say end fail catch", " ")[rec.Kind]
		line := strings.ReplaceAll(fmt.Sprintf("%s <%s> (%s) %d", kind, rec.Name, words[rec.Code], rec.Num), " <>", "")
		line = strings.NewReplacer(" (-)", "", "<", "", ">", "", "(", "", ")", "").Replace(line)
		if kind == "read" || kind == "begin" || kind == "catch" || kind == "fail" && rec.Code != 6 {
			line = line[:strings.LastIndex(line, " ")]
		}
		fmt.Fprintln(&text, line)
	}
	for _, ring := range r.Rings {
		fmt.Fprintf(&text, "ring %s\n", strings.Join(ring, " "))
	}
	if r.Code == 0 {
		return text.String() + "loaded\n"
	}
	return text.String() + "not loaded: " + words[r.Code] + "\n"
}

// tangle is a graph of few modules and many edges, some of them to none. One in three leads onward only, one in three mostly, and round at the end.
func tangle(d *draws) impl.World {
	n := 1 + d.below(7)
	dense := 1 + d.below(4)
	words := strings.Split("abcdefg", "")[:n]
	for i := n - 1; i > 0; i-- {
		j := d.below(i + 1)
		words[i], words[j] = words[j], words[i]
	}
	shape := d.below(3)
	for i := range words {
		words[i] += ":"
		for range d.below(dense + 1) {
			to := d.below(n + 1)
			if shape == 1 {
				to = min(i+1+d.below(3), n)
			} else if shape == 2 && d.below(8) > 0 {
				to = (i + 1 + d.below(3)/2) % n
			}
			if to == n {
				words[i] += "x"
			} else {
				words[i] += words[to][:1]
			}
		}
	}
	return joined(words...)
}

// checkGraph holds all that the graph answers against the second telling.
func checkGraph(t *testing.T, w impl.World, names ...string) {
	t.Helper()
	checkEdges(t, w, edgesOf(w)...)
	checkRing(t, w, ringOf(w)...)
	for _, name := range names {
		checkOrder(t, w, name, orderOf(w, name)...)
		checkBehind(t, w, impl.Order(w, name))
	}
	if t.Failed() {
		t.FailNow()
	}
}

// checkBehind asks for P8: no module comes twice, all is there that is led to, and, without rings, stands ahead.
func checkBehind(t *testing.T, w impl.World, order []string) {
	t.Helper()
	ringless := len(impl.ShortestRing(w)) == 0
	for i, name := range order {
		if slices.Contains(order[:i], name) {
			t.Errorf("%q comes twice: %q", name, order)
		}
	}
	for _, e := range impl.Edges(w) {
		at := slices.Index(order, w.Modules[e.From].Name)
		if at < 0 || e.To < 0 {
			continue
		}
		to := slices.Index(order, w.Modules[e.To].Name)
		if to < 0 || ringless && to >= at {
			t.Errorf("%v is at %d, and leads to %d: %q", e, at, to, order)
		}
	}
}

func TestManyGraphs(t *testing.T) {
	d := draws(7)
	seen := map[int]int{}
	for range 20000 {
		w := tangle(&d)
		checkGraph(t, w, "a", "b", "x", "./c")
		seen[len(impl.ShortestRing(w))]++
	}
	for n := range 6 {
		if seen[n] < 20 {
			t.Errorf("rings of %d were met only %d times", n, seen[n])
		}
	}
}

func TestManyWorldsAsGraphs(t *testing.T) {
	d := draws(8)
	for i := range 3000 {
		w := someWorld(&d)
		checkGraph(t, w, "a", "./b", "lib/x/c", "main", "", "none", pick(&d, []string{"../a", "./x/a", "x/a", "c"}))
		if i%2 == 0 {
			w = spoilt(&d, i%6)
			checkGraph(t, w, "a", "b", "./c")
		}
	}
}

func TestManyAnswers(t *testing.T) {
	d := draws(9)
	for i := range 10000 {
		w := someWorld(&d)
		switch i % 20 {
		case 0:
			w = deepWorld(&d)
		case 1, 2:
			w = spoilt(&d, i%6)
		}
		for _, name := range []string{"a", "m0", pick(&d, []string{"b", "lib/a", "x/b", "main", "", "./x/a"})} {
			if got, want := impl.Answer(w, name), answerOf(w, name); got != want {
				t.Fatalf("Answer(%q)\n got %q\nwant %q\n of %v", name, got, want, w)
			}
		}
	}
}

func TestGreatestGraph(t *testing.T) {
	// sixty modules of sixty lines: each imports every one, in turn, from the next one on
	w := plainWorld()
	for m := range 60 {
		var all []impl.Line
		for l := range 60 {
			all = append(all, imports(link((m+1+l)%60)))
		}
		w.Modules = append(w.Modules, module(link(m), all...))
	}
	edges := impl.Edges(w)
	if len(edges) != 3600 || edges[3599] != edge(59, 59, 59) || edges[61] != edge(1, 1, 3) {
		t.Error(len(edges))
	}
	checkRing(t, w, "m0")
	var want []string
	for m := range 60 {
		want = append(want, link((59-m+7)%60))
	}
	checkOrder(t, w, "m7", want...)
	// and without those that lead to itself
	for m := range 60 {
		w.Modules[m].Lines = w.Modules[m].Lines[:59]
	}
	checkRing(t, w, "m0", "m1")
}

func TestGraphAnswersAreNewMemory(t *testing.T) {
	d := draws(10)
	for range 500 {
		w := someWorld(&d)
		name := strings.Clone("a")
		given := append(textsOfWorld(w), name)
		if list := impl.Order(w, name); anyShared(list, given) {
			t.Fatalf("Order shares memory with its arguments: %v", list)
		}
		if list := impl.ShortestRing(w); anyShared(list, given) {
			t.Fatalf("ShortestRing shares memory with its argument: %v", list)
		}
	}
}

// answersOf is what each function answers, of all chapters, as far as it takes a world and a name.
func answersOf(w impl.World, name string) []any {
	return []any{
		impl.Clean(name), impl.Within(name, "./b"), impl.Tries(w.Roots, name, "b"), impl.Tries(w.Roots, "main", name),
		impl.WorldOk(w), impl.Load(w, name),
		impl.Edges(w), impl.Order(w, name), impl.ShortestRing(w), impl.Answer(w, name),
	}
}

// writeOver writes into every list that an answer has, and behind its end.
func writeOver(answer reflect.Value) {
	switch answer.Kind() {
	case reflect.Interface:
		writeOver(answer.Elem())
	case reflect.Struct:
		for i := range answer.NumField() {
			writeOver(answer.Field(i))
		}
	case reflect.Slice:
		for i := range answer.Len() {
			writeOver(answer.Index(i))
		}
		answer.Slice(0, answer.Cap()).Clear()
	}
}

func TestNothingIsWrittenIntoAnArgument(t *testing.T) {
	d := draws(11)
	for i := range 800 {
		whole := someWorld(&d)
		switch i % 10 {
		case 0:
			whole = deepWorld(&d)
		case 1, 2:
			whole = spoilt(&d, i%6)
		case 3:
			whole = tangle(&d)
		}
		// what lies behind the end of a list is not the program's either
		whole.Roots, whole.Faults = append(whole.Roots, "kept"), append(whole.Faults, 399)
		for m := range whole.Modules {
			whole.Modules[m].Lines = append(whole.Modules[m].Lines, throw(int64(m)))
		}
		whole.Modules = append(whole.Modules, module("kept", imports("kept")))
		w := whole
		w.Roots, w.Faults, w.Modules = w.Roots[:len(w.Roots)-1], w.Faults[:len(w.Faults)-1], w.Modules[:len(w.Modules)-1]
		before := copyOf(whole)
		for _, name := range []string{"a", "./b", "lib/x/c", "m0", "", "A"} {
			first, second := answersOf(w, name), answersOf(w, name)
			if !reflect.DeepEqual(first, second) {
				t.Fatalf("the second answers are\n%v, the first were\n%v", second, first)
			}
			writeOver(reflect.ValueOf(first))
			if !reflect.DeepEqual(whole, before) {
				t.Fatalf("the world became %v, was %v", whole, before)
			}
			if third := answersOf(w, name); !reflect.DeepEqual(third, second) {
				t.Fatalf("the third answers are\n%v, the second were\n%v", third, second)
			}
		}
	}
}
