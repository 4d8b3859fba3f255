package tests

import (
	"cmp"
	"fmt"
	"math"
	"reflect"
	"slices"
	"strings"
	"testing"

	"loop.example/bobbin/impl"
)

// soundWorld has every kind of line, and no fault.
func soundWorld() impl.World {
	return impl.World{
		Roots:  []string{"", "lib", "x/y"},
		Faults: []int{0, 3, 399},
		Modules: []impl.Module{
			{Name: "a", Lines: []impl.Line{
				{Op: impl.LSay, Num: 1},
				{Op: impl.LGive, Num: 2},
				{Op: impl.LImport, Name: "b"},
				{Op: impl.LTry, Name: "./c"},
			}},
			{Name: "lib/b", Lines: []impl.Line{
				{Op: impl.LShow, Name: "a"},
				{Op: impl.LIf, Name: "a", Skip: 1},
				{Op: impl.LThrow, Num: 3},
			}},
			{Name: "c"},
		},
	}
}

func wrong(code, module, line int) impl.Wrong {
	return impl.Wrong{Code: code, Module: module, Line: line}
}

// checkWorld spoils a sound world by each of the changes, in turn.
func checkWorld(t *testing.T, want impl.Wrong, spoil ...func(*impl.World)) {
	t.Helper()
	w := soundWorld()
	for _, change := range spoil {
		change(&w)
	}
	if got := impl.WorldOk(w); got != want {
		t.Errorf("WorldOk = %v, want %v: %.300s", got, want, fmt.Sprint(w))
	}
}

// The changes. Each makes one fault, of the code in its name, or stays at a limit.

func roots(all ...string) func(*impl.World) {
	return func(w *impl.World) { w.Roots = all }
}

func faults(all ...int) func(*impl.World) {
	return func(w *impl.World) { w.Faults = all }
}

func moreRoots(n int) func(*impl.World) { return roots(make([]string, n)...) }

func moreFaults(n int) func(*impl.World) {
	all := make([]int, n)
	for i := range all {
		all[i] = i
	}
	return faults(all...)
}

func moreModules(n int) func(*impl.World) {
	return func(w *impl.World) {
		for len(w.Modules) < n {
			w.Modules = append(w.Modules, impl.Module{Name: fmt.Sprint("m", len(w.Modules))})
		}
	}
}

func rename(m int, name string) func(*impl.World) {
	return func(w *impl.World) { w.Modules[m].Name = name }
}

func lines(m int, all ...impl.Line) func(*impl.World) {
	return func(w *impl.World) { w.Modules[m].Lines = all }
}

func says(n int) []impl.Line {
	return slices.Repeat([]impl.Line{{Op: impl.LSay}}, n)
}

func badLine(m, l int) func(*impl.World) {
	return func(w *impl.World) { w.Modules[m].Lines[l].Op = 8 }
}

func TestSoundWorlds(t *testing.T) {
	checkWorld(t, impl.Wrong{})
	for _, w := range []impl.World{
		{},
		{Roots: []string{}, Modules: []impl.Module{}, Faults: []int{}},
		{Modules: []impl.Module{{Name: "a", Lines: []impl.Line{}}}},
		{Roots: []string{"", "", "lib", "lib"}},
	} {
		if got := impl.WorldOk(w); got != (impl.Wrong{}) {
			t.Errorf("WorldOk(%v) = %v", w, got)
		}
	}
}

func TestTooMany(t *testing.T) {
	checkWorld(t, wrong(0, 0, 0), moreModules(60))
	checkWorld(t, wrong(1, 0, 0), moreModules(61))
	checkWorld(t, wrong(0, 0, 0), moreRoots(8))
	checkWorld(t, wrong(1, 0, 0), moreRoots(9))
	checkWorld(t, wrong(0, 0, 0), moreFaults(400))
	checkWorld(t, wrong(1, 0, 0), faults(slices.Repeat([]int{-1}, 401)...))
	// 401 numbers below 400 can't all ascend, and too many is told ahead of that
	checkWorld(t, wrong(1, 0, 0), moreFaults(401))
	checkWorld(t, wrong(3, 0, 0), faults(slices.Repeat([]int{-1}, 400)...))
	checkWorld(t, wrong(0, 0, 0), moreModules(60), moreRoots(8), moreFaults(400))
	checkWorld(t, wrong(1, 0, 0), moreModules(61), moreRoots(9), moreFaults(401))
	// each of the three with faults of all the other codes
	others := []func(*impl.World){rename(1, "A"), badLine(0, 0)}
	checkWorld(t, wrong(1, 0, 0), append(others, moreModules(61), roots("./lib"), faults(-1))...)
	checkWorld(t, wrong(1, 0, 0), append(others, roots("A", "", "", "", "", "", "", "", "./lib"), faults(-1))...)
	checkWorld(t, wrong(1, 0, 0), append(others, moreFaults(401), roots("./lib"))...)
	checkWorld(t, wrong(1, 0, 0), func(w *impl.World) { w.Modules = make([]impl.Module, 61) })
}

func TestRoots(t *testing.T) {
	for _, root := range []string{"", "lib", "x/y/z", "0", "_", "-", letters(60), "a/" + letters(58), "main"} {
		checkWorld(t, wrong(0, 0, 0), roots(root))
		checkWorld(t, wrong(0, 0, 0), roots("", root, "lib"))
	}
	for _, root := range []string{
		"./lib", "lib/", "/lib", "lib/.", "a/../b", "a//b", ".", "..", "../lib", "a/..", "/", " ", "Lib", "l b", "lib\x00", "lib\xff",
		letters(61), "a/" + letters(59), strings.Repeat("./", 40) + "b", strings.Repeat("A", 1000),
	} {
		checkWorld(t, wrong(2, 0, 0), roots(root))
		checkWorld(t, wrong(2, 0, 0), roots(root, "", "lib"))
		checkWorld(t, wrong(2, 0, 0), roots("", "lib", root))
		checkWorld(t, wrong(2, 0, 0), roots("", "", "", "", "", "", "", root))
	}
}

func TestFaults(t *testing.T) {
	for _, good := range [][]int{nil, {}, {0}, {1}, {399}, {0, 1}, {0, 399}, {398, 399}, {5, 7, 9}} {
		checkWorld(t, wrong(0, 0, 0), faults(good...))
	}
	for _, odd := range [][]int{
		{-1}, {400}, {math.MinInt}, {math.MaxInt}, {0, 0}, {3, 3}, {1, 0}, {0, 400}, {-1, 0}, {399, 399}, {399, 400},
		{0, 2, 1}, {0, 1, 1}, {0, 2, 0, 3}, {1, 2, 3, -1}, {5, 3, 4}, {math.MaxInt, 0}, {0, math.MinInt},
	} {
		checkWorld(t, wrong(3, 0, 0), faults(odd...))
	}
}

func TestModuleNames(t *testing.T) {
	for _, name := range []string{"b", "main", "x/y/z", letters(60), "a/a", "-", "lib"} {
		for m := range 3 {
			checkWorld(t, wrong(0, 0, 0), rename(m, name))
		}
	}
	for _, name := range []string{"", "./z", "z/", "/z", "z/.", "y/../z", "y//z", ".", "..", "Z", "z z", letters(61), strings.Repeat("Z", 1000)} {
		for m := range 3 {
			checkWorld(t, wrong(4, m, 0), rename(m, name))
		}
	}
	// of two with the same name the later one is told
	checkWorld(t, wrong(4, 1, 0), rename(1, "a"))
	checkWorld(t, wrong(4, 2, 0), rename(2, "a"))
	checkWorld(t, wrong(4, 2, 0), rename(2, "lib/b"))
	checkWorld(t, wrong(4, 2, 0), rename(0, "c"))
	checkWorld(t, wrong(4, 1, 0), rename(1, "a"), rename(2, "a"))
	checkWorld(t, wrong(4, 59, 0), moreModules(60), rename(59, "a"))
	checkWorld(t, wrong(4, 31, 0), moreModules(60), rename(59, "m4"), rename(31, "m30"))
	// the same name, but not the same text: the one that is not in its one form is told
	checkWorld(t, wrong(4, 0, 0), rename(0, "./c"))
	checkWorld(t, wrong(4, 2, 0), rename(2, "./a"))
	checkWorld(t, wrong(4, 0, 0), rename(0, ""), rename(1, ""))
}

func TestLineNumbers(t *testing.T) {
	for m := range 3 {
		checkWorld(t, wrong(0, 0, 0), lines(m, says(60)...))
		checkWorld(t, wrong(4, m, 0), lines(m, says(61)...))
		checkWorld(t, wrong(4, m, 0), lines(m, make([]impl.Line, 61)...))
		checkWorld(t, wrong(5, m, 0), lines(m, make([]impl.Line, 60)...))
		checkWorld(t, wrong(5, m, 59), lines(m, append(says(59), impl.Line{})...))
	}
	checkWorld(t, wrong(4, 1, 0), lines(2, says(61)...), lines(1, says(61)...))
}

// checkLine puts a line ahead of so many others, in each of the modules.
func checkLine(t *testing.T, ok bool, line impl.Line, behind int) {
	t.Helper()
	for m := range 3 {
		for _, ahead := range []int{0, 1, 5} {
			want := wrong(5, m, ahead)
			if ok {
				want = impl.Wrong{}
			}
			checkWorld(t, want, lines(m, slices.Concat(says(ahead), []impl.Line{line}, says(behind))...))
		}
	}
}

func TestLinesByTheTable(t *testing.T) {
	nums := []int64{0, 1, -1, math.MinInt64, math.MaxInt64}
	names := []string{"", "a", "b/..", "..", "any text", "A\n\x00\xff", " ", letters(60), letters(61), letters(119), letters(120)}
	for _, op := range []int{impl.LSay, impl.LGive, impl.LThrow} {
		for _, num := range nums {
			checkLine(t, true, impl.Line{Op: op, Num: num}, 2)
			for _, name := range names[1:] {
				checkLine(t, false, impl.Line{Op: op, Num: num, Name: name}, 2)
			}
			for _, skip := range []int{1, 2, -1} {
				checkLine(t, false, impl.Line{Op: op, Num: num, Skip: skip}, 2)
			}
		}
	}
	for _, op := range []int{impl.LImport, impl.LTry, impl.LShow} {
		for _, name := range names {
			checkLine(t, true, impl.Line{Op: op, Name: name}, 2)
			for _, num := range nums[1:] {
				checkLine(t, false, impl.Line{Op: op, Name: name, Num: num}, 2)
			}
			for _, skip := range []int{1, 2, -1} {
				checkLine(t, false, impl.Line{Op: op, Name: name, Skip: skip}, 2)
			}
		}
	}
	for _, name := range names {
		for skip := range 3 {
			checkLine(t, true, impl.Line{Op: impl.LIf, Name: name, Skip: skip}, 2)
			for _, num := range nums[1:] {
				checkLine(t, false, impl.Line{Op: impl.LIf, Name: name, Skip: skip, Num: num}, 2)
			}
		}
	}
}

func TestLongNames(t *testing.T) {
	for _, op := range []int{impl.LImport, impl.LTry, impl.LShow, impl.LIf} {
		for _, piece := range []string{"a", "A", "/", " ", "\x00", "\xff"} {
			checkLine(t, true, impl.Line{Op: op, Name: strings.Repeat(piece, 120)}, 1)
			checkLine(t, false, impl.Line{Op: op, Name: strings.Repeat(piece, 121)}, 1)
		}
		// bytes, not runes
		checkLine(t, true, impl.Line{Op: op, Name: strings.Repeat("\u00e9", 60)}, 1)
		checkLine(t, false, impl.Line{Op: op, Name: strings.Repeat("\u00e9", 61)}, 1)
		checkLine(t, false, impl.Line{Op: op, Name: letters(100000)}, 1)
	}
}

func TestOps(t *testing.T) {
	for _, op := range []int{0, 8, 9, -1, -7, 256 + impl.LSay, math.MinInt, math.MaxInt} {
		checkLine(t, false, impl.Line{Op: op}, 2)
		checkLine(t, false, impl.Line{Op: op, Num: 1}, 2)
		checkLine(t, false, impl.Line{Op: op, Name: "a"}, 2)
		checkLine(t, false, impl.Line{Op: op, Name: "a", Skip: 1}, 2)
	}
	for op := 1; op <= 7; op++ {
		checkLine(t, true, impl.Line{Op: op}, 2)
		checkLine(t, true, impl.Line{Op: op}, 0)
	}
}

func TestSkips(t *testing.T) {
	for behind := range 5 {
		for skip := -2; skip <= 6; skip++ {
			checkLine(t, skip >= 0 && skip <= behind, impl.Line{Op: impl.LIf, Name: "a", Skip: skip}, behind)
		}
		checkLine(t, false, impl.Line{Op: impl.LIf, Skip: math.MinInt}, behind)
		checkLine(t, false, impl.Line{Op: impl.LIf, Skip: math.MaxInt}, behind)
	}
	first := impl.Line{Op: impl.LIf, Skip: 59}
	checkWorld(t, wrong(0, 0, 0), lines(1, append([]impl.Line{first}, says(59)...)...))
	first.Skip = 60
	checkWorld(t, wrong(5, 1, 0), lines(1, append([]impl.Line{first}, says(59)...)...))
	// the lines of the next module are not behind it
	checkWorld(t, wrong(5, 0, 4), lines(0, append(says(4), impl.Line{Op: impl.LIf, Skip: 1})...))
	// one that is left out may leave out others
	ifs := []impl.Line{{Op: impl.LIf, Skip: 2}, {Op: impl.LIf, Skip: 1}, {Op: impl.LIf}}
	checkWorld(t, wrong(0, 0, 0), lines(1, ifs...))
}

func TestOrderOfFaults(t *testing.T) {
	many := []func(*impl.World){moreModules(61)}
	root := []func(*impl.World){roots("", "./lib")}
	fault := []func(*impl.World){faults(3, 3)}
	module := []func(*impl.World){rename(1, "B"), rename(2, "a"), lines(1, says(61)...), rename(0, "")}
	line := []func(*impl.World){badLine(0, 0), badLine(0, 3)}
	// a fault of each code behind a fault of each later code
	for _, c := range []struct {
		want  impl.Wrong
		spoil [][]func(*impl.World)
	}{
		{wrong(1, 0, 0), [][]func(*impl.World){many, root}},
		{wrong(1, 0, 0), [][]func(*impl.World){many, fault}},
		{wrong(1, 0, 0), [][]func(*impl.World){many, module}},
		{wrong(1, 0, 0), [][]func(*impl.World){many, line}},
		{wrong(2, 0, 0), [][]func(*impl.World){root, fault}},
		{wrong(2, 0, 0), [][]func(*impl.World){root, module}},
		{wrong(2, 0, 0), [][]func(*impl.World){root, line}},
		{wrong(3, 0, 0), [][]func(*impl.World){fault, module}},
		{wrong(3, 0, 0), [][]func(*impl.World){fault, line}},
		{wrong(4, 0, 0), [][]func(*impl.World){line, module}},
		{wrong(4, 1, 0), [][]func(*impl.World){line, module[:1]}},
		{wrong(4, 2, 0), [][]func(*impl.World){line, module[1:2]}},
		{wrong(4, 1, 0), [][]func(*impl.World){line, module[2:3]}},
		{wrong(1, 0, 0), [][]func(*impl.World){line, module, fault, root, many}},
		{wrong(2, 0, 0), [][]func(*impl.World){line, module, fault, root}},
		{wrong(3, 0, 0), [][]func(*impl.World){line, module, fault}},
	} {
		checkWorld(t, c.want, slices.Concat(c.spoil...)...)
		slices.Reverse(c.spoil)
		checkWorld(t, c.want, slices.Concat(c.spoil...)...)
	}
}

func TestOrderOfModulesAndLines(t *testing.T) {
	// modules with a fault of the same code
	checkWorld(t, wrong(4, 0, 0), rename(2, "C"), rename(0, "A"))
	checkWorld(t, wrong(4, 1, 0), rename(2, "C"), lines(1, says(61)...))
	checkWorld(t, wrong(4, 1, 0), lines(2, says(61)...), rename(1, "a"))
	checkWorld(t, wrong(5, 0, 3), badLine(0, 3), badLine(1, 0))
	checkWorld(t, wrong(5, 1, 2), badLine(1, 2), lines(2, impl.Line{}))
	// lines of one module
	checkWorld(t, wrong(5, 0, 1), badLine(0, 3), badLine(0, 1))
	checkWorld(t, wrong(5, 1, 0), badLine(1, 2), badLine(1, 0))
	checkWorld(t, wrong(5, 1, 1), badLine(1, 2), badLine(1, 1))
	// a module of code 4 behind one with a line of code 5, ahead of it, and the same one
	checkWorld(t, wrong(4, 2, 0), badLine(0, 0), rename(2, "C"))
	checkWorld(t, wrong(4, 1, 0), badLine(0, 0), rename(1, "a"))
	checkWorld(t, wrong(4, 2, 0), badLine(1, 2), lines(2, says(61)...))
	checkWorld(t, wrong(4, 0, 0), badLine(1, 0), rename(0, "A"))
	checkWorld(t, wrong(4, 1, 0), badLine(1, 0), rename(1, "A"))
}

// faultsOf is every fault of a world, in any order, each told by itself.
func faultsOf(w impl.World) []impl.Wrong {
	var all []impl.Wrong
	add := func(is bool, code, module, line int) {
		if is {
			all = append(all, wrong(code, module, line))
		}
	}
	add(len(w.Modules) >= 61, 1, 0, 0)
	add(len(w.Roots) >= 9, 1, 0, 0)
	add(len(w.Faults) >= 401, 1, 0, 0)
	for _, root := range w.Roots {
		add(root != "" && walked(nil, root) != good(root), 2, 0, 0)
	}
	for i, fault := range w.Faults {
		add(fault < 0 || fault > 399, 3, 0, 0)
		for _, later := range w.Faults[i+1:] {
			add(fault >= later, 3, 0, 0)
		}
	}
	for m, module := range w.Modules {
		add(walked(nil, module.Name) != good(module.Name), 4, m, 0)
		for _, ahead := range w.Modules[:m] {
			add(ahead.Name == module.Name, 4, m, 0)
		}
		add(len(module.Lines) >= 61, 4, m, 0)
		for l, line := range module.Lines {
			row := map[int]string{1: "n", 2: "n", 3: "t", 4: "t", 5: "t", 6: "n", 7: "ts"}[line.Op]
			add(row == "", 5, m, l)
			add(!strings.Contains(row, "n") && line.Num != 0, 5, m, l)
			add(!strings.Contains(row, "t") && line.Name != "", 5, m, l)
			add(!strings.Contains(row, "s") && line.Skip != 0, 5, m, l)
			add(len(line.Name) >= 121, 5, m, l)
			add(line.Skip < 0 || l+line.Skip > len(module.Lines)-1, 5, m, l)
		}
	}
	return all
}

func firstOf(all []impl.Wrong) impl.Wrong {
	if len(all) == 0 {
		return impl.Wrong{}
	}
	return slices.MinFunc(all, func(a, b impl.Wrong) int {
		return cmp.Or(cmp.Compare(a.Code, b.Code), cmp.Compare(a.Module, b.Module), cmp.Compare(a.Line, b.Line))
	})
}

// draws is a row of numbers that is the same at every run.
type draws uint64

func (d *draws) below(n int) int {
	*d = *d*6364136223846793005 + 1442695040888963407
	return int(uint64(*d)>>33) % n
}

// spoilt is a sound world in which so many places were written over, mostly by what is nearly right.
func spoilt(d *draws, times int) impl.World {
	w := soundWorld()
	names := []string{"", "a", "b", "c", "lib/b", "lib", "./a", "A", letters(60), letters(61), letters(120), letters(121)}
	for range times {
		m := d.below(3)
		name := names[d.below(len(names))]
		if d.below(12) == 0 {
			w.Modules[m].Lines = says(59 + d.below(3))
		}
		switch at := d.below(6); {
		case at == 0 && d.below(4) == 0:
			w.Roots = append(w.Roots, slices.Repeat([]string{name}, d.below(8))...)
		case at == 0 && d.below(4) == 0:
			w.Faults = append(w.Faults, d.below(402)-1)
			slices.Sort(w.Faults)
		case at == 0 && d.below(4) == 0:
			w.Faults = append(w.Faults, d.below(400))
		case at == 1:
			w.Modules[m].Name = name
		case at > 1 && len(w.Modules[m].Lines) > 0:
			all := w.Modules[m].Lines
			line := &all[d.below(len(all))]
			*line = impl.Line{Op: d.below(9)}
			if line.Op > 2 && line.Op != 6 || d.below(8) == 0 {
				line.Name = name
			}
			if line.Op < 3 || line.Op == 6 || d.below(8) == 0 {
				line.Num = int64(d.below(3) - 1)
			}
			if line.Op == 7 || d.below(8) == 0 {
				line.Skip = d.below(len(all)+2) - 1
			}
		}
	}
	return w
}

func TestFirstFaultOfManyWorlds(t *testing.T) {
	d := draws(1)
	met := map[int]int{}
	for i := range 60000 {
		w := spoilt(&d, i%6)
		want := firstOf(faultsOf(w))
		met[want.Code]++
		if got := impl.WorldOk(w); got != want {
			t.Fatalf("WorldOk = %v, want %v: %v", got, want, w)
		}
	}
	for code := range 6 {
		if met[code] < 100 {
			t.Errorf("code %d was met only %d times", code, met[code])
		}
	}
}

func copyOf(w impl.World) impl.World {
	out := impl.World{Roots: slices.Clone(w.Roots), Faults: slices.Clone(w.Faults), Modules: slices.Clone(w.Modules)}
	for m := range out.Modules {
		out.Modules[m].Lines = slices.Clone(out.Modules[m].Lines)
	}
	return out
}

func TestWorldStaysAsItIs(t *testing.T) {
	d := draws(2)
	for i := range 3000 {
		whole := spoilt(&d, i%6)
		before := copyOf(whole)
		// what lies behind the end of a list is not the program's either
		w := whole
		w.Roots = w.Roots[:len(w.Roots)-1]
		w.Faults = w.Faults[:len(w.Faults)-1]
		w.Modules = w.Modules[:len(w.Modules)-1]
		first := impl.WorldOk(w)
		if !reflect.DeepEqual(whole, before) {
			t.Fatalf("the world became %v, was %v", whole, before)
		}
		if again := impl.WorldOk(w); again != first {
			t.Fatalf("the second answer is %v, the first was %v", again, first)
		}
	}
}
