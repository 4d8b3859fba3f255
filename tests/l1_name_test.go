package tests

import (
	"slices"
	"strings"
	"testing"
	"unsafe"

	"loop.example/bobbin/impl"
)

func letters(n int) string { return strings.Repeat("a", n) }

func good(name string) impl.Named { return impl.Named{Name: name} }

func bad(code int) impl.Named { return impl.Named{Code: code} }

func TestCleanCases(t *testing.T) {
	for _, c := range []struct {
		name string
		want impl.Named
	}{
		// ordinary names
		{"a", good("a")},
		{"z", good("z")},
		{"0", good("0")},
		{"9", good("9")},
		{"_", good("_")},
		{"-", good("-")},
		{"lib/a-1/_x/09", good("lib/a-1/_x/09")},
		{"a/a/a", good("a/a/a")},
		// . and .. at the beginning, in the middle, at the end
		{"./a", good("a")},
		{"././a", good("a")},
		{"a/./b", good("a/b")},
		{"a/.", good("a")},
		{"a/b/./.", good("a/b")},
		{"../a", bad(2)},
		{"./../a", bad(2)},
		{"a/../b", good("b")},
		{"a/b/../c", good("a/c")},
		{"a/b/../../c", good("c")},
		{"a/b/..", good("a")},
		{"a/../../b", bad(2)},
		{"a/b/../../..", bad(2)},
		// nothing left at the end
		{"", bad(1)},
		{".", bad(1)},
		{"./.", bad(1)},
		{"a/..", bad(1)},
		{"./a/./../.", bad(1)},
		{"..", bad(2)},
		// parts that are none
		{"/", bad(1)},
		{"/a", bad(1)},
		{"a/", bad(1)},
		{"a//b", bad(1)},
		{"./", bad(1)},
		{"A", bad(1)},
		{"a/bC", bad(1)},
		{"...", bad(1)},
		{".a", bad(1)},
		{"a.", bad(1)},
		{"a..b", bad(1)},
		{" ", bad(1)},
		{"a b", bad(1)},
		{"a\\b", bad(1)},
		{"a\x00", bad(1)},
		{"a\xff", bad(1)},
		{"\u00e9", bad(1)},
		// the neighbours of what is allowed
		{"`", bad(1)},
		{"{", bad(1)},
		{"a:", bad(1)},
		{"^", bad(1)},
		{",", bad(1)},
		// which of two faults comes first
		{"../A", bad(2)},
		{"A/..", bad(1)},
		{"A/../..", bad(1)},
		{"a/../../B", bad(2)},
		{"a/B/../../..", bad(1)},
		{"/..", bad(1)},
		{"..//", bad(2)},
	} {
		if got := impl.Clean(c.name); got != c.want {
			t.Errorf("Clean(%q) = %v, want %v", c.name, got, c.want)
		}
	}
}

func TestCleanLength(t *testing.T) {
	for _, c := range []struct {
		name string
		want impl.Named
	}{
		{letters(60), good(letters(60))},
		{letters(61), bad(3)},
		{strings.Repeat("a/", 29) + "bc", good(strings.Repeat("a/", 29) + "bc")},
		{strings.Repeat("a/", 30) + "b", bad(3)},
		// the bytes of the name count, not those of its one form
		{strings.Repeat("./", 29) + "bc", good("bc")},
		{strings.Repeat("./", 30) + "b", bad(3)},
		{strings.Repeat("a/../", 11) + letters(5), good(letters(5))},
		{strings.Repeat("a/../", 12) + "b", bad(3)},
		// bytes, not runes
		{strings.Repeat("\u00e9", 30), bad(1)},
		{strings.Repeat("\u00e9", 31), bad(3)},
		// too long is looked for ahead of the parts
		{"A" + letters(59), bad(1)},
		{"A" + letters(60), bad(3)},
		{"../" + letters(57), bad(2)},
		{"../" + letters(58), bad(3)},
		{strings.Repeat("/", 61), bad(3)},
		{strings.Repeat("../", 100000), bad(3)},
	} {
		if got := impl.Clean(c.name); got != c.want {
			t.Errorf("Clean(%q) = %v, want %v", c.name, got, c.want)
		}
	}
}

func TestCleanEveryByte(t *testing.T) {
	const plain = "abcdefghijklmnopqrstuvwxyz0123456789_-"
	for b := range 256 {
		name := string([]byte{byte(b)})
		want := bad(1)
		if strings.Contains(plain, name) {
			want = good(name)
		}
		if got := impl.Clean(name); name != "." && got != want {
			t.Errorf("Clean(%q) = %v, want %v", name, got, want)
		}
		long := "x" + name + "y"
		if want.Code == 0 {
			want = good(long)
		}
		if got := impl.Clean(long); name != "/" && got != want {
			t.Errorf("Clean(%q) = %v, want %v", long, got, want)
		}
	}
}

func TestWithinCases(t *testing.T) {
	for _, c := range []struct {
		from, name string
		want       impl.Named
	}{
		// from with one part: it stands at the top
		{"a", "c", good("c")},
		{"a", "./c", good("c")},
		{"a", "../c", bad(2)},
		{"a", ".", bad(1)},
		{"a", "..", bad(2)},
		{"a", "a", good("a")},
		// from with several
		{"a/b", "c", good("a/c")},
		{"a/b", "./c", good("a/c")},
		{"a/b", "../c", good("c")},
		{"a/b", "../../c", bad(2)},
		{"a/b", ".", good("a")},
		{"a/b", "..", bad(1)},
		{"a/b/c/d", "e/../../f", good("a/b/f")},
		{"a/b/c/d", "../../../x/y", good("x/y")},
		{"a/b/c/d", "../../../../x", bad(2)},
		{"a/b/c/d", "../../x", good("a/x")},
		// from that is not in its one form, but has one
		{"a/./b", "c", good("a/c")},
		{"x/../a/b", "c", good("a/c")},
		{"a/b/c/..", "d", good("a/d")},
		{"a/b/..", "../d", bad(2)},
		// from without a Clean, looked for first
		{"", "c", bad(4)},
		{".", "c", bad(4)},
		{"..", "c", bad(4)},
		{"A", "c", bad(4)},
		{"a/", "c", bad(4)},
		{"a/..", "c", bad(4)},
		{letters(61), "c", bad(4)},
		{"A", "C", bad(4)},
		{"A", "", bad(4)},
		{"", "../c", bad(4)},
		{"a//b", letters(61), bad(4)},
		{letters(61), letters(61), bad(4)},
		// a name with a fault
		{"a/b", "", bad(1)},
		{"a/b", "C", bad(1)},
		{"a/b", "/c", bad(1)},
		{"a/b", "c/", bad(1)},
		{"a/b", "../../C", bad(2)},
		{"a/b", "C/../../..", bad(1)},
	} {
		if got := impl.Within(c.from, c.name); got != c.want {
			t.Errorf("Within(%q, %q) = %v, want %v", c.from, c.name, got, c.want)
		}
	}
}

func TestWithinLength(t *testing.T) {
	for _, c := range []struct {
		from, name string
		want       impl.Named
	}{
		// what comes out has 60 bytes, 61 bytes
		{"bb/x", letters(57), good("bb/" + letters(57))},
		{"bb/x", letters(58), bad(3)},
		{"bb/x", "./" + letters(57), good("bb/" + letters(57))},
		{"bb/x", "./" + letters(58), bad(3)},
		{letters(58) + "/x", "y", good(letters(58) + "/y")},
		{letters(58) + "/x", "yy", bad(3)},
		{strings.Repeat("a/", 29) + "x", strings.Repeat("b/", 29) + "y", bad(3)},
		// the last part of from counts for nothing
		{letters(60), letters(60), good(letters(60))},
		{"b/" + letters(58), letters(58), good("b/" + letters(58))},
		{"b/" + letters(58), letters(59), bad(3)},
		// too long only on the way
		{"bbb/x", letters(57) + "/..", good("bbb")},
		{letters(58) + "/x", "../" + letters(57), good(letters(57))},
		// a walk that goes wrong: nothing comes out that were too long
		{"bb/x", letters(58) + "/B", bad(1)},
		// a name of more than 60 bytes, whatever it leads to
		{"a/b", letters(61), bad(3)},
		{"a/b", strings.Repeat("./", 29) + "cc", good("a/cc")},
		{"a/b", strings.Repeat("./", 30) + "c", bad(3)},
		{"a/b", "A" + letters(60), bad(3)},
		{"a/b", strings.Repeat("../", 20) + "c", bad(3)},
	} {
		if got := impl.Within(c.from, c.name); got != c.want {
			t.Errorf("Within(%q, %q) = %v, want %v", c.from, c.name, got, c.want)
		}
	}
}

func checkTries(t *testing.T, roots []string, from, name string, want ...string) {
	t.Helper()
	if got := impl.Tries(roots, from, name); !slices.Equal(got, want) {
		t.Errorf("Tries(%q, %q, %q) = %q, want %q", roots, from, name, got, want)
	}
}

func TestTriesFromHere(t *testing.T) {
	roots := []string{"", "lib"}
	checkTries(t, roots, "p/m", "./b", "p/b")
	checkTries(t, roots, "p/m", "../b", "b")
	checkTries(t, roots, "p/m", ".", "p")
	checkTries(t, roots, "p/q/m", "..", "p")
	checkTries(t, roots, "p/m", "./../b", "b")
	checkTries(t, roots, "m", "./b", "b")
	checkTries(t, nil, "p/m", "./b", "p/b")
	checkTries(t, []string{"A"}, "p/m", "./b", "p/b")
	checkTries(t, make([]string, 8), "p/m", "./b", "p/b")
	// Within has a code
	checkTries(t, roots, "m", "../b")
	checkTries(t, roots, "m", ".")
	checkTries(t, roots, "m", "./B")
	checkTries(t, roots, "M", "./b")
	checkTries(t, roots, "", "./b")
	checkTries(t, roots, "bb/m", "./"+letters(57), "bb/"+letters(57))
	checkTries(t, roots, "bb/m", "./"+letters(58))
	checkTries(t, make([]string, 9), "p/m", "./b")
	// only the first part tells it
	checkTries(t, roots, "p/m", "a/../b", "b", "lib/b")
	checkTries(t, roots, "p/m", "a/./b", "a/b", "lib/a/b")
	checkTries(t, roots, "p/m", "...")
	checkTries(t, roots, "p/m", ".b")
}

func TestTriesByRoots(t *testing.T) {
	checkTries(t, []string{"", "lib", "x/y"}, "m", "a/b", "a/b", "lib/a/b", "x/y/a/b")
	checkTries(t, []string{"x/y", "lib", ""}, "m", "a/b", "x/y/a/b", "lib/a/b", "a/b")
	checkTries(t, []string{""}, "m", "b", "b")
	checkTries(t, []string{"lib"}, "m", "b", "lib/b")
	checkTries(t, nil, "m", "b")
	checkTries(t, []string{}, "m", "b")
	// where it stands is not asked
	checkTries(t, []string{"lib"}, "M", "b", "lib/b")
	checkTries(t, []string{"lib"}, "", "b", "lib/b")
	checkTries(t, []string{"lib"}, "p/q/m", "b", "lib/b")
	// 8 roots, 9 roots
	eight := []string{"a", "b", "c", "d", "e", "f", "g", "h"}
	checkTries(t, eight, "m", "x", "a/x", "b/x", "c/x", "d/x", "e/x", "f/x", "g/x", "h/x")
	checkTries(t, append(slices.Clone(eight), "i"), "m", "x")
	checkTries(t, make([]string, 8), "m", "x", "x")
	checkTries(t, make([]string, 9), "m", "x")
	// a name that has a code
	for _, name := range []string{"", "B", "b/", "/b", "b//c", "b/..", "b/../..", letters(61), strings.Repeat("b/../", 12) + "c"} {
		checkTries(t, []string{"", "lib"}, "m", name)
	}
	// what the name leads above is not taken from the root
	checkTries(t, []string{"x/y"}, "m", "b/../../c")
}

func TestTriesOddRoots(t *testing.T) {
	// roots that are not in their one form: root, slash and name are walked together
	checkTries(t, []string{"./lib", "a/../x", "y/."}, "m", "b", "lib/b", "x/b", "y/b")
	checkTries(t, []string{".", "lib"}, "m", "b", "b", "lib/b")
	checkTries(t, []string{"x/.."}, "m", "b", "b")
	// roots that are no names
	checkTries(t, []string{"lib", "..", "/", "/lib", "lib/", "a//b", " ", "x"}, "m", "b", "lib/b", "x/b")
	checkTries(t, []string{"A", "x/../.."}, "m", "b")
	// roots by which the name gets too long
	checkTries(t, []string{letters(58), letters(59), "lib"}, "m", "b", letters(58)+"/b", "lib/b")
	checkTries(t, []string{"", "c", "dd"}, "m", letters(58), letters(58), "c/"+letters(58))
	checkTries(t, []string{"", "c"}, "m", letters(60), letters(60))
	checkTries(t, []string{letters(60), letters(61), strings.Repeat("A", 1000)}, "m", "b")
	// a root counts as it is written, the name in its one form
	checkTries(t, []string{strings.Repeat("./", 28) + "x"}, "m", "bb", "x/bb")
	checkTries(t, []string{strings.Repeat("./", 28) + "x"}, "m", "bbb")
	checkTries(t, []string{letters(55)}, "m", "c/../bbbb", letters(55)+"/bbbb")
	checkTries(t, []string{letters(56)}, "m", "c/../bbbb")
	// the same try twice
	checkTries(t, []string{"", "lib", ""}, "m", "b", "b", "lib/b")
	checkTries(t, []string{"lib", "lib", "./lib", "lib/.", "x/../lib"}, "m", "b", "lib/b")
	checkTries(t, []string{"x", "", ".", "y/..", "x"}, "m", "b", "x/b", "b")
	// the same parts, but not the same name
	checkTries(t, []string{"x", "x/x"}, "m", "x", "x/x", "x/x/x")
}

// everyText gives all texts over the pieces, of at most n of them.
func everyText(pieces []string, n int, visit func(string)) {
	var grow func(text string, left int)
	grow = func(text string, left int) {
		visit(text)
		if left == 0 {
			return
		}
		for _, piece := range pieces {
			grow(text+piece, left-1)
		}
	}
	grow("", n)
}

// walked is what the document says, told another way (the height anew for every part, the rest from behind), to hold the answers against.
func walked(row []string, name string) impl.Named {
	if len(name) > 60 {
		return bad(3)
	}
	split := strings.Split(name, "/")
	for i, part := range split {
		height := len(row)
		for _, earlier := range split[:i] {
			if earlier == ".." {
				height--
			} else if earlier != "." {
				height++
			}
		}
		if part == ".." && height == 0 {
			return bad(2)
		}
		if part != "." && part != ".." && (part == "" || strings.Trim(part, "abcdefghijklmnopqrstuvwxyz0123456789_-") != "") {
			return bad(1)
		}
	}
	// from behind, each .. takes away the next part that is still there
	var left []string
	gone := 0
	for _, part := range slices.Backward(append(slices.Clone(row), split...)) {
		switch {
		case part == "..":
			gone++
		case part == ".":
		case gone > 0:
			gone--
		default:
			left = append([]string{part}, left...)
		}
	}
	out := strings.Join(left, "/")
	if out == "" {
		return bad(1)
	}
	if len(out) > 60 {
		return bad(3)
	}
	return good(out)
}

func withinOf(from, name string) impl.Named {
	home := walked(nil, from)
	if home.Code != 0 {
		return bad(4)
	}
	row := strings.Split(home.Name, "/")
	return walked(row[:len(row)-1], name)
}

func TestEveryShortName(t *testing.T) {
	froms := []string{"m", "p/m", "p/q/m", "p/./m", "p/..", "A", "", letters(58) + "/m"}
	everyText([]string{"a", "b", ".", "..", "/", "A", letters(30)}, 6, func(name string) {
		got := impl.Clean(name)
		if want := walked(nil, name); got != want {
			t.Fatalf("Clean(%q) = %v, want %v", name, got, want)
		}
		if got.Code == 0 && impl.Clean(got.Name) != got {
			t.Fatalf("Clean(%q) = %v: not its own Clean", name, got)
		}
		for _, from := range froms {
			got := impl.Within(from, name)
			if want := withinOf(from, name); got != want {
				t.Fatalf("Within(%q, %q) = %v, want %v", from, name, got, want)
			}
		}
	})
}

func triesOf(roots []string, from, name string) []string {
	if len(roots) > 8 {
		return nil
	}
	if part := strings.Split(name, "/")[0]; part == "." || part == ".." {
		if alone := withinOf(from, name); alone.Code == 0 {
			return []string{alone.Name}
		}
		return nil
	}
	alone := walked(nil, name)
	if alone.Code != 0 {
		return nil
	}
	var out []string
	for _, root := range roots {
		text := root + "/" + alone.Name
		if root == "" {
			text = alone.Name
		}
		if one := walked(nil, text); one.Code == 0 && !slices.Contains(out, one.Name) {
			out = append(out, one.Name)
		}
	}
	return out
}

func TestTriesOfEveryRoots(t *testing.T) {
	some := []string{"", "lib", "./lib", "x/..", "A", "..", "lib/", letters(58), letters(59), "a/../lib"}
	names := []string{"b", "bb", "b/../c", "./b", "../b", ".", "B", "", "lib", letters(57)}
	for _, name := range names {
		for i := range 1000 {
			roots := []string{some[i%10], some[i/10%10], some[i/100]}
			for _, roots := range [][]string{roots, roots[:2], slices.Concat(roots, roots, roots[:2]), slices.Concat(roots, roots, roots)} {
				for _, from := range []string{"m", "p/m", "M"} {
					checkTries(t, roots, from, name, triesOf(roots, from, name)...)
				}
			}
		}
	}
}

func sharesMemory(a, b string) bool {
	if a == "" || b == "" {
		return false
	}
	x, y := uintptr(unsafe.Pointer(unsafe.StringData(a))), uintptr(unsafe.Pointer(unsafe.StringData(b)))
	return x < y+uintptr(len(b)) && y < x+uintptr(len(a))
}

func TestAnswersAreNewMemory(t *testing.T) {
	for _, name := range []string{"lib", "a/b", "./lib", "lib/.", letters(60)} {
		name = strings.Clone(name)
		if sharesMemory(impl.Clean(name).Name, name) {
			t.Errorf("Clean(%q) shares memory with its argument", name)
		}
		if got := impl.Within(name, name).Name; sharesMemory(got, name) {
			t.Errorf("Within(%q, %q) shares memory with its argument", name, name)
		}
		for _, try := range impl.Tries([]string{"", "x", "."}, "m", name) {
			if sharesMemory(try, name) {
				t.Errorf("Tries of %q share memory with the argument", name)
			}
		}
	}
}

func TestArgumentsStayAsTheyAre(t *testing.T) {
	whole := []string{"lib", "./lib", "", "A", "x/..", "kept", "kept"}
	before := slices.Clone(whole)
	roots := whole[:5]
	first := impl.Tries(roots, "p/m", "b")
	kept := slices.Clone(first)
	for i := range first {
		first[i] = "written over"
	}
	if !slices.Equal(whole, before) {
		t.Errorf("the roots became %q", whole)
	}
	if again := impl.Tries(roots, "p/m", "b"); !slices.Equal(again, kept) {
		t.Errorf("the second answer is %q, the first was %q", again, kept)
	}
}
