package impl

import (
	"iter"
	"slices"
	"strings"
)

const (
	MaxName  = 60
	MaxRoots = 8
)

const (
	codePart  = 1
	codeAbove = 2
	codeLong  = 3
	codeFrom  = 4
)

// Named is a name in its one form, or why it is none.
type Named struct {
	Code int
	Name string
}

// oneForm is a type of its own so that only names that were walked are held against each other:
// two of them are the same name exactly when they are equal. Its zero value is no name.
type oneForm struct {
	text string
}

// Clean is the name in its one form.
func Clean(name string) Named {
	return named(walk(nil, name))
}

// Within is the name in its one form, walked from where module from stands.
func Within(from, name string) Named {
	return named(within(from, name))
}

func within(from, name string) (oneForm, int) {
	home, code := walk(nil, from)
	if code != 0 {
		return oneForm{}, codeFrom
	}
	return walk(home.folder(), name)
}

// Tries are the names under which a name in module from is looked for, in order.
func Tries(roots []string, from, name string) []string {
	var tries []string
	for _, form := range formsToTry(roots, from, name) {
		tries = append(tries, form.text)
	}
	return tries
}

func formsToTry(roots []string, from, name string) []oneForm {
	if len(roots) > MaxRoots {
		return nil
	}
	if isRelative(name) {
		alone, code := within(from, name)
		if code != 0 {
			return nil
		}
		return []oneForm{alone}
	}
	alone, code := walk(nil, name)
	if code != 0 {
		return nil
	}
	return underRoots(roots, alone.text)
}

// underRoots leaves out the roots that lead to no name, or to one that an earlier root led to.
func underRoots(roots []string, name string) []oneForm {
	var forms []oneForm
	for _, root := range roots {
		form, code := walk(nil, rooted(root, name))
		if code == 0 && !slices.Contains(forms, form) {
			forms = append(forms, form)
		}
	}
	return forms
}

func rooted(root, name string) string {
	if root == "" {
		return name
	}
	return root + "/" + name
}

func isRelative(name string) bool {
	first, _, _ := strings.Cut(name, "/")
	return first == "." || first == ".."
}

// walk leads from a row of parts along a name. The row is the caller's no more: it is written over.
func walk(row []string, name string) (oneForm, int) {
	if len(name) > MaxName {
		return oneForm{}, codeLong
	}
	for part := range parts(name) {
		switch {
		case part == ".":
		case part == ".." && len(row) == 0:
			return oneForm{}, codeAbove
		case part == "..":
			row = row[:len(row)-1]
		case isPlain(part):
			row = append(row, part)
		default:
			return oneForm{}, codePart
		}
	}
	return formOf(row)
}

func formOf(row []string) (oneForm, int) {
	// Join hands the text of a single part back as it is, and an answer shares no memory with an argument.
	form := oneForm{strings.Clone(strings.Join(row, "/"))}
	switch {
	case form == oneForm{}:
		return oneForm{}, codePart
	case len(form.text) > MaxName:
		return oneForm{}, codeLong
	}
	return form, 0
}

// folder is the row of parts in which a module of this name stands.
func (f oneForm) folder() []string {
	row := slices.Collect(parts(f.text))
	return row[:len(row)-1]
}

// parts gives what stands between the slashes; a name without a slash is one part, also when it is empty.
func parts(name string) iter.Seq[string] {
	return func(yield func(string) bool) {
		rest, more := name, true
		for more {
			var part string
			part, rest, more = strings.Cut(rest, "/")
			if !yield(part) {
				return
			}
		}
	}
}

func isPlain(part string) bool {
	for i := range len(part) {
		if !isPlainByte(part[i]) {
			return false
		}
	}
	return part != ""
}

func isPlainByte(b byte) bool {
	return b >= 'a' && b <= 'z' || b >= '0' && b <= '9' || b == '_' || b == '-'
}

func named(form oneForm, code int) Named {
	return Named{Code: code, Name: form.text}
}
