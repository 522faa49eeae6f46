package tests

import (
	"maps"
	"regexp"
	"slices"
	"strings"
	"testing"

	"loop.example/g00288/impl"
)

// A toldNaming is what a program names, told of its text alone: by what stands beside each name there.
type toldNaming struct {
	vars, tables, params, fns map[string]int
	// paramsOf is how many Params a function has.
	paramsOf map[string]int
	calls    []toldCall
	stray    int
}

type toldCall struct {
	name  string
	count int
}

var (
	toldWord      = regexp.MustCompile(`'[^']*'|~ /[^/]*/|[a-z][a-z0-9]*|[0-9]+|\S`)
	toldNameBegin = regexp.MustCompile(`^[a-z]`)
)

// toldCount is how many terms stand between the bracket ahead and the one that ends it.
func toldCount(words []string) int {
	if words[1] == ")" {
		return 0
	}
	depth, count := 0, 1
	for _, w := range words {
		switch w {
		case "(", "[":
			depth++
		case ")", "]":
			depth--
		case ",":
			if depth == 1 {
				count++
			}
		}
		if depth == 0 {
			break
		}
	}
	return count
}

// A toldSection is the rule or the function in which a word stands.
type toldSection struct {
	kind   string
	depth  int
	params []string
}

func (n *toldNaming) head(words []string) toldSection {
	end := slices.Index(words, ")")
	in := toldSection{kind: "func"}
	for _, w := range words[3:end] {
		if w != "," {
			in.params = append(in.params, w)
			n.params[w]++
		}
	}
	n.fns[words[1]]++
	n.paramsOf[words[1]] = len(in.params)
	return in
}

func (n *toldNaming) name(words []string, i int, in toldSection) {
	w, behind, ahead := words[i], words[i+1], ""
	if i > 0 {
		ahead = words[i-1]
	}
	switch {
	case ahead == "in" || behind == "[":
		n.tables[w]++
	case behind == "(":
		n.calls = append(n.calls, toldCall{w, toldCount(words[i+1:])})
	case !slices.Contains(in.params, w):
		n.vars[w]++
	}
}

func toldNames(text string) toldNaming {
	n := toldNaming{vars: map[string]int{}, tables: map[string]int{}, params: map[string]int{}, fns: map[string]int{}, paramsOf: map[string]int{}}
	words, in := toldWord.FindAllString(text, -1), toldSection{}
	for i := 0; i < len(words); i++ {
		switch w := words[i]; {
		case w == "func":
			in = n.head(words[i:])
			i += slices.Index(words[i:], ")")
		case w == "begin" || w == "end":
			in.kind = w
		case w == "{":
			in.depth++
		case w == "}":
			if in.depth--; in.depth == 0 {
				in = toldSection{}
			}
		case w == "next" && in.kind != "" || w == "return" && in.kind != "func":
			n.stray++
		case toldNameBegin.MatchString(w) && !slices.Contains(noNames(), w):
			n.name(words, i, in)
		}
	}
	return n
}

func (n toldNaming) hasTwoThings() bool {
	for name := range n.fns {
		if n.vars[name]+n.params[name]+n.tables[name] > 0 {
			return true
		}
	}
	for name := range n.tables {
		if n.vars[name]+n.params[name] > 0 {
			return true
		}
	}
	return false
}

func (n toldNaming) hasWrongCall() bool {
	return slices.ContainsFunc(n.calls, func(c toldCall) bool { return n.fns[c.name] == 0 || c.count > n.paramsOf[c.name] })
}

// check is what Check answers of what is right.
func (n toldNaming) check() int {
	switch {
	case n.hasTwoThings():
		return impl.ChBoth
	case n.hasWrongCall():
		return impl.ChCall
	case n.stray > 0:
		return impl.ChPlace
	}
	return impl.ChGood
}

func wantNames(t *testing.T, name string, p impl.Prog, vars, tables []string) {
	t.Helper()
	if got := impl.VarsOf(p); !slices.Equal(got, vars) {
		t.Errorf("%s: VarsOf = %q, want %q", shortened(name), got, vars)
	}
	if got := impl.TablesOf(p); !slices.Equal(got, tables) {
		t.Errorf("%s: TablesOf = %q, want %q", shortened(name), got, tables)
	}
}

func wantCheck(t *testing.T, name string, p impl.Prog, want int) {
	t.Helper()
	if got := impl.Check(p); got != want {
		t.Errorf("%s: Check = %d, want %d", shortened(name), got, want)
	}
}

// wantNaming is for programs that do not hold themselves; it answers what Check is to be.
func wantNaming(t *testing.T, p impl.Prog) int {
	t.Helper()
	if !toldProgOk(p) {
		wantNames(t, "a wrong one", p, nil, nil)
		wantCheck(t, "a wrong one", p, impl.ChForm)
		return impl.ChForm
	}
	text := toldProgText(p)
	n := toldNames(text)
	wantNames(t, text, p, slices.Sorted(maps.Keys(n.vars)), slices.Sorted(maps.Keys(n.tables)))
	wantCheck(t, text, p, n.check())
	return n.check()
}

// readProg wants the text to be a program's.
func readProg(t *testing.T, s string) impl.Prog {
	t.Helper()
	p, ok := impl.ParseProg(s)
	if !ok {
		t.Fatalf("ParseProg(%q) is false", shortened(s))
	}
	return p
}

// wantNamed wants names with blanks between.
func wantNamesOfText(t *testing.T, s, vars, tables string, check int) {
	t.Helper()
	p := readProg(t, s)
	wantNames(t, s, p, strings.Fields(vars), strings.Fields(tables))
	wantCheck(t, s, p, check)
	wantNaming(t, p)
}

func wantChecked(t *testing.T, s string, want int) {
	t.Helper()
	p := readProg(t, s)
	wantCheck(t, s, p, want)
	wantNaming(t, p)
}
