package tests

import (
	"slices"
	"strings"
	"testing"

	"loop.example/g00288/impl"
)

// namingProgs are programs of which some name much, and some are not right.
func namingProgs(t *testing.T) []impl.Prog {
	l := append(someProgs(), brokenProgs(t)[:20]...)
	for _, s := range programTexts() {
		l = append(l, readProg(t, s))
	}
	return append(l, readProg(t, "func f(a) { return (a . b); } begin { x = 1; } { t[x] = f(y); for (k in u) { delete t[k]; } } (z in v) { next; }"))
}

func copyNames(l []string) []string {
	out := []string{}
	for _, s := range l {
		out = append(out, strings.Clone(s))
	}
	return out
}

func nameSpans(l []string) []span { return spansOfAll(l, textSpans) }

// What lies behind a list's length names nothing, and stays as it is.
func TestProgramsThatAreCheckedAreLeft(t *testing.T) {
	for i, p := range namingProgs(t) {
		o := &overStmt{}
		laid := o.layProg(p)
		vars, tables, check := impl.VarsOf(laid), impl.TablesOf(laid), impl.Check(laid)
		if slices.Contains(vars, spareName) || slices.Contains(tables, spareName) {
			t.Errorf("what lies behind a list's length is named: %q, %q", vars, tables)
		}
		wantNames(t, "with room behind its lists", p, vars, tables)
		wantCheck(t, "with room behind its lists", p, check)
		o.wantTextsUntouched(t)
		if !untouchedProg(laid, p) {
			t.Errorf("a call wrote into its argument, the program %d", i)
		}
	}
}

func TestNamesThatAreAnsweredAreNewMemory(t *testing.T) {
	for _, p := range namingProgs(t) {
		o := &overStmt{}
		laid := o.layProg(p)
		vars, tables := impl.VarsOf(laid), impl.TablesOf(laid)
		toldVars, toldTables := copyNames(vars), copyNames(tables)
		spans := slices.Concat(nameSpans(vars), nameSpans(tables), nameSpans(impl.VarsOf(laid)), nameSpans(impl.TablesOf(laid)))
		wantApart(t, "the names", spans)
		for _, b := range o.texts {
			overwrite(b)
		}
		if !slices.Equal(vars, toldVars) || !slices.Equal(tables, toldTables) {
			t.Errorf("the names %q and %q share memory with their program", toldVars, toldTables)
		}
	}
}

// What becomes of one answer by another's hand is not in the next one.
func TestAnswersOfNamesAreApart(t *testing.T) {
	for _, p := range namingProgs(t) {
		first, second, tables := impl.VarsOf(p), impl.VarsOf(p), impl.TablesOf(p)
		told, toldTables := copyNames(second), copyNames(tables)
		for _, l := range [][]string{first, impl.TablesOf(p)} {
			whole := l[:cap(l)]
			for i := range whole {
				whole[i] = "other"
			}
		}
		if !slices.Equal(second, told) || !slices.Equal(tables, toldTables) {
			t.Errorf("two answers share memory: %q, %q", second, tables)
		}
		wantNames(t, "asked once more", p, told, toldTables)
	}
}

// What was asked ahead turns no answer, not even where the program is another by then.
func TestNamesHangOnTheProgramAlone(t *testing.T) {
	whole := readProg(t, "func f(a) { a = b; } { x = t[y]; f(1); }")
	for range 3 {
		for _, p := range namingProgs(t) {
			impl.VarsOf(p)
			impl.TablesOf(p)
			impl.Check(p)
			wantNames(t, "behind another", whole, []string{"b", "x", "y"}, []string{"t"})
			wantCheck(t, "behind another", whole, impl.ChGood)
		}
	}
	turned := copyProg(whole)
	turned.Fns[0].Params[0] = "b"
	wantNames(t, "a Param turned", turned, []string{"a", "x", "y"}, []string{"t"})
	turned.Fns[0].Params[0] = "t"
	wantCheck(t, "a Param turned", turned, impl.ChBoth)
	turned.Fns[0].Params = nil
	wantCheck(t, "no Param", turned, impl.ChCall)
	wantNames(t, "as it was", whole, []string{"b", "x", "y"}, []string{"t"})
	wantCheck(t, "as it was", whole, impl.ChGood)
}
