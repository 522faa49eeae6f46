package tests

import (
	"math"
	"slices"
	"strconv"
	"strings"
	"testing"
	"time"

	"loop.example/g00288/impl"
)

func pRule(k int, a ...impl.Stmt) impl.Rule { return impl.Rule{K: k, A: a} }

func pWhen(e impl.Expr, a ...impl.Stmt) impl.Rule {
	return impl.Rule{K: impl.PWhen, P: e, A: a}
}

// pFn is a function whose names stand in one text, its own first.
func pFn(names string, a ...impl.Stmt) impl.Fn {
	l := strings.Fields(names)
	return impl.Fn{Name: l[0], Params: l[1:], A: a}
}

func rules(l ...impl.Rule) impl.Prog { return impl.Prog{Rules: l} }

func fns(l ...impl.Fn) impl.Prog { return impl.Prog{Fns: l} }

func someStmts(count int) []impl.Stmt { return slices.Repeat(stmts(sNext()), count) }

func ruleKinds() []int { return []int{impl.PBegin, impl.PEnd, impl.PAlways, impl.PWhen} }

// ruleOfKind has what its kind names.
func ruleOfKind(k int, a ...impl.Stmt) impl.Rule {
	if k == impl.PWhen {
		return pWhen(xVar("x"), a...)
	}
	return pRule(k, a...)
}

func toldBlockOk(l []impl.Stmt) bool {
	return len(l) <= 20 && !slices.ContainsFunc(l, func(x impl.Stmt) bool { return !toldStmtOk(x) })
}

func toldRuleOk(r impl.Rule) bool {
	if r.K == impl.PWhen {
		return toldExprOk(r.P) && toldBlockOk(r.A)
	}
	isZero := r.P.K == 0 && r.P.N == 0 && r.P.S == "" && len(r.P.L) == 0
	return slices.Contains(ruleKinds(), r.K) && isZero && toldBlockOk(r.A)
}

func toldNamesOk(l []string, most int) bool {
	seen := map[string]int{}
	for _, s := range l {
		seen[s]++
		if !toldNameOk(s) {
			return false
		}
	}
	return len(l) <= most && len(seen) == len(l)
}

// toldProgOk is for programs that do not hold themselves.
func toldProgOk(p impl.Prog) bool {
	var names []string
	for _, f := range p.Fns {
		names = append(names, f.Name)
		if !toldNamesOk(f.Params, 4) || !toldBlockOk(f.A) {
			return false
		}
	}
	return len(p.Rules) <= 10 && toldNamesOk(names, 6) &&
		!slices.ContainsFunc(p.Rules, func(r impl.Rule) bool { return !toldRuleOk(r) })
}

// toldProgText is the text of what is right.
func toldProgText(p impl.Prog) string {
	s := ""
	for _, f := range p.Fns {
		s += "func " + f.Name + "(" + strings.Join(f.Params, ", ") + ") " + toldBlockText(f.A) + "\n"
	}
	for _, r := range p.Rules {
		if r.K == impl.PWhen {
			s += toldExprText(r.P) + " "
		}
		s += map[int]string{impl.PBegin: "begin ", impl.PEnd: "end "}[r.K] + toldBlockText(r.A) + "\n"
	}
	return s
}

func wantProg(t *testing.T, p impl.Prog, want string) {
	t.Helper()
	if !impl.ProgOk(p) {
		t.Errorf("ProgOk of %q = false", shortened(want))
	}
	if got := impl.ProgText(p); got != want {
		t.Errorf("ProgText = %q, want %q", shortened(got), shortened(want))
	}
}

func wantNoProg(t *testing.T, name string, p impl.Prog) {
	t.Helper()
	if impl.ProgOk(p) {
		t.Errorf("%s: ProgOk = true", name)
	}
	if got := impl.ProgText(p); got != "" {
		t.Errorf("%s: ProgText = %q", name, shortened(got))
	}
}

func wantProgAsTold(t *testing.T, name string, p impl.Prog) {
	t.Helper()
	if toldProgOk(p) {
		wantProg(t, p, toldProgText(p))
	} else {
		wantNoProg(t, name, p)
	}
}

func TestTheKindsOfRules(t *testing.T) {
	if impl.PBegin != 1 || impl.PEnd != 2 || impl.PAlways != 3 || impl.PWhen != 4 {
		t.Error("the kinds are not 1 to 4", ruleKinds())
	}
}

// progRow is a program and its text, both written out by hand.
type progRow struct {
	text string
	p    impl.Prog
}

func progRows() []progRow {
	x, one, printed := xVar("x"), xInt(1), sPrint(xVar("x"))
	field := term(impl.XField, "", one)
	return []progRow{
		{"", impl.Prog{}},
		{"begin { }\n", rules(pRule(impl.PBegin))}, {"begin { print x; }\n", rules(pRule(impl.PBegin, printed))}, {"begin { print x; next; }\n", rules(pRule(impl.PBegin, printed, sNext()))},
		{"end { }\n", rules(pRule(impl.PEnd))}, {"end { print x; }\n", rules(pRule(impl.PEnd, printed))},
		{"{ }\n", rules(pRule(impl.PAlways))}, {"{ print x; }\n", rules(pRule(impl.PAlways, printed))}, {"{ next; next; print x; }\n", rules(pRule(impl.PAlways, sNext(), sNext(), printed))},
		{"x { }\n", rules(pWhen(x))}, {"1 { print x; }\n", rules(pWhen(one, printed))}, {"($1 ~ /a+/) { print x; next; }\n", rules(pWhen(xMatch("a+", field), printed, sNext()))}, {"'begin' { }\n", rules(pWhen(xText("begin")))}, {"(x + 1) { x = 1; }\n", rules(pWhen(term(impl.XBin, "+", x, one), sSet("x", one)))}, {"nr { }\n", rules(pWhen(impl.Expr{K: impl.XNr}))}, {"f(x) { f(x); }\n", rules(pWhen(xCall("f", x), sCall(xCall("f", x))))},
		{"begin { }\n{ }\nx { }\nend { }\n", rules(pRule(impl.PBegin), pRule(impl.PAlways), pWhen(x), pRule(impl.PEnd))}, {"end { }\nx { }\n{ }\nbegin { }\n", rules(pRule(impl.PEnd), pWhen(x), pRule(impl.PAlways), pRule(impl.PBegin))}, {"{ }\n{ }\n", rules(pRule(impl.PAlways), pRule(impl.PAlways))}, {"begin { next; }\nbegin { }\nend { }\nend { next; }\n", rules(pRule(impl.PBegin, sNext()), pRule(impl.PBegin), pRule(impl.PEnd), pRule(impl.PEnd, sNext()))},
		{"func f() { }\n", fns(pFn("f"))}, {"func f() { return 1; }\n", fns(pFn("f", stmt(impl.SReturn, "", one)))}, {"func f(a) { print x; }\n", fns(pFn("f a", printed))}, {"func f(a, b) { print x; next; }\n", fns(pFn("f a b", printed, sNext()))}, {"func f(a, b, c) { }\n", fns(pFn("f a b c"))}, {"func f(d, c, b, a) { }\n", fns(pFn("f d c b a"))}, {"func prints(begin1, ends) { }\n", fns(pFn("prints begin1 ends"))}, {"func abcdefgh(a1234567) { }\n", fns(pFn("abcdefgh a1234567"))}, {"func f(f) { }\n", fns(pFn("f f"))},
		{"func f() { }\nfunc g() { }\n", fns(pFn("f"), pFn("g"))}, {"func g() { }\nfunc f() { }\n", fns(pFn("g"), pFn("f"))}, {"func f(a, g) { }\nfunc g(a, f) { next; }\n", fns(pFn("f a g"), pFn("g a f", sNext()))},
		{"func f(a) { return a; }\nbegin { f(1); }\n", impl.Prog{Rules: []impl.Rule{pRule(impl.PBegin, sCall(xCall("f", one)))}, Fns: []impl.Fn{pFn("f a", stmt(impl.SReturn, "", xVar("a")))}}}, {"func f() { }\nfunc g() { }\nx { }\n{ }\n", impl.Prog{Rules: []impl.Rule{pWhen(x), pRule(impl.PAlways)}, Fns: []impl.Fn{pFn("f"), pFn("g")}}},
		{"{ if (x) { print x; } else { next; } while (x) { } for (x in t) { delete t[x]; } }\n", rules(pRule(impl.PAlways, sIf(stmts(printed), stmts(sNext())), sWhile(), sFor(stmt(impl.SDel, "t", x))))}, {"func f(x) { if (x) { } t[x] = 1; $1 = x; exit 1; }\n", fns(pFn("f x", sIf(nil, nil), stmt(impl.SPut, "t", x, one), stmt(impl.SField, "", one, x), stmt(impl.SExit, "", one)))},
	}
}

func TestProgramsAndTheirTexts(t *testing.T) {
	for _, row := range progRows() {
		wantProg(t, row.p, row.text)
		wantProgAsTold(t, row.text, row.p)
	}
}

// Each two of the rows have another text, so no two programs have the same.
func TestNoTwoProgramsHaveOneText(t *testing.T) {
	seen := map[string]int{}
	for i, row := range progRows() {
		if other, ok := seen[row.text]; ok {
			t.Errorf("the rows %d and %d have the text %q", other, i, row.text)
		}
		seen[row.text] = i
	}
}

// Lists that are nil and lists without elements are the same.
func TestProgramsWithListsWithoutElements(t *testing.T) {
	for _, a := range [][]impl.Stmt{nil, {}, make([]impl.Stmt, 0, 4), stmts(sNext(), sNext())[:0]} {
		for _, l := range [][]impl.Expr{nil, {}, make([]impl.Expr, 0, 4), xs(3)[:0]} {
			zero := impl.Expr{L: l}
			wantProg(t, rules(impl.Rule{K: impl.PBegin, P: zero, A: a}), "begin { }\n")
			wantProg(t, rules(impl.Rule{K: impl.PEnd, P: zero, A: a}), "end { }\n")
			wantProg(t, rules(impl.Rule{K: impl.PAlways, P: zero, A: a}), "{ }\n")
			wantProg(t, rules(impl.Rule{K: impl.PWhen, P: impl.Expr{K: impl.XNf, L: l}, A: a}), "nf { }\n")
			wantNoProg(t, "no term", rules(impl.Rule{K: impl.PWhen, P: zero, A: a}))
		}
		for _, params := range [][]string{nil, {}, make([]string, 0, 4), strings.Fields("a A")[:0]} {
			wantProg(t, fns(impl.Fn{Name: "f", Params: params, A: a}), "func f() { }\n")
		}
	}
	for _, l := range [][]impl.Rule{nil, {}, make([]impl.Rule, 0, 4), make([]impl.Rule, 20)[:0]} {
		for _, m := range [][]impl.Fn{nil, {}, make([]impl.Fn, 0, 4), make([]impl.Fn, 20)[:0]} {
			wantProg(t, impl.Prog{Rules: l, Fns: m}, "")
			wantProg(t, impl.Prog{Rules: l, Fns: []impl.Fn{pFn("f")}}, "func f() { }\n")
			wantProg(t, impl.Prog{Rules: []impl.Rule{pRule(impl.PEnd)}, Fns: m}, "end { }\n")
		}
	}
}

func TestKindsOfRulesThatAreNone(t *testing.T) {
	for _, k := range []int{0, -1, -2, -3, -4, 5, 6, 7, 8, 100, 255, 256, 257, 260, 65537, 4294967296, 4294967297, 4294967300, math.MaxInt, math.MinInt} {
		for _, r := range []impl.Rule{pRule(k), pRule(k, sNext()), {K: k, P: xVar("x")}, {K: k, P: xVar("x"), A: stmts(sNext())}} {
			wantNoProg(t, "no kind", rules(r))
			wantNoProg(t, "no kind ahead", rules(r, pRule(impl.PAlways)))
			wantNoProg(t, "no kind behind", rules(pRule(impl.PBegin), pWhen(xVar("x")), r))
			wantNoProg(t, "no kind beside a function", impl.Prog{Rules: []impl.Rule{r}, Fns: []impl.Fn{pFn("f")}})
		}
	}
	wantNoProg(t, "the zero one", rules(impl.Rule{}))
}

// What is no PWhen has a P that is zero in all of its fields.
func TestTermsOfRules(t *testing.T) {
	within := append(wrongExprs()[1:], impl.Expr{K: 1}, impl.Expr{K: -1}, impl.Expr{N: 1}, impl.Expr{N: -1}, impl.Expr{S: "x"}, impl.Expr{S: "\x00"}, impl.Expr{L: make([]impl.Expr, 1)}, impl.Expr{L: xs(1)}, impl.Expr{K: math.MinInt}, impl.Expr{N: math.MaxInt}, impl.Expr{N: 4294967296}, impl.Expr{K: 4294967296}, impl.Expr{L: make([]impl.Expr, 1000000)})
	for _, row := range exprRows() {
		within = append(within, row.e)
	}
	for _, k := range ruleKinds() {
		for i, e := range within {
			p := rules(impl.Rule{K: k, P: e, A: stmts(sNext())})
			if k == impl.PWhen {
				wantProgAsTold(t, "the term "+strconv.Itoa(i), p)
				continue
			}
			wantNoProg(t, "the term "+strconv.Itoa(i), p)
			wantNoProg(t, "a term in the last rule", rules(pWhen(xVar("x")), impl.Rule{K: k, P: e}))
			wantNoProg(t, "a term in the first rule", rules(impl.Rule{K: k, P: e}, pWhen(xVar("x"))))
		}
	}
	for _, row := range exprRows() {
		wantProg(t, rules(pWhen(row.e)), row.text+" { }\n")
		wantProg(t, rules(pWhen(row.e, sSet("x", row.e)), pWhen(row.e)), row.text+" { x = "+row.text+"; }\n"+row.text+" { }\n")
	}
	for i, e := range wrongExprs() {
		wantNoProg(t, "the wrong term "+strconv.Itoa(i), rules(pWhen(e)))
		wantNoProg(t, "the wrong term "+strconv.Itoa(i)+" within", rules(pWhen(xVar("x")), pWhen(xNot(xCall("f", e)), sNext())))
	}
	wantNoProg(t, "a term that is zero", rules(pWhen(impl.Expr{})))
	wantNoProg(t, "a term that is zero, behind", rules(pWhen(xVar("x")), pWhen(impl.Expr{}, sNext())))
}

func TestHowDeepAndHowGreatTheTermOfARuleIs(t *testing.T) {
	deep := xVar("x")
	for range 9 {
		deep = xNot(deep)
	}
	wantProg(t, rules(pWhen(deep)), "!!!!!!!!!x { }\n")
	wantNoProg(t, "a term too deep", rules(pWhen(xNot(deep))))
	great := exprOfParts(100, 4)
	wantProg(t, rules(pWhen(great), pWhen(great)), strings.Repeat(toldExprText(great)+" { }\n", 2))
	wantNoProg(t, "a term too great", rules(pWhen(great), pWhen(exprOfParts(101, 4))))
}

func TestHowManyStatementsARuleOrAFunctionHas(t *testing.T) {
	for _, count := range []int{0, 1, 2, 19, 20, 21, 22, 40, 60, 61, 1000000} {
		a, name := someStmts(count), strconv.Itoa(count)+" statements"
		for _, k := range ruleKinds() {
			wantProgAsTold(t, name, rules(ruleOfKind(k, a...)))
			wantProgAsTold(t, name, rules(ruleOfKind(k), ruleOfKind(k, a...)))
			wantProgAsTold(t, name, rules(ruleOfKind(k, a...), ruleOfKind(k)))
			if got := impl.ProgOk(rules(ruleOfKind(k, a...))); got != (count <= 20) {
				t.Errorf("%s in the kind %d: %v", name, k, got)
			}
		}
		wantProgAsTold(t, name, fns(pFn("f a", a...)))
		wantProgAsTold(t, name, fns(pFn("f a", a...), pFn("g")))
		wantProgAsTold(t, name, fns(pFn("g"), pFn("f a", a...)))
		if got := impl.ProgOk(fns(pFn("f", a...))); got != (count <= 20) {
			t.Errorf("%s in a function: %v", name, got)
		}
	}
	full := someStmts(20)
	wantProg(t, impl.Prog{Rules: []impl.Rule{pRule(impl.PEnd, full...), pRule(impl.PEnd, full...)}, Fns: []impl.Fn{pFn("f", full...), pFn("g", full...)}}, strings.Join([]string{"func f() { ", "}\nfunc g() { ", "}\nend { ", "}\nend { ", "}\n"}, strings.Repeat("next; ", 20)))
}

// The 20 are those that stand in the list itself; those within them have their own limit.
func TestStatementsWithinTheTwenty(t *testing.T) {
	full := slices.Repeat(stmts(stmtOfCount(60, 59)), 20)
	p := impl.Prog{Fns: []impl.Fn{pFn("f", full...)}, Rules: []impl.Rule{pWhen(xVar("x"), full...)}}
	wantProg(t, p, toldProgText(p))
	for i := range full {
		wrong := slices.Clone(full)
		wrong[i] = stmtOfCount(61, 60)
		wantNoProg(t, "61 statements in one", rules(pRule(impl.PBegin, wrong...)))
		wantNoProg(t, "61 statements in one of a function", fns(pFn("f", wrong...)))
	}
}

func TestAStatementThatIsWrong(t *testing.T) {
	for i, wrong := range wrongStmts() {
		name := "the wrong one " + strconv.Itoa(i)
		for _, a := range [][]impl.Stmt{stmts(wrong), stmts(wrong, sNext()), stmts(sNext(), wrong), append(someStmts(19), wrong), append(stmts(wrong), someStmts(19)...), stmts(sNext(), sFor(sNext(), sIf(stmts(sNext()), stmts(sNext(), sWhile(wrong)))))} {
			for _, k := range ruleKinds() {
				wantNoProg(t, name, rules(ruleOfKind(k, a...)))
			}
			wantNoProg(t, name+" in the last rule", rules(pRule(impl.PBegin), pWhen(xVar("x")), pRule(impl.PEnd, a...)))
			wantNoProg(t, name+" in a function", fns(pFn("f a", a...)))
			wantNoProg(t, name+" in the last function", impl.Prog{Fns: []impl.Fn{pFn("f"), pFn("g", a...)}, Rules: []impl.Rule{pRule(impl.PEnd)}})
		}
	}
}

func TestStatementsOfAllKindsInPrograms(t *testing.T) {
	for _, row := range stmtRows() {
		wantProg(t, rules(pRule(impl.PBegin, row.x), pRule(impl.PEnd, row.x, row.x)), "begin { "+row.text+" }\nend { "+row.text+" "+row.text+" }\n")
		wantProg(t, rules(pRule(impl.PAlways, sNext(), row.x), pWhen(xInt(1), row.x, sNext())), "{ next; "+row.text+" }\n1 { "+row.text+" next; }\n")
		wantProg(t, fns(pFn("f a b", row.x), pFn("g", sWhile(row.x))), "func f(a, b) { "+row.text+" }\nfunc g() { while (x) { "+row.text+" } }\n")
	}
}

func TestHowManyRulesAProgramHas(t *testing.T) {
	for _, k := range ruleKinds() {
		for _, count := range []int{0, 1, 2, 9, 10, 11, 12, 20, 100, 1000000} {
			p := rules(slices.Repeat([]impl.Rule{ruleOfKind(k)}, count)...)
			if got := impl.ProgOk(p); got != (count <= 10) {
				t.Errorf("%d rules of the kind %d: %v", count, k, got)
			}
			wantProgAsTold(t, strconv.Itoa(count)+" rules", p)
			p.Fns = []impl.Fn{pFn("f")}
			wantProgAsTold(t, strconv.Itoa(count)+" rules beside a function", p)
		}
	}
	wantProg(t, rules(slices.Repeat([]impl.Rule{pRule(impl.PAlways), pWhen(xVar("x"))}, 5)...), strings.Repeat("{ }\nx { }\n", 5))
	wantNoProg(t, "11 rules", rules(append(slices.Repeat([]impl.Rule{pRule(impl.PAlways)}, 10), pRule(impl.PBegin))...))
}

func namedFns(count int) []impl.Fn {
	var l []impl.Fn
	for i := range count {
		l = append(l, pFn("f"+strconv.Itoa(i)))
	}
	return l
}

func TestHowManyFunctionsAProgramHas(t *testing.T) {
	for _, count := range []int{0, 1, 2, 5, 6, 7, 8, 20, 1000} {
		p := fns(namedFns(count)...)
		if got := impl.ProgOk(p); got != (count <= 6) {
			t.Errorf("%d functions: %v", count, got)
		}
		wantProgAsTold(t, strconv.Itoa(count)+" functions", p)
		p.Rules = []impl.Rule{pRule(impl.PEnd)}
		wantProgAsTold(t, strconv.Itoa(count)+" functions beside a rule", p)
	}
	p := fns(namedFns(6)...)
	p.Rules = slices.Repeat([]impl.Rule{pRule(impl.PEnd)}, 10)
	wantProg(t, p, "func f0() { }\nfunc f1() { }\nfunc f2() { }\nfunc f3() { }\nfunc f4() { }\nfunc f5() { }\n"+strings.Repeat("end { }\n", 10))
	wantNoProg(t, "a million functions", fns(make([]impl.Fn, 1000000)...))
	wantNoProg(t, "a million functions of one name", fns(slices.Repeat([]impl.Fn{pFn("f")}, 1000000)...))
}

func TestTwoFunctionsOfOneName(t *testing.T) {
	for count := 2; count <= 6; count++ {
		for at := range count {
			for other := range at {
				l := namedFns(count)
				l[at].Name = l[other].Name
				wantNoProg(t, "one name", fns(l...))
				l[at].Params, l[at].A = []string{"a"}, stmts(sNext())
				wantNoProg(t, "one name, but other in all else", fns(l...))
				l[at].Name += "x"
				wantProg(t, fns(l...), toldProgText(fns(l...)))
			}
		}
	}
	wantNoProg(t, "one name beside a rule", impl.Prog{Fns: []impl.Fn{pFn("f"), pFn("g"), pFn("f")}, Rules: []impl.Rule{pRule(impl.PEnd)}})
	wantProg(t, fns(pFn("ab"), pFn("a"), pFn("b"), pFn("ba"), pFn("abc")), "func ab() { }\nfunc a() { }\nfunc b() { }\nfunc ba() { }\nfunc abc() { }\n")
}

// A Param may have the name of its function, or of another, and two functions may have the same Params.
func TestParamsOfTheNamesOfFunctions(t *testing.T) {
	wantProg(t, fns(pFn("f f")), "func f(f) { }\n")
	wantProg(t, fns(pFn("f a f g"), pFn("g g f a")), "func f(a, f, g) { }\nfunc g(g, f, a) { }\n")
	wantProg(t, fns(pFn("f a b"), pFn("g a b"), pFn("a f g"), pFn("b")), "func f(a, b) { }\nfunc g(a, b) { }\nfunc a(f, g) { }\nfunc b() { }\n")
}

func TestHowManyParamsAFunctionHas(t *testing.T) {
	all := []string{"a", "b", "c", "d", "e", "g"}
	for count := range 7 {
		f := impl.Fn{Name: "f", Params: all[:count], A: stmts(sNext())}
		if count <= 4 {
			wantProg(t, fns(f), "func f("+strings.Join(all[:count], ", ")+") { next; }\n")
		} else {
			wantNoProg(t, "too many", fns(f))
			wantNoProg(t, "too many in the last", fns(pFn("a"), pFn("b a"), f))
			wantNoProg(t, "too many in the first", fns(f, pFn("a"), pFn("b a")))
		}
	}
	wantNoProg(t, "a million of one name", fns(impl.Fn{Name: "f", Params: slices.Repeat([]string{"a"}, 1000000)}))
	many := make([]string, 1000000)
	for i := range many {
		many[i] = "a" + strconv.Itoa(i)
	}
	wantNoProg(t, "a million", fns(impl.Fn{Name: "f", Params: many}))
}

func TestTwoParamsAlike(t *testing.T) {
	for count := 2; count <= 4; count++ {
		for at := range count {
			for other := range at {
				l := []string{"a", "b", "c", "d"}[:count]
				l[at] = l[other]
				wantNoProg(t, "two alike", fns(impl.Fn{Name: "f", Params: l}))
				wantNoProg(t, "two alike in the last", fns(pFn("g a"), impl.Fn{Name: "f", Params: l}))
				wantNoProg(t, "two alike in the first", fns(impl.Fn{Name: "f", Params: l}, pFn("g a")))
				l[at] += "1"
				wantProg(t, fns(impl.Fn{Name: "f", Params: l}), "func f("+strings.Join(l, ", ")+") { }\n")
			}
		}
	}
}

func TestNamesOfFunctionsAndParams(t *testing.T) {
	wrong := append(noNames(), "", "A", "X", "aB", "Ab", "1", "1a", "_", "a_b", " a", "a ", "a\n", "a,b", "a, b", "a(", ")", "\x00", "\x7f", "\x80", "\xff", "é", "ninelette", "a12345678", strings.Repeat("a", 1000000), "'a'", "$a", "+", "f()")
	right := []string{"a", "z", "x1", "abcdefgh", "a1234567", "prints", "nrs", "i", "n", "ends", "funcs", "fun", "begin1"}
	for _, s := range right {
		wantProg(t, fns(impl.Fn{Name: s}), "func "+s+"() { }\n")
		wantProg(t, fns(pFn("f"), impl.Fn{Name: s, A: stmts(sNext())}), "func f() { }\nfunc "+s+"() { next; }\n")
		wantProg(t, fns(impl.Fn{Name: "f", Params: []string{"b", s}}), "func f(b, "+s+") { }\n")
		wantProg(t, fns(impl.Fn{Name: "f", Params: []string{s, "b", "c", "d"}}), "func f("+s+", b, c, d) { }\n")
	}
	for _, s := range wrong {
		name := "the name " + shortened(s)
		wantNoProg(t, name, fns(impl.Fn{Name: s}))
		wantNoProg(t, name, fns(impl.Fn{Name: s, Params: []string{"a"}, A: stmts(sNext())}, pFn("f")))
		wantNoProg(t, name, fns(pFn("f"), pFn("g"), impl.Fn{Name: s}))
		for at := range 4 {
			params := []string{"a", "b", "c", "d"}
			params[at] = s
			wantNoProg(t, name+" of a Param", fns(impl.Fn{Name: "f", Params: params}))
			wantNoProg(t, name+" of the last Param", fns(impl.Fn{Name: "f", Params: params[:at+1]}))
			wantNoProg(t, name+" of a Param of the last", fns(pFn("g a"), impl.Fn{Name: "f", Params: params}))
		}
	}
}

func TestEachFieldOfAProgramIsAsked(t *testing.T) {
	blocks := [][]impl.Stmt{nil, stmts(sNext()), stmts(impl.Stmt{}), stmts(sNext(), sPrint()), someStmts(20), someStmts(21)}
	for k := -2; k <= 7; k++ {
		for _, e := range []impl.Expr{{}, xVar("x"), xVar("X"), {N: 1}, {S: "x"}, {L: xs(1)}, {K: impl.XNr}, {K: impl.XNr, S: "x"}} {
			for _, a := range blocks {
				r := impl.Rule{K: k, P: e, A: a}
				wantProgAsTold(t, "a rule", rules(r))
				wantProgAsTold(t, "two rules", rules(pRule(impl.PAlways), r))
				wantProgAsTold(t, "a rule and a function", impl.Prog{Rules: []impl.Rule{r}, Fns: []impl.Fn{pFn("f")}})
			}
		}
	}
	for _, name := range []string{"", "f", "g", "F", "func", "ninelette"} {
		for _, params := range [][]string{nil, {"a"}, {"f"}, {"a", "b", "c", "d"}, {"a", "b", "c", "d", "e"}, {"a", "a"}, {"b", "a", "b"}, {""}, {"a", "in"}} {
			for _, a := range blocks {
				f := impl.Fn{Name: name, Params: params, A: a}
				wantProgAsTold(t, "a function", fns(f))
				wantProgAsTold(t, "two functions", fns(f, pFn("g a")))
				wantProgAsTold(t, "two functions and a rule", impl.Prog{Rules: []impl.Rule{pRule(impl.PEnd)}, Fns: []impl.Fn{pFn("g a"), f}})
			}
		}
	}
}

// A list may hold itself; asking must end all the same.
func TestProgramsThatHoldThemselves(t *testing.T) {
	start := time.Now()
	for _, size := range []int{1, 2, 20, 21, 10000} {
		l := someStmts(size)
		l[size-1] = sWhile(l...)
		for _, k := range ruleKinds() {
			wantNoProg(t, "a rule that holds itself", rules(ruleOfKind(k, l...)))
		}
		wantNoProg(t, "a function that holds itself", fns(pFn("f", l...)))
	}
	terms := xs(2)
	terms[0] = term(impl.XBin, "+", terms...)
	wantNoProg(t, "a term that holds itself", rules(pWhen(terms[0])))
	wantNoProg(t, "no term of a rule, but one that holds itself", rules(impl.Rule{K: impl.PBegin, P: terms[0]}))
	wantNoProg(t, "no term of a rule, but a list that holds itself", rules(impl.Rule{K: impl.PBegin, P: impl.Expr{L: terms}}))
	deep := xVar("x")
	for range 1000000 {
		deep = xNot(deep)
	}
	for _, k := range ruleKinds() {
		wantNoProg(t, "what is far too deep", rules(impl.Rule{K: k, P: deep}))
	}
	if took := time.Since(start); took > 20*time.Second {
		t.Errorf("it took %v", took)
	}
}

// What has the most of all that a program may have ends soon, too.
func TestProgramsThatAreFull(t *testing.T) {
	start := time.Now()
	great, within := exprOfParts(100, 4), stmtOfCount(59, 58)
	full := slices.Repeat(stmts(sIf(append(stmts(sPrint(great, great)), within.A...), within.B)), 20)
	p := impl.Prog{}
	for i := range 6 {
		p.Fns = append(p.Fns, impl.Fn{Name: "f" + strconv.Itoa(i), Params: []string{"a", "b", "c", "d"}, A: full})
	}
	for range 10 {
		p.Rules = append(p.Rules, pWhen(great, full...))
	}
	wantProg(t, p, toldProgText(p))
	if took := time.Since(start); took > 20*time.Second {
		t.Errorf("it took %v", took)
	}
}
