package tests

import (
	"math/rand"
	"slices"
	"strconv"
	"strings"
	"testing"
	"time"

	"loop.example/g00288/impl"
)

func TestTheAnswersOfCheck(t *testing.T) {
	if impl.ChGood != 0 || impl.ChForm != 1 || impl.ChBoth != 2 || impl.ChCall != 3 || impl.ChPlace != 4 {
		t.Error("the answers are not 0 to 4")
	}
}

// Each kind of term and of statement, with what it names.
func TestWhatEachKindNames(t *testing.T) {
	for _, row := range []struct{ text, vars, tables string }{
		{"", "", ""}, {"{ }", "", ""}, {"begin { } { } 1 { } end { }", "", ""}, {"func f() { }", "", ""}, {"func f(a, b) { }", "", ""}, {"func f(a) { } func g(b, c) { return 'x'; } { next; }", "", ""},
		{"1 { }", "", ""}, {"'x' { }", "", ""}, {"x { }", "x", ""}, {"t[1] { }", "", "t"}, {"t['x'] { }", "", "t"}, {"t[x] { }", "x", "t"}, {"$1 { }", "", ""}, {"$x { }", "x", ""}, {"(1 + 2) { }", "", ""}, {"(x + 2) { }", "x", ""}, {"(1 . x) { }", "x", ""}, {"(y && x) { }", "x y", ""}, {"!x { }", "x", ""}, {"-x { }", "x", ""},
		{"(1 in t) { }", "", "t"}, {"(x in t) { }", "x", "t"}, {"(t[x] in u) { }", "x", "t u"}, {"('a' ~ /x/) { }", "", ""}, {"(x ~ /a|y/) { }", "x", ""}, {"length(x) { }", "x", ""}, {"length('x y') { }", "", ""}, {"substr(x, 1, 2) { }", "x", ""}, {"substr(1, x, 2) { }", "x", ""}, {"substr(1, 2, x) { }", "x", ""}, {"substr(z, y, x) { }", "x y z", ""}, {"nr { }", "", ""}, {"nf { }", "", ""}, {"$nf { }", "", ""},
		{"index(x, 1) { }", "x", ""}, {"index(1, x) { }", "x", ""}, {"index(y, x) { }", "x y", ""}, {"upper(x) { }", "x", ""}, {"gsub(x ~ /y/, 1) { }", "x", ""}, {"gsub(1 ~ /y/, x) { }", "x", ""}, {"gsub(z ~ /y/, x) { }", "x z", ""},
		{"func f() { } f() { }", "", ""}, {"func f(a) { } f(x) { }", "x", ""}, {"func f(a, b, c, d) { } f(x, 1, t[y], z) { }", "x y z", "t"},
		{"{ print 1, 'x'; }", "", ""}, {"{ print x; }", "x", ""}, {"{ print x, y, z, a, b; }", "a b x y z", ""}, {"{ x = 1; }", "x", ""}, {"{ x = y; }", "x y", ""}, {"{ x = x; }", "x", ""}, {"{ t[1] = 2; }", "", "t"}, {"{ t[x] = y; }", "x y", "t"}, {"{ t[u[1]] = v[2]; }", "", "t u v"}, {"{ $1 = 2; }", "", ""}, {"{ $x = y; }", "x y", ""},
		{"{ if (1) { } }", "", ""}, {"{ if (x) { y = 1; } else { z = 1; } }", "x y z", ""}, {"{ if (1) { t[1] = 1; } else { u[1] = 1; } }", "", "t u"}, {"{ while (1) { } }", "", ""}, {"{ while (x) { y = t[1]; } }", "x y", "t"}, {"{ for (k in t) { } }", "k", "t"}, {"{ for (k in t) { delete u[k]; x = k; } }", "k x", "t u"},
		{"{ next; }", "", ""}, {"{ exit 1; }", "", ""}, {"{ exit x; }", "x", ""}, {"func f() { return x; }", "x", ""}, {"func f() { return t[1]; }", "", "t"}, {"{ delete t[1]; }", "", "t"}, {"{ delete t[x]; }", "x", "t"}, {"{ delete t[u[x]]; }", "x", "t u"}, {"func f(a) { } { f(1); f(x); f(t[1]); }", "x", "t"},
		{"begin { x = 1; } { y = t[1]; } z { u[1] = 1; } end { a = v[1]; }", "a x y z", "t u v"}, {"func f() { x = t[1]; } func g() { y = u[1]; } end { z = v[1]; }", "x y z", "t u v"}, {"func f() { x = t[1]; } { x = t[1]; } x { x = t[1]; }", "x", "t"},
		{"func x1() { } { x = x1(); x2 = t[1]; xx = t1[1]; }", "x x2 xx", "t t1"}, {"{ prints = nrs; begins[ends] = nexts; }", "ends nexts nrs prints", "begins"},
	} {
		wantNamesOfText(t, row.text, row.vars, row.tables, impl.ChGood)
	}
}

// A Param is a name of its function alone: the same name is a variable wherever it isn't one.
func TestParamsAreNoVariables(t *testing.T) {
	for _, row := range []struct{ text, vars, tables string }{
		{"func f(a) { return a; }", "", ""}, {"func f(a) { a = 1; }", "", ""}, {"func f(a) { for (a in t) { print a; } }", "", "t"}, {"func f(a) { for (b in t) { print a, b; } }", "b", "t"}, {"func f(a) { for (b in t) { a = b; } for (a in u) { } }", "b", "t u"}, {"func f() { for (a in t) { } }", "a", "t"},
		{"func f(a, b, c, d) { print d, c, b, a; }", "", ""}, {"func f(a, b, c, d) { print d, c, b, a, e; }", "e", ""}, {"func f(a) { t[a] = a; }", "", "t"}, {"func f(a) { delete t[a]; if (a) { while (a) { a = (a in u); } } else { $a = -a; } }", "", "t u"},
		{"func f(a) { a = 1; } { a = 2; }", "a", ""}, {"func f(a) { a = 1; } { b = 2; }", "b", ""}, {"func f(a) { } { a = 2; }", "a", ""}, {"func f(a) { } { b = 2; }", "b", ""}, {"func f(a) { a = 1; } begin { print a; }", "a", ""}, {"func f(a) { a = 1; } a { }", "a", ""}, {"func f(a) { a = 1; } end { for (a in t) { } }", "a", "t"},
		{"func f(a) { b = 1; }", "b", ""}, {"func f(a) { b = a; } func g(b) { b = 1; }", "b", ""}, {"func f(a) { a = b; } func g(b) { b = a; }", "a b", ""}, {"func f(b) { b = 1; } func g(a) { b = a; }", "b", ""}, {"func f(a) { a = 1; } func g() { a = 1; }", "a", ""}, {"func f() { a = 1; } func g(a) { a = 1; }", "a", ""}, {"func f(a) { a = 1; } func g(a) { a = 1; }", "", ""}, {"func f(a) { a = 1; } func g(a) { a = 1; } { a = 1; }", "a", ""}, {"func f(a, b) { a = b; } func g(b, a) { a = b; }", "", ""}, {"func f(a, b) { a = b; } func g(b, c) { c = b; } func h(c) { a = c; }", "a", ""},
		{"func f(a) { } func g() { return f(a); }", "a", ""}, {"func f(a) { return f(a); }", "", ""}, {"func f(a) { return f(b); }", "b", ""}, {"func f(a) { x = a; } func g(x) { y = x; } func h(y) { z = y; } func k(z) { return z; }", "x y z", ""}, {"func f(ab) { a = ab; }", "a", ""}, {"func f(a) { ab = a; }", "ab", ""},
	} {
		wantNamesOfText(t, row.text, row.vars, row.tables, impl.ChGood)
	}
}

// namesOfAllKinds are in the order in which they are told: byte by byte, a beginning ahead.
func namesOfAllKinds() []string {
	return []string{"a", "a0", "a01", "a1", "a10", "a2", "a9", "aa", "aa0", "ab", "abcdefgh", "abcdefgi", "az", "b", "b0", "ba", "bz", "m", "m9", "ma", "y", "z", "z0", "z9z9z9z9", "za", "zz", "zzz", "zzzzzzzz"}
}

func wantAscending(t *testing.T, p impl.Prog, vars, tables []string) {
	t.Helper()
	if !impl.ProgOk(p) {
		t.Fatal("no program")
	}
	wantNames(t, "names in order", p, vars, tables)
	wantNaming(t, p)
}

func TestNamesAscend(t *testing.T) {
	r := rand.New(rand.NewSource(12))
	all := namesOfAllKinds()
	if !slices.IsSorted(all) {
		t.Fatal("the names do not ascend")
	}
	for range 300 {
		chosen := slices.DeleteFunc(slices.Clone(all), func(string) bool { return r.Intn(3) == 0 })
		var l []impl.Stmt
		for range 1 + r.Intn(3) {
			for _, i := range r.Perm(len(chosen)) {
				l = append(l, sSet(chosen[i], xInt(1)))
			}
		}
		p := impl.Prog{}
		for part := range slices.Chunk(l, 10) {
			p.Rules = append(p.Rules, pRule(impl.PAlways, part...))
		}
		wantAscending(t, p, chosen, nil)
		for _, rule := range p.Rules {
			for i, x := range rule.A {
				rule.A[i] = stmt(impl.SPut, x.S, xInt(1), xInt(1))
			}
		}
		wantAscending(t, p, nil, chosen)
	}
}

// As many names as a program can have: each statement within each has another.
func TestManyNames(t *testing.T) {
	count := 0
	next := func() string { count++; return "n" + strconv.Itoa(1000000+count) }
	block := func() []impl.Stmt {
		var l []impl.Stmt
		for range 20 {
			within := []impl.Stmt{}
			for range 59 {
				within = append(within, sSet(next(), xVar(next())))
			}
			l = append(l, impl.Stmt{K: impl.SIf, X: []impl.Expr{term(impl.XIn, next(), xInt(1))}, A: within[:30], B: within[30:]})
		}
		return l
	}
	p := impl.Prog{}
	for _, f := range namedFns(6) {
		f.A = block()
		p.Fns = append(p.Fns, f)
	}
	for _, k := range []int{1, 2, 3, 4, 1, 2, 3, 4, 4, 3} {
		p.Rules = append(p.Rules, ruleOfKind(k, block()...))
	}
	vars, tables := impl.VarsOf(p), impl.TablesOf(p)
	if len(vars) != 16*20*59*2+1 || len(tables) != 16*20 || !slices.IsSorted(vars) || !slices.IsSorted(tables) {
		t.Errorf("%d variables, %d tables", len(vars), len(tables))
	}
	wantNaming(t, p)
}

func one() impl.Expr { return xInt(1) }

// goodTermsWith are terms that have this one as a part, each at another place, and the term itself; they call h, and name x and t.
func goodTermsWith(e impl.Expr) []impl.Expr {
	l := []impl.Expr{e}
	for _, z := range kindsWithParts() {
		for at := range z.most {
			within := z.holding(e, at)
			if z.k == impl.XCall {
				within.S = "h"
			}
			l = append(l, within)
		}
	}
	return l
}

// goodStmtsWith are statements that have this term, each at another place.
func goodStmtsWith(e impl.Expr) []impl.Stmt {
	var l []impl.Stmt
	for _, z := range stmtKinds() {
		for at := range z.most {
			x := z.of(z.most)
			x.X = xs(z.most)
			x.X[at] = e
			if z.k == impl.SCall {
				x.X = []impl.Expr{xCall("h", e, xVar("x"))}
			}
			if z.k == impl.SPut || z.k == impl.SDel {
				x.S = "t"
			}
			l = append(l, x)
		}
	}
	return l
}

// within are blocks in which this statement stands: alone, behind others, and in others, to this depth.
func within(x impl.Stmt, depth int) [][]impl.Stmt {
	l := [][]impl.Stmt{stmts(x), stmts(sPrint(xVar("x")), x)}
	if depth == 1 {
		return l
	}
	for _, block := range within(x, depth-1) {
		for _, z := range kindsWithBlocks() {
			for _, outer := range z.holding(block...) {
				l = append(l, stmts(outer))
			}
		}
	}
	return l
}

// progsWithBlock are good if the block is: it stands in a rule of each kind, and in a function k; f has one Param, and h four.
func progsWithBlock(l []impl.Stmt) []impl.Prog {
	around := []impl.Fn{pFn("f a"), pFn("h a b c d", stmt(impl.SReturn, "", xVar("c")))}
	progs := []impl.Prog{{Fns: append(slices.Clone(around), pFn("k", l...))}}
	for _, k := range ruleKinds() {
		progs = append(progs, impl.Prog{Fns: around, Rules: []impl.Rule{pRule(impl.PAlways), ruleOfKind(k, l...)}})
	}
	return progs
}

// progsWithTerm are good if the term is: it stands at each place where a term may. A return stands in functions alone.
func progsWithTerm(e impl.Expr) []impl.Prog {
	var l []impl.Prog
	for i, part := range goodTermsWith(e) {
		p := progsWithBlock(nil)[4]
		p.Rules[1].P = part
		l = append(l, p)
		for _, x := range goodStmtsWith(part) {
			depth := 1
			if i == 0 {
				depth = 3
			}
			for _, block := range within(x, depth) {
				progs := progsWithBlock(block)
				if x.K == impl.SReturn {
					progs = progs[:1]
				}
				l = append(l, progs...)
			}
		}
	}
	return l
}

// functionK answers the place of k, in which alone it is that a term or a block stands.
func functionK(p impl.Prog) int {
	return slices.IndexFunc(p.Fns, func(f impl.Fn) bool { return f.Name == "k" })
}

func withParamOfK(p impl.Prog, name string) impl.Prog {
	p.Fns = slices.Clone(p.Fns)
	p.Fns[functionK(p)].Params = []string{name}
	return p
}

func TestATermNamesWhereverItStands(t *testing.T) {
	t.Parallel()
	for _, row := range []struct {
		e              impl.Expr
		isVar, isTable bool
	}{
		{xVar("n"), true, false}, {term(impl.XAt, "n", one()), false, true}, {term(impl.XIn, "n", one()), false, true}, {xCall("h", xText("n")), false, false}, {xMatch("n", xText("n")), false, false}, {term(impl.XGsub, "n", one(), xVar("n")), true, false},
	} {
		for _, p := range progsWithTerm(row.e) {
			if got := slices.Contains(impl.VarsOf(p), "n"); got != row.isVar {
				t.Errorf("%s: a variable: %v", toldProgText(p), got)
			}
			if got := slices.Contains(impl.TablesOf(p), "n"); got != row.isTable {
				t.Errorf("%s: a table: %v", toldProgText(p), got)
			}
			wantCheck(t, toldProgText(p), p, impl.ChGood)
			if functionK(p) < 0 {
				continue
			}
			p = withParamOfK(p, "n")
			if slices.Contains(impl.VarsOf(p), "n") {
				t.Errorf("%s: a Param is a variable", toldProgText(p))
			}
			want := impl.ChGood
			if row.isTable {
				want = impl.ChBoth
			}
			wantCheck(t, toldProgText(p), p, want)
		}
	}
}

func TestTermsOfAllPlacesAsTold(t *testing.T) {
	t.Parallel()
	for _, e := range []impl.Expr{xVar("n"), xVar("t"), xVar("f"), xVar("x"), term(impl.XAt, "x", xVar("k")), term(impl.XIn, "h", xVar("a")), xCall("k"), xCall("x", xVar("n"))} {
		for _, p := range progsWithTerm(e) {
			wantNaming(t, p)
		}
	}
}

func TestAStatementNamesWhereverItStands(t *testing.T) {
	t.Parallel()
	for _, row := range []struct {
		x              impl.Stmt
		isVar, isTable bool
	}{
		{sSet("n", one()), true, false}, {stmt(impl.SPut, "n", one(), one()), false, true}, {stmt(impl.SDel, "n", one()), false, true}, {impl.Stmt{K: impl.SFor, S: "n", T: "t"}, true, false}, {impl.Stmt{K: impl.SFor, S: "x", T: "n"}, false, true}, {sPrint(xText("n")), false, false},
	} {
		for _, block := range within(row.x, 4) {
			for _, p := range progsWithBlock(block) {
				if got := slices.Contains(impl.VarsOf(p), "n"); got != row.isVar {
					t.Errorf("%s: a variable: %v", toldProgText(p), got)
				}
				if got := slices.Contains(impl.TablesOf(p), "n"); got != row.isTable {
					t.Errorf("%s: a table: %v", toldProgText(p), got)
				}
				wantCheck(t, toldProgText(p), p, impl.ChGood)
				wantNaming(t, p)
				if functionK(p) >= 0 {
					wantNaming(t, withParamOfK(p, "n"))
					wantNaming(t, withParamOfK(p, "t"))
				}
			}
		}
	}
}

// brokenProgs are good programs with names, in which one thing is not right.
func brokenProgs(t *testing.T) []impl.Prog {
	whole := readProg(t, "func f(a) { return (a . b); } begin { x = 1; } { t[x] = f(y); for (k in u) { delete t[k]; } } (z in v) { next; }")
	l := []impl.Prog{}
	breaks := func(one func(p *impl.Prog)) {
		p := copyProg(whole)
		one(&p)
		l = append(l, p)
	}
	for _, x := range wrongStmts() {
		breaks(func(p *impl.Prog) { p.Fns[0].A = append(p.Fns[0].A, x) })
		breaks(func(p *impl.Prog) { p.Rules[1].A[1].A = append(p.Rules[1].A[1].A, x) })
	}
	for _, e := range wrongExprs() {
		breaks(func(p *impl.Prog) { p.Rules[2].P = xNot(e) })
		breaks(func(p *impl.Prog) { p.Rules[1].A[0].X[0] = e })
	}
	for _, name := range append(noNames(), "", "A", "ninelette", "a b") {
		breaks(func(p *impl.Prog) { p.Fns[0].Name = name })
		breaks(func(p *impl.Prog) { p.Fns[0].Params[0] = name })
		breaks(func(p *impl.Prog) { p.Rules[0].A[0].S = name })
		breaks(func(p *impl.Prog) { p.Rules[1].A[1].T = name })
		breaks(func(p *impl.Prog) { p.Rules[2].P.S = name })
	}
	breaks(func(p *impl.Prog) { p.Fns = append(p.Fns, p.Fns[0]) })
	breaks(func(p *impl.Prog) { p.Fns[0].Params = []string{"a", "a"} })
	breaks(func(p *impl.Prog) { p.Fns[0].Params = []string{"a", "b", "c", "d", "e"} })
	breaks(func(p *impl.Prog) { p.Fns = append(p.Fns, namedFns(6)...) })
	breaks(func(p *impl.Prog) { p.Rules = append(p.Rules, slices.Repeat(p.Rules[:1], 8)...) })
	breaks(func(p *impl.Prog) { p.Rules[0].A = slices.Repeat(p.Rules[0].A, 21) })
	breaks(func(p *impl.Prog) { p.Fns[0].A = slices.Repeat(p.Fns[0].A, 21) })
	breaks(func(p *impl.Prog) { p.Rules[0].P = xVar("x") })
	breaks(func(p *impl.Prog) { p.Rules[2].P = impl.Expr{} })
	for _, k := range []int{0, -1, 5, 4294967297} {
		breaks(func(p *impl.Prog) { p.Rules[0].K = k })
	}
	return l
}

func TestWhatIsNotRightNamesNothing(t *testing.T) {
	for i, p := range append(brokenProgs(t), rules(impl.Rule{}), fns(impl.Fn{}), fns(impl.Fn{Name: "f", Params: []string{"a", "a"}, A: stmts(sSet("x", xVar("y")))})) {
		if impl.ProgOk(p) {
			t.Errorf("the program %d is right", i)
		}
		wantNames(t, "the program "+strconv.Itoa(i), p, nil, nil)
		wantCheck(t, "the program "+strconv.Itoa(i), p, impl.ChForm)
	}
	for _, p := range someProgs() {
		wantNaming(t, p)
	}
}

// Each answer with the least that brings it about, and the same mended.
func TestCheckAndTheSameMended(t *testing.T) {
	for _, row := range []struct {
		text   string
		check  int
		mended string
	}{
		{"{ x = 1; x[1] = 1; }", impl.ChBoth, "{ x = 1; y[1] = 1; }"}, {"{ x[1] = 1; x = 1; }", impl.ChBoth, "{ y[1] = 1; x = 1; }"}, {"x { x[1] = 1; }", impl.ChBoth, "y { x[1] = 1; }"}, {"x[x] { }", impl.ChBoth, "x[y] { }"}, {"(x in x) { }", impl.ChBoth, "(x in y) { }"}, {"{ for (x in x) { } }", impl.ChBoth, "{ for (x in y) { } }"}, {"begin { x = 1; } end { delete x[1]; }", impl.ChBoth, "begin { x = 1; } end { delete y[1]; }"}, {"func f() { x = 1; } func g() { x[1] = 1; }", impl.ChBoth, "func f() { x = 1; } func g() { y[1] = 1; }"}, {"func f() { x[1] = 1; } func g() { print x; }", impl.ChBoth, "func f() { x[1] = 1; } func g() { print y; }"}, {"func f() { print (1 in x); } { x = 1; }", impl.ChBoth, "func f() { print (1 in x); } { y = 1; }"},
		{"func f() { } { f = 1; }", impl.ChBoth, "func f() { } { g = 1; }"}, {"func f() { f = 1; }", impl.ChBoth, "func f() { g = 1; }"}, {"func f() { } f { }", impl.ChBoth, "func f() { } f() { }"}, {"func f() { print g; } func g() { }", impl.ChBoth, "func f() { print g(); } func g() { }"}, {"func f() { } { for (f in t) { } }", impl.ChBoth, "func f() { } { for (g in t) { } }"}, {"func f() { } { f(); print f; }", impl.ChBoth, "func f() { } { f(); print f(); }"},
		{"func f() { } { f[1] = 1; }", impl.ChBoth, "func f() { } { g[1] = 1; }"}, {"func f() { } { delete f[1]; }", impl.ChBoth, "func f() { } { delete t[1]; }"}, {"func f() { return f[1]; }", impl.ChBoth, "func f() { return f(); }"}, {"func f() { } (1 in f) { }", impl.ChBoth, "func f() { } (1 in t) { }"}, {"func f() { } { for (k in f) { } }", impl.ChBoth, "func f() { } { for (k in t) { } }"}, {"func f() { } func g() { f[1] = 1; }", impl.ChBoth, "func f() { } func g() { f(); }"},
		{"func x() { x = x[1]; }", impl.ChBoth, "func x() { y = z[1]; }"}, {"func x() { } { x = 1; } x[1] { }", impl.ChBoth, "func x() { } { y = 1; } z[1] { }"},
		{"func f(t) { t[1] = 1; }", impl.ChBoth, "func f(a) { t[1] = 1; }"}, {"func f(t) { return (1 in t); }", impl.ChBoth, "func f(a) { return (a in t); }"}, {"func f(t) { t = 1; t[1] = 1; }", impl.ChBoth, "func f(t) { t = 1; u[1] = 1; }"}, {"func f(t) { } func g() { t[1] = 1; }", impl.ChBoth, "func f(a) { } func g() { t[1] = 1; }"}, {"func f() { t[1] = 1; } func g(t) { }", impl.ChBoth, "func f() { t[1] = 1; } func g(u) { }"}, {"func f(t) { } { print t[1]; }", impl.ChBoth, "func f(t) { } { print t; }"}, {"func f(a, t) { } end { for (a in t) { } }", impl.ChBoth, "func f(a, u) { } end { for (a in t) { } }"},
		{"func f(f) { }", impl.ChBoth, "func f(g) { }"}, {"func f(a, b, c, f) { }", impl.ChBoth, "func f(a, b, c, d) { }"}, {"func f(g) { } func g() { }", impl.ChBoth, "func f(a) { } func g() { }"}, {"func f() { } func g(f) { }", impl.ChBoth, "func f() { } func g(a) { }"}, {"func f() { } func g(a, f) { return f; }", impl.ChBoth, "func f() { } func g(a, h) { return h; }"}, {"func f(f) { } { f(1); }", impl.ChBoth, "func f(g) { } { f(1); }"},
		{"{ f(); }", impl.ChCall, "func f() { } { f(); }"}, {"f() { }", impl.ChCall, "func f() { } f() { }"}, {"func f() { g(); }", impl.ChCall, "func f() { g(); } func g() { }"}, {"func f() { } { ff(); }", impl.ChCall, "func ff() { } { ff(); }"}, {"func f() { } { f(1); }", impl.ChCall, "func f() { } { f(); }"}, {"func f(a) { } { f(1, 2); }", impl.ChCall, "func f(a) { } { f(1); }"}, {"func f(a) { return f(1, 2); }", impl.ChCall, "func f(a) { return f(1); }"}, {"func f(a) { g(1, 2); } func g(a) { }", impl.ChCall, "func f(a) { g(1, 2); } func g(a, b) { }"}, {"func f(a, b, c) { } { f(1, 2, 3, 4); }", impl.ChCall, "func f(a, b, c, d) { } { f(1, 2, 3, 4); }"}, {"func f(a) { } { f(f(1, 2)); }", impl.ChCall, "func f(a) { } { f(f(1)); }"}, {"func f(a) { } func g(a, b) { } { g(1, 2); f(1, 2); }", impl.ChCall, "func f(a) { } func g(a, b) { } { g(1, 2); f(1); }"},
		{"begin { next; }", impl.ChPlace, "begin { }"}, {"end { next; }", impl.ChPlace, "{ next; }"}, {"func f() { next; }", impl.ChPlace, "func f() { return 1; }"}, {"{ return 1; }", impl.ChPlace, "{ exit 1; }"}, {"x { return x; }", impl.ChPlace, "x { next; }"}, {"begin { return 1; }", impl.ChPlace, "begin { exit 1; }"}, {"end { return 1; }", impl.ChPlace, "end { print 1; }"}, {"{ next; } end { next; }", impl.ChPlace, "{ next; } x { next; }"}, {"func f() { return 1; } { return f(); }", impl.ChPlace, "func f() { return 1; } { exit f(); }"}, {"func f() { } func g() { next; }", impl.ChPlace, "func f() { } func g() { }"},
	} {
		wantChecked(t, row.text, row.check)
		wantChecked(t, row.mended, impl.ChGood)
	}
	wantCheck(t, "a kind that is none", rules(impl.Rule{}), impl.ChForm)
	wantCheck(t, "a kind that is one", rules(impl.Rule{K: impl.PBegin}), impl.ChGood)
	wantCheck(t, "nothing", impl.Prog{}, impl.ChGood)
}

// What a name is by itself: more than its spelling makes it another thing.
func TestNamesThatAreOneThing(t *testing.T) {
	for _, s := range []string{
		"func f(a) { a = 1; } { a = 2; f(); }", "func f(x) { } { x = 1; }", "func f(x) { x = 1; } func g(x) { x = 2; } x { }", "func f(a) { } func g(a) { b = a; } func h(b) { }", "{ x = 'x'; t['x'] = 't'; }", "func f() { } { x = 'f'; }", "func f() { } ('f' ~ /f/) { }", "{ x = 1; print x, x, -x; t[x] = t[t[x]]; delete t[x]; }",
		"func f(a) { return f(g(a)); } func g(b) { return g(f(b)); } { print f(g(f(1))); }", "func x(a) { } { xx[y] = x(1); }", "func f(a, b, c, d) { } { f(); f(1); f(1, 2); f(1, 2, 3); f(1, 2, 3, 4); }", "{ for (k in t) { for (k in t) { t[k] = k; } } }",
	} {
		wantChecked(t, s, impl.ChGood)
	}
}

// What a name is called as does not make it a function: just a function's own name does.
func TestACallOfWhatIsNoFunction(t *testing.T) {
	wantChecked(t, "{ g = 1; g(); }", impl.ChCall)
	wantChecked(t, "{ g[1] = 1; g(); }", impl.ChCall)
	wantChecked(t, "func f(g) { g(); }", impl.ChCall)
	wantChecked(t, "func f(g) { g(g); }", impl.ChCall)
}

// A usage names n as one thing.
type usage struct {
	what string
	x    impl.Stmt
}

func usages() []usage {
	return []usage{
		{"variable", sPrint(xVar("n"))}, {"variable", sSet("n", one())}, {"variable", impl.Stmt{K: impl.SFor, S: "n", T: "t"}}, {"variable", stmt(impl.SPut, "t", xVar("n"), one())},
		{"table", sPrint(term(impl.XAt, "n", one()))}, {"table", sPrint(term(impl.XIn, "n", one()))}, {"table", stmt(impl.SPut, "n", one(), one())}, {"table", stmt(impl.SDel, "n", one())}, {"table", impl.Stmt{K: impl.SFor, S: "x", T: "n"}},
		{"nothing", sPrint(xText("n"))}, {"nothing", sPrint(xMatch("n", xText("n")))},
	}
}

// Each two usages of one name, each in a rule or a function, in both orders, beside a function or a Param of that name, or none.
func TestTwoUsagesOfOneName(t *testing.T) {
	for _, a := range usages() {
		for _, b := range usages() {
			isVar, isTable := a.what == "variable" || b.what == "variable", a.what == "table" || b.what == "table"
			for _, p := range []impl.Prog{rules(pRule(impl.PBegin, a.x, b.x)), rules(pRule(impl.PEnd, a.x), pWhen(one(), sWhile(b.x))), fns(pFn("f", a.x, b.x)), fns(pFn("f", a.x), pFn("g", sIf(nil, stmts(b.x)))), {Fns: []impl.Fn{pFn("f", a.x)}, Rules: []impl.Rule{pRule(impl.PAlways, b.x)}}} {
				wantTwo := func(p impl.Prog, both bool) {
					t.Helper()
					want := impl.ChGood
					if both {
						want = impl.ChBoth
					}
					wantCheck(t, toldProgText(p), p, want)
					wantNaming(t, p)
				}
				wantTwo(p, isVar && isTable)
				for _, order := range [][]impl.Fn{append([]impl.Fn{pFn("n a")}, p.Fns...), append(slices.Clone(p.Fns), pFn("n a"))} {
					wantTwo(impl.Prog{Rules: p.Rules, Fns: order}, isVar || isTable)
				}
				for _, order := range [][]impl.Fn{append([]impl.Fn{pFn("h a n")}, p.Fns...), append(slices.Clone(p.Fns), pFn("h n a"))} {
					wantTwo(impl.Prog{Rules: p.Rules, Fns: order}, isTable)
				}
				for i := range p.Fns {
					own := slices.Clone(p.Fns)
					own[i].Params = []string{"b", "n"}
					wantTwo(impl.Prog{Rules: p.Rules, Fns: own}, isTable)
				}
			}
		}
	}
}

// A function of each name among six, and a Param of that name in each of them.
func TestAParamOfTheNameOfAFunction(t *testing.T) {
	for count := 1; count <= 6; count++ {
		for of := range count {
			for in := range count {
				for at := range 4 {
					l := namedFns(count)
					l[in].Params = []string{"a", "b", "c", "d"}
					wantCheck(t, "no such Param", fns(l...), impl.ChGood)
					l[in].Params[at] = l[of].Name
					wantCheck(t, "a Param of a function's name", fns(l...), impl.ChBoth)
				}
			}
		}
	}
}

func TestHowManyTermsACallHas(t *testing.T) {
	for params := range 5 {
		for count := range 5 {
			want := impl.ChGood
			if count > params {
				want = impl.ChCall
			}
			f := impl.Fn{Name: "f", Params: []string{"a", "b", "c", "d"}[:params]}
			call := sCall(xCall("f", slices.Repeat([]impl.Expr{one()}, count)...))
			fewest := sCall(xCall("f"))
			for _, k := range ruleKinds() {
				for _, l := range [][]impl.Stmt{stmts(call), stmts(fewest, call), stmts(call, fewest), stmts(sWhile(fewest, sIf(nil, stmts(call))))} {
					wantCheck(t, "a call in a rule", impl.Prog{Fns: []impl.Fn{f}, Rules: []impl.Rule{ruleOfKind(k, l...)}}, want)
					wantCheck(t, "a call of one behind", impl.Prog{Fns: []impl.Fn{pFn("g a b c d", l...), pFn("h"), f}, Rules: []impl.Rule{ruleOfKind(k)}}, want)
					wantCheck(t, "a call of one ahead", impl.Prog{Fns: []impl.Fn{f, pFn("h"), pFn("g a b c d", l...)}, Rules: []impl.Rule{ruleOfKind(k)}}, want)
					own := f
					own.A = l
					wantCheck(t, "a call of itself", fns(pFn("g a b c d"), own, pFn("h")), want)
				}
			}
		}
	}
}

func TestACallWhereverItStands(t *testing.T) {
	t.Parallel()
	for _, row := range []struct {
		e    impl.Expr
		want int
	}{
		{xCall("f"), impl.ChGood}, {xCall("f", one()), impl.ChGood}, {xCall("f", one(), one()), impl.ChCall}, {xCall("g"), impl.ChCall}, {xCall("g", one(), one(), one(), one()), impl.ChCall}, {xCall("h", one(), one(), one(), one()), impl.ChGood},
		{xCall("f", xCall("f", xCall("f"))), impl.ChGood}, {xCall("f", xCall("f", xCall("g"))), impl.ChCall}, {xCall("h", one(), one(), one(), xCall("f", one(), one())), impl.ChCall}, {xCall("n", xVar("n")), impl.ChCall},
	} {
		for _, p := range progsWithTerm(row.e) {
			wantCheck(t, toldProgText(p), p, row.want)
		}
	}
}

func TestWhereANextAndAReturnMayStand(t *testing.T) {
	for _, x := range []impl.Stmt{sNext(), stmt(impl.SReturn, "", one()), stmt(impl.SExit, "", one())} {
		for _, l := range within(x, 5) {
			progs := progsWithBlock(l)
			wants := map[int][]int{impl.SNext: {4, 4, 4, 0, 0}, impl.SReturn: {0, 4, 4, 4, 4}, impl.SExit: {0, 0, 0, 0, 0}}[x.K]
			for i, p := range progs {
				wantCheck(t, toldProgText(p), p, wants[i])
			}
		}
	}
	next, back := sNext(), stmt(impl.SReturn, "", one())
	for _, k := range ruleKinds() {
		for at := range 10 {
			l := slices.Repeat([]impl.Rule{pRule(impl.PAlways, next)}, 10)
			l[at] = ruleOfKind(k, next)
			want := map[int]int{impl.PBegin: impl.ChPlace, impl.PEnd: impl.ChPlace}[k]
			wantCheck(t, "a next in the rule "+strconv.Itoa(at), rules(l...), want)
			l[at] = ruleOfKind(k, back)
			wantCheck(t, "a return in the rule "+strconv.Itoa(at), rules(l...), impl.ChPlace)
		}
	}
	for count := 1; count <= 6; count++ {
		for at := range count {
			l := namedFns(count)
			for i := range l {
				l[i].A = stmts(back)
			}
			wantCheck(t, "returns", fns(l...), impl.ChGood)
			l[at].A = stmts(back, next)
			wantCheck(t, "a next in the function "+strconv.Itoa(at), fns(l...), impl.ChPlace)
		}
	}
}

// Of several faults the one counts that the document names first, in whatever order they stand.
func TestSeveralFaultsAtOnce(t *testing.T) {
	both := []string{"begin { v = 1; v[1] = 1; }", "v[v] { }", "end { g = 1; }", "{ h[1] = 1; }"}
	call := []string{"begin { other(); }", "{ g(1, 2); }", "g(h(1)) { }", "end { print h(1); }"}
	place := []string{"begin { next; }", "end { x = 1; next; }", "{ return 1; }", "x { if (x) { } else { return x; } }"}
	const functions = "func g(a) { } func h() { } "
	for _, s := range both {
		for _, c := range call {
			for _, l := range place {
				for _, text := range []string{s + c + l, s + l + c, c + s + l, c + l + s, l + s + c, l + c + s, s + c, c + s, s + l, l + s} {
					wantChecked(t, functions+text, impl.ChBoth)
				}
				wantChecked(t, functions+c+l, impl.ChCall)
				wantChecked(t, functions+l+c, impl.ChCall)
				wantChecked(t, functions+l, impl.ChPlace)
				wantChecked(t, functions, impl.ChGood)
				for _, wrong := range []impl.Rule{{}, pWhen(impl.Expr{}), {K: impl.PEnd, P: one()}, pRule(impl.PAlways, impl.Stmt{})} {
					p := readProg(t, functions+s+c+l)
					p.Rules = append(p.Rules, wrong)
					wantCheck(t, "a wrong rule behind", p, impl.ChForm)
					slices.Reverse(p.Rules)
					wantCheck(t, "a wrong rule ahead", p, impl.ChForm)
				}
			}
		}
	}
	wantChecked(t, "func f(f) { next; g(); }", impl.ChBoth)
	wantChecked(t, "func f(a) { next; g(); }", impl.ChCall)
	wantChecked(t, "func f(a) { next; f(); }", impl.ChPlace)
	wantChecked(t, "func f(a) { return a; f(); }", impl.ChGood)
}

func wantGoodNamesApart(t *testing.T, p impl.Prog) {
	t.Helper()
	what := map[string]string{}
	is := func(name, kind string) {
		if other, ok := what[name]; ok && other != kind {
			t.Errorf("%s: %s is a %s and a %s", toldProgText(p), name, other, kind)
		}
		what[name] = kind
	}
	for _, name := range impl.VarsOf(p) {
		is(name, "variable")
	}
	for _, name := range impl.TablesOf(p) {
		is(name, "table")
	}
	for _, f := range p.Fns {
		is(f.Name, "function")
	}
	for _, f := range p.Fns {
		for _, name := range f.Params {
			if kind, ok := what[name]; ok && kind != "variable" {
				t.Errorf("%s: the Param %s is a %s", toldProgText(p), name, kind)
			}
		}
	}
}

// A tamer turns a program into one that is nearly good; with odd at 1 it leaves most as it is.
type tamer struct {
	r   *rand.Rand
	odd int
	fns []impl.Fn
}

func (m tamer) isOdd() bool { return m.r.Intn(m.odd) == 0 }

func (m tamer) name(pool ...string) string {
	if m.isOdd() {
		return someOf(m.r, []string{"x", "y", "a", "d", "t", "u", "f0", "f1", "f2", "f3"})
	}
	return someOf(m.r, pool)
}

func (m tamer) term(e impl.Expr) impl.Expr {
	switch e.K {
	case impl.XVar:
		e.S = m.name("x", "y", "z", "a", "b")
	case impl.XAt, impl.XIn:
		e.S = m.name("t", "u")
	case impl.XCall:
		f := someOf(m.r, m.fns)
		e.S = m.name(f.Name)
		if !m.isOdd() {
			e.L = e.L[:min(len(e.L), len(f.Params))]
		}
	}
	for i := range e.L {
		e.L[i] = m.term(e.L[i])
	}
	return e
}

// block has an exit where what stood there may not stand.
func (m tamer) block(l []impl.Stmt, wrong ...int) []impl.Stmt {
	for i, x := range l {
		if slices.Contains(wrong, x.K) && !m.isOdd() {
			l[i] = stmt(impl.SExit, "", one())
			continue
		}
		switch x.K {
		case impl.SSet:
			l[i].S = m.name("x", "y", "z", "a", "b")
		case impl.SPut, impl.SDel:
			l[i].S = m.name("t", "u")
		case impl.SFor:
			l[i].S, l[i].T = m.name("x", "y", "z", "a", "b"), m.name("t", "u")
		}
		for j := range x.X {
			x.X[j] = m.term(x.X[j])
		}
		m.block(x.A, wrong...)
		m.block(x.B, wrong...)
	}
	return l
}

func tamed(r *rand.Rand, odd int) impl.Prog {
	p := copyProg(randomProg(r))
	if len(p.Fns) == 0 {
		p.Fns = namedFns(1)
	}
	m := tamer{r, odd, p.Fns}
	for i, f := range p.Fns {
		if m.isOdd() && len(f.Params) > 0 {
			f.Params[0] = m.name("x", "t", "f0")
		}
		m.block(f.A, impl.SNext)
		p.Fns[i] = f
	}
	for i, rule := range p.Rules {
		p.Rules[i].P = m.term(rule.P)
		if rule.K == impl.PBegin || rule.K == impl.PEnd {
			m.block(rule.A, impl.SNext, impl.SReturn)
		} else {
			m.block(rule.A, impl.SReturn)
		}
	}
	return p
}

func TestProgramsOfAllShapesAsTold(t *testing.T) {
	t.Parallel()
	r := rand.New(rand.NewSource(1212))
	counts := map[int]int{}
	for i := range 6000 {
		p := tamed(r, []int{1, 2, 10, 50, 1000, 100000}[i%6])
		check := wantNaming(t, p)
		counts[check]++
		if check == impl.ChGood {
			wantGoodNamesApart(t, p)
		}
	}
	for check, least := range map[int]int{impl.ChGood: 500, impl.ChForm: 10, impl.ChBoth: 500, impl.ChCall: 100, impl.ChPlace: 20} {
		if counts[check] < least {
			t.Errorf("only %d programs are %d", counts[check], check)
		}
	}
}

// A list may hold itself, and be far too great; asking must end all the same.
func TestNamesOfWhatHoldsItself(t *testing.T) {
	start := time.Now()
	var l []impl.Prog
	for _, size := range []int{1, 2, 20, 21, 10000} {
		block := someStmts(size)
		block[size-1] = sWhile(block...)
		for _, k := range ruleKinds() {
			l = append(l, rules(ruleOfKind(k, block...)))
		}
		l = append(l, fns(pFn("f", block...)))
	}
	ring := exprRing(3, every(5))
	deep := deepExpr(1000000, xVar("x"))
	for _, k := range ruleKinds() {
		l = append(l, rules(impl.Rule{K: k, P: ring}), rules(impl.Rule{K: k, P: deep}))
	}
	l = append(l, rules(make([]impl.Rule, 1000000)...), fns(make([]impl.Fn, 1000000)...), fns(impl.Fn{Name: "f", Params: make([]string, 1000000)}), rules(pRule(impl.PEnd, make([]impl.Stmt, 1000000)...)), rules(pRule(impl.PEnd, sPrint(make([]impl.Expr, 1000000)...))), rules(pRule(impl.PEnd, deepStmt(100000, sNext()))))
	for _, p := range l {
		wantNames(t, "no program", p, nil, nil)
		wantCheck(t, "no program", p, impl.ChForm)
	}
	if took := time.Since(start); took > 20*time.Second {
		t.Errorf("it took %v", took)
	}
}

// What has the most of all that a program may have ends soon, too.
func TestNamesOfProgramsThatAreFull(t *testing.T) {
	start := time.Now()
	great, inner := exprOfParts(100, 4), stmtOfCount(59, 58)
	full := slices.Repeat(stmts(sIf(append(stmts(sPrint(slices.Repeat([]impl.Expr{great}, 5)...)), inner.A...), inner.B)), 20)
	p := impl.Prog{}
	for _, f := range namedFns(6) {
		f.Params, f.A = []string{"a", "b", "c", "d"}, full
		p.Fns = append(p.Fns, f)
	}
	for range 10 {
		p.Rules = append(p.Rules, pWhen(great, full...))
	}
	wantNaming(t, p)
	terms := slices.Repeat([]impl.Expr{great}, 5)
	most := slices.Repeat(stmts(sPrint(terms...)), 58)
	most = slices.Repeat(stmts(sIf(most, stmts(sPrint(terms...)))), 20)
	for i := range p.Fns {
		p.Fns[i].A = most
	}
	for i := range p.Rules {
		p.Rules[i].A = most
	}
	if !impl.ProgOk(p) {
		t.Fatal("no program")
	}
	vars, tables := impl.VarsOf(p), impl.TablesOf(p)
	if strings.Join(vars, " ") != "x" || len(tables) > 1 || impl.Check(p) == impl.ChForm {
		t.Errorf("%q, %q, %d", vars, tables, impl.Check(p))
	}
	if took := time.Since(start); took > 40*time.Second {
		t.Errorf("it took %v", took)
	}
}
