package tests

import (
	"slices"
	"strconv"
	"strings"
	"testing"
	"time"

	"loop.example/g00288/impl"
)

// The told ones are for trees that do not hold themselves.
func toldSameExpr(a, b impl.Expr) bool {
	return a.K == b.K && a.N == b.N && a.S == b.S && slices.EqualFunc(a.L, b.L, toldSameExpr)
}

func toldSameStmt(a, b impl.Stmt) bool {
	return a.K == b.K && a.S == b.S && a.T == b.T && slices.EqualFunc(a.X, b.X, toldSameExpr) &&
		slices.EqualFunc(a.A, b.A, toldSameStmt) && slices.EqualFunc(a.B, b.B, toldSameStmt)
}

func toldSameRule(a, b impl.Rule) bool {
	return a.K == b.K && toldSameExpr(a.P, b.P) && slices.EqualFunc(a.A, b.A, toldSameStmt)
}

func toldSameFn(a, b impl.Fn) bool {
	return a.Name == b.Name && slices.Equal(a.Params, b.Params) && slices.EqualFunc(a.A, b.A, toldSameStmt)
}

func toldSameProg(a, b impl.Prog) bool {
	return slices.EqualFunc(a.Rules, b.Rules, toldSameRule) && slices.EqualFunc(a.Fns, b.Fns, toldSameFn)
}

// The copies share no memory with what they are of.
func copyList[T any](l []T, copyOne func(T) T) []T {
	out := make([]T, len(l))
	for i, x := range l {
		out[i] = copyOne(x)
	}
	return out
}

func copyExpr(e impl.Expr) impl.Expr {
	return impl.Expr{K: e.K, N: e.N, S: strings.Clone(e.S), L: copyList(e.L, copyExpr)}
}

func copyStmt(x impl.Stmt) impl.Stmt {
	return impl.Stmt{K: x.K, S: strings.Clone(x.S), T: strings.Clone(x.T), X: copyList(x.X, copyExpr), A: copyList(x.A, copyStmt), B: copyList(x.B, copyStmt)}
}

func copyRule(r impl.Rule) impl.Rule {
	return impl.Rule{K: r.K, P: copyExpr(r.P), A: copyList(r.A, copyStmt)}
}

func copyFn(f impl.Fn) impl.Fn {
	return impl.Fn{Name: strings.Clone(f.Name), Params: copyList(f.Params, strings.Clone), A: copyList(f.A, copyStmt)}
}

func copyProg(p impl.Prog) impl.Prog {
	return impl.Prog{Rules: copyList(p.Rules, copyRule), Fns: copyList(p.Fns, copyFn)}
}

// The others of something are in one field other than it, or than one of its parts; a few of those of a list are the same as it.
func otherNumbers(n int) []int {
	return []int{n + 1, n - 1, -n, n + 256, n + 65536, n + 4294967296, n - 4294967296, ^n}
}

func otherTexts(s string) []string {
	return []string{s + "x", s + "\x00", "x" + s, s + s, strings.ToUpper(s), s[:len(s)/2], s[len(s)/2:], strings.Repeat("a", len(s)), s[:len(s)-len(s)%2] + "\xff"}
}

func otherLists[T any](l []T, one T, others func(T) []T) [][]T {
	reversed := slices.Clone(l)
	slices.Reverse(reversed)
	out := [][]T{reversed, append(slices.Clone(l), one), append([]T{one}, l...), slices.Concat(l, l), l[:len(l)/2], l[len(l)/2:], l[min(1, len(l)):], nil}
	for i := range l {
		for _, other := range append(others(l[i]), one) {
			turned := slices.Clone(l)
			turned[i] = other
			out = append(out, turned)
		}
		if i > 0 {
			swapped := slices.Clone(l)
			swapped[i-1], swapped[i] = l[i], l[i-1]
			out = append(out, swapped)
		}
	}
	return out
}

// withField sets a field of copies of x to each of these.
func withField[T, F any](x T, field func(*T) *F, values []F) []T {
	var out []T
	for _, v := range values {
		turned := x
		*field(&turned) = v
		out = append(out, turned)
	}
	return out
}

func otherExprLists(l []impl.Expr) [][]impl.Expr { return otherLists(l, impl.Expr{}, otherExprs) }

func otherBlocks(l []impl.Stmt) [][]impl.Stmt { return otherLists(l, impl.Stmt{}, otherStmts) }

func otherExprs(e impl.Expr) []impl.Expr {
	return slices.Concat(
		withField(e, func(e *impl.Expr) *int { return &e.K }, otherNumbers(e.K)),
		withField(e, func(e *impl.Expr) *int { return &e.N }, otherNumbers(e.N)),
		withField(e, func(e *impl.Expr) *string { return &e.S }, otherTexts(e.S)),
		withField(e, func(e *impl.Expr) *[]impl.Expr { return &e.L }, otherExprLists(e.L)))
}

func otherStmts(x impl.Stmt) []impl.Stmt {
	return slices.Concat(
		withField(x, func(x *impl.Stmt) *int { return &x.K }, otherNumbers(x.K)),
		withField(x, func(x *impl.Stmt) *string { return &x.S }, otherTexts(x.S)),
		withField(x, func(x *impl.Stmt) *string { return &x.T }, otherTexts(x.T)),
		withField(x, func(x *impl.Stmt) *[]impl.Expr { return &x.X }, otherExprLists(x.X)),
		withField(x, func(x *impl.Stmt) *[]impl.Stmt { return &x.A }, otherBlocks(x.A)),
		withField(x, func(x *impl.Stmt) *[]impl.Stmt { return &x.B }, otherBlocks(x.B)),
		[]impl.Stmt{{K: x.K, S: x.T, T: x.S, X: x.X, A: x.A, B: x.B}, {K: x.K, S: x.S, T: x.T, X: x.X, A: x.B, B: x.A}, {K: x.K, S: x.S, T: x.T, X: x.X, A: slices.Concat(x.A, x.B)}, {K: x.K, S: x.S, T: x.T, X: x.X, B: slices.Concat(x.A, x.B)}})
}

func otherRules(r impl.Rule) []impl.Rule {
	return slices.Concat(
		withField(r, func(r *impl.Rule) *int { return &r.K }, otherNumbers(r.K)),
		withField(r, func(r *impl.Rule) *impl.Expr { return &r.P }, append(otherExprs(r.P), impl.Expr{})),
		withField(r, func(r *impl.Rule) *[]impl.Stmt { return &r.A }, otherBlocks(r.A)))
}

func otherFns(f impl.Fn) []impl.Fn {
	return slices.Concat(
		withField(f, func(f *impl.Fn) *string { return &f.Name }, otherTexts(f.Name)),
		withField(f, func(f *impl.Fn) *[]string { return &f.Params }, otherLists(f.Params, "", otherTexts)),
		withField(f, func(f *impl.Fn) *[]impl.Stmt { return &f.A }, otherBlocks(f.A)))
}

func otherProgs(p impl.Prog) []impl.Prog {
	return slices.Concat(
		withField(p, func(p *impl.Prog) *[]impl.Rule { return &p.Rules }, otherLists(p.Rules, impl.Rule{}, otherRules)),
		withField(p, func(p *impl.Prog) *[]impl.Fn { return &p.Fns }, otherLists(p.Fns, impl.Fn{}, otherFns)))
}

func wantSameExpr(t *testing.T, name string, a, b impl.Expr, want bool) {
	t.Helper()
	if impl.SameExpr(a, b) != want || impl.SameExpr(b, a) != want {
		t.Errorf("%s: SameExpr = %v and %v", name, impl.SameExpr(a, b), impl.SameExpr(b, a))
	}
	x, y := sPrint(xVar("x"), a), sPrint(xVar("x"), b)
	if impl.SameStmt(x, y) != want {
		t.Errorf("%s: SameStmt of both printed = %v", name, !want)
	}
	if impl.SameProg(rules(pWhen(a)), rules(pWhen(b))) != want {
		t.Errorf("%s: SameProg of both in a rule = %v", name, !want)
	}
	if impl.SameExpr(term(impl.XIdx, "", a, a), term(impl.XIdx, "", a, b)) != want {
		t.Errorf("%s: SameExpr beside what is the same = %v", name, !want)
	}
}

func wantSameStmt(t *testing.T, name string, x, y impl.Stmt, want bool) {
	t.Helper()
	if impl.SameStmt(x, y) != want || impl.SameStmt(y, x) != want {
		t.Errorf("%s: SameStmt = %v and %v", name, impl.SameStmt(x, y), impl.SameStmt(y, x))
	}
	if impl.SameStmt(sIf(stmts(x), stmts(x)), sIf(stmts(x), stmts(y))) != want || impl.SameStmt(sIf(stmts(x), stmts(x)), sIf(stmts(y), stmts(x))) != want {
		t.Errorf("%s: SameStmt beside what is the same = %v", name, !want)
	}
	if impl.SameProg(rules(pRule(impl.PEnd, x)), rules(pRule(impl.PEnd, y))) != want || impl.SameProg(fns(pFn("f", x)), fns(pFn("f", y))) != want {
		t.Errorf("%s: SameProg of both = %v", name, !want)
	}
}

func wantSameProg(t *testing.T, name string, p, q impl.Prog, want bool) {
	t.Helper()
	if impl.SameProg(p, q) != want || impl.SameProg(q, p) != want {
		t.Errorf("%s: SameProg = %v and %v", name, impl.SameProg(p, q), impl.SameProg(q, p))
	}
}

func someExprs() []impl.Expr {
	l := append(termsOfAllKinds(), xNot(xNot(xCall("f", xVar("x"), xNot(term(impl.XIdx, "", xInt(7), xText("a b")))))), impl.Expr{K: -1, N: -7, S: "no name", L: []impl.Expr{{}, {K: 99}, xVar("x")}})
	return append(l, xCall("f", xs(9)...), impl.Expr{L: make([]impl.Expr, 3)})
}

func someStatements() []impl.Stmt {
	l := append(statementsOfAllKinds(), impl.Stmt{K: -1, S: "no", T: "name", X: wrongExprs()[:3], A: wrongStmts()[:3], B: wrongStmts()[:4]})
	return append(l, sFor(sNext(), sIf(stmts(sNext(), sPrint(xVar("x"), xNot(xInt(1)))), stmts(sSet("x", xText("")), sWhile(sNext())))))
}

func someProgs() []impl.Prog {
	l := []impl.Prog{
		rules(impl.Rule{}), fns(impl.Fn{}), {Rules: make([]impl.Rule, 12), Fns: make([]impl.Fn, 8)}, fns(pFn("f"), pFn("f")), fns(pFn("f a a print")), fns(pFn("f a b c d e")),
		rules(impl.Rule{K: impl.PBegin, P: xVar("x")}, impl.Rule{K: 9, P: wrongExprs()[3], A: wrongStmts()[:5]}), rules(pWhen(impl.Expr{}), pRule(impl.PEnd, someStmts(21)...)),
		{Rules: []impl.Rule{pWhen(xNot(xNot(xVar("x"))), sFor(sIf(nil, stmts(sPrint(xNot(xInt(1)))))))}, Fns: []impl.Fn{pFn("f a b", sWhile(sIf(stmts(sNext()), stmts(sSet("x", xCall("f", xVar("x"))))))), pFn("g b a")}},
	}
	for _, row := range progRows() {
		l = append(l, row.p)
	}
	return l
}

func TestTermsAreTheSameAsThemselves(t *testing.T) {
	t.Parallel()
	for i, e := range someExprs() {
		name := "the term " + strconv.Itoa(i)
		wantSameExpr(t, name, e, e, true)
		wantSameExpr(t, name, e, copyExpr(e), true)
		for _, other := range otherExprs(e) {
			wantSameExpr(t, name, e, other, toldSameExpr(e, other))
			wantSameExpr(t, name+" copied", copyExpr(e), other, toldSameExpr(e, other))
		}
	}
	wantSameExpr(t, "the zero ones", impl.Expr{}, impl.Expr{}, true)
}

func TestStatementsAreTheSameAsThemselves(t *testing.T) {
	t.Parallel()
	for i, x := range someStatements() {
		name := "the statement " + strconv.Itoa(i)
		wantSameStmt(t, name, x, x, true)
		wantSameStmt(t, name, x, copyStmt(x), true)
		for _, other := range otherStmts(x) {
			wantSameStmt(t, name, x, other, toldSameStmt(x, other))
			wantSameStmt(t, name+" copied", copyStmt(x), other, toldSameStmt(x, other))
		}
	}
	wantSameStmt(t, "the zero ones", impl.Stmt{}, impl.Stmt{}, true)
}

func TestProgramsAreTheSameAsThemselves(t *testing.T) {
	for i, p := range someProgs() {
		name := "the program " + strconv.Itoa(i)
		wantSameProg(t, name, p, p, true)
		wantSameProg(t, name, p, copyProg(p), true)
		for _, other := range otherProgs(p) {
			wantSameProg(t, name, p, other, toldSameProg(p, other))
			wantSameProg(t, name+" copied", copyProg(p), other, toldSameProg(p, other))
		}
	}
	wantSameProg(t, "the zero ones", impl.Prog{}, impl.Prog{}, true)
}

// Of all of these each one is the same as itself alone.
func TestEachTwoThatAreNotOneAreOther(t *testing.T) {
	for _, row := range exprRows() {
		for _, other := range exprRows() {
			wantSameExpr(t, row.text+" and "+other.text, row.e, other.e, row.text == other.text)
		}
	}
	for _, row := range stmtRows() {
		for _, other := range stmtRows() {
			wantSameStmt(t, row.text+" and "+other.text, row.x, other.x, row.text == other.text)
		}
	}
	for _, row := range progRows() {
		for _, other := range progRows() {
			wantSameProg(t, row.text+" and "+other.text, row.p, other.p, row.text == other.text)
		}
	}
	for _, p := range someProgs() {
		for _, q := range someProgs() {
			wantSameProg(t, "two of all", p, q, toldSameProg(p, q))
		}
	}
}

func TestOneFieldThatIsOther(t *testing.T) {
	e := impl.Expr{K: 1, N: 2, S: "s", L: xs(2)}
	for i, other := range []impl.Expr{{K: 2, N: 2, S: "s", L: xs(2)}, {K: 1, N: 3, S: "s", L: xs(2)}, {K: 1, N: 2, S: "t", L: xs(2)}, {K: 1, N: 2, L: xs(2)}, {K: 1, N: 2, S: "s", L: xs(1)}, {K: 1, N: 2, S: "s", L: xs(3)}, {K: 1, N: 2, S: "s"}, {K: 1, N: 2, S: "s", L: []impl.Expr{xVar("x"), xVar("y")}}, {K: 1, N: 2, S: "s", L: []impl.Expr{xVar("y"), xVar("x")}}} {
		wantSameExpr(t, "the term "+strconv.Itoa(i), e, other, false)
	}
	l, m := stmts(sNext()), stmts(sSet("x", xInt(1)))
	x := impl.Stmt{K: 1, S: "s", T: "t", X: xs(1), A: l, B: m}
	for i, other := range []impl.Stmt{{K: 2, S: "s", T: "t", X: xs(1), A: l, B: m}, {K: 1, S: "t", T: "t", X: xs(1), A: l, B: m}, {K: 1, S: "s", T: "s", X: xs(1), A: l, B: m}, {K: 1, S: "t", T: "s", X: xs(1), A: l, B: m}, {K: 1, S: "s", T: "t", X: xs(2), A: l, B: m}, {K: 1, S: "s", T: "t", A: l, B: m}, {K: 1, S: "s", T: "t", X: xs(1), A: m, B: m}, {K: 1, S: "s", T: "t", X: xs(1), A: l, B: l}, {K: 1, S: "s", T: "t", X: xs(1), A: m, B: l}, {K: 1, S: "s", T: "t", X: xs(1), A: slices.Concat(l, m)}, {K: 1, S: "s", T: "t", X: xs(1), B: slices.Concat(l, m)}, {K: 1, S: "s", T: "t", X: xs(1), A: l}, {K: 1, S: "s", T: "t", X: xs(1), B: m}} {
		wantSameStmt(t, "the statement "+strconv.Itoa(i), x, other, false)
	}
	r := impl.Rule{K: 1, P: xVar("x"), A: l}
	for i, other := range []impl.Rule{{K: 2, P: xVar("x"), A: l}, {K: 1, P: xVar("y"), A: l}, {K: 1, A: l}, {K: 1, P: xVar("x"), A: m}, {K: 1, P: xVar("x")}, {K: 1, P: xVar("x"), A: stmts(sNext(), sNext())}} {
		wantSameProg(t, "the rule "+strconv.Itoa(i), rules(r), rules(other), false)
		wantSameProg(t, "the last rule "+strconv.Itoa(i), rules(r, r), rules(r, other), false)
		wantSameProg(t, "the first rule "+strconv.Itoa(i), rules(r, r), rules(other, r), false)
		wantSameProg(t, "the rules in order "+strconv.Itoa(i), rules(r, other), rules(other, r), false)
	}
	f := pFn("f a b", l...)
	for i, other := range []impl.Fn{pFn("g a b", l...), pFn("f b a", l...), pFn("f a", l...), pFn("f a b c", l...), pFn("f a c", l...), pFn("f", l...), pFn("f a b", m...), pFn("f a b"), pFn("f ab", l...), pFn("fa b", l...), pFn("f a b", sNext(), sNext())} {
		wantSameProg(t, "the function "+strconv.Itoa(i), fns(f), fns(other), false)
		wantSameProg(t, "the last function "+strconv.Itoa(i), fns(f, f), fns(f, other), false)
		wantSameProg(t, "the first function "+strconv.Itoa(i), fns(f, f), fns(other, f), false)
		wantSameProg(t, "the functions in order "+strconv.Itoa(i), fns(f, other), fns(other, f), false)
	}
	both := impl.Prog{Rules: []impl.Rule{r}, Fns: []impl.Fn{f}}
	for _, other := range []impl.Prog{{}, rules(r), fns(f), {Rules: []impl.Rule{r, r}, Fns: []impl.Fn{f}}, {Rules: []impl.Rule{r}, Fns: []impl.Fn{f, f}}, {Rules: []impl.Rule{{}}, Fns: []impl.Fn{f}}, {Rules: []impl.Rule{r}, Fns: []impl.Fn{{}}}} {
		wantSameProg(t, "the program", both, other, false)
	}
}

// Lists that are nil and lists without elements are the same, wherever they stand.
func TestListsWithoutElementsAreTheSame(t *testing.T) {
	terms := [][]impl.Expr{nil, {}, make([]impl.Expr, 0, 4), xs(3)[:0]}
	blocks := [][]impl.Stmt{nil, {}, make([]impl.Stmt, 0, 4), someStmts(3)[:0]}
	params := [][]string{nil, {}, make([]string, 0, 4), strings.Fields("a b")[:0]}
	for _, l := range terms {
		for _, m := range terms {
			wantSameExpr(t, "terms", impl.Expr{K: 1, L: l}, impl.Expr{K: 1, L: m}, true)
			wantSameExpr(t, "terms", xNot(impl.Expr{S: "x", L: l}), xNot(impl.Expr{S: "x", L: m}), true)
			wantSameStmt(t, "terms", impl.Stmt{K: 1, X: l}, impl.Stmt{K: 1, X: m}, true)
			wantSameProg(t, "terms", rules(impl.Rule{P: impl.Expr{L: l}}), rules(impl.Rule{P: impl.Expr{L: m}}), true)
		}
		wantSameExpr(t, "terms and one", impl.Expr{L: l}, impl.Expr{L: make([]impl.Expr, 1)}, false)
	}
	for _, l := range blocks {
		for _, m := range blocks {
			wantSameStmt(t, "blocks", impl.Stmt{K: 5, A: l, B: m}, impl.Stmt{K: 5, A: m, B: l}, true)
			wantSameProg(t, "blocks", rules(impl.Rule{A: l}), rules(impl.Rule{A: m}), true)
			wantSameProg(t, "blocks", fns(impl.Fn{A: l}), fns(impl.Fn{A: m}), true)
		}
		wantSameStmt(t, "blocks and one", impl.Stmt{K: 5, A: l}, impl.Stmt{K: 5, A: make([]impl.Stmt, 1)}, false)
		wantSameStmt(t, "blocks and one", impl.Stmt{K: 5, B: l}, impl.Stmt{K: 5, B: make([]impl.Stmt, 1)}, false)
	}
	for _, l := range params {
		for _, m := range params {
			wantSameProg(t, "Params", fns(impl.Fn{Params: l}), fns(impl.Fn{Params: m}), true)
		}
		wantSameProg(t, "Params and one", fns(impl.Fn{Params: l}), fns(impl.Fn{Params: make([]string, 1)}), false)
	}
	for _, l := range [][]impl.Rule{nil, {}, make([]impl.Rule, 0, 4), make([]impl.Rule, 3)[:0]} {
		for _, m := range [][]impl.Fn{nil, {}, make([]impl.Fn, 0, 4), make([]impl.Fn, 3)[:0]} {
			wantSameProg(t, "nothing", impl.Prog{Rules: l, Fns: m}, impl.Prog{}, true)
			wantSameProg(t, "nothing and a rule", impl.Prog{Rules: l, Fns: m}, rules(impl.Rule{}), false)
			wantSameProg(t, "nothing and a function", impl.Prog{Rules: l, Fns: m}, fns(impl.Fn{}), false)
		}
	}
}

// Two lists may lie in one memory, begin at one place, and lie over each other.
func TestListsInOneMemory(t *testing.T) {
	same, other := xs(4), []impl.Expr{xVar("a"), xVar("b"), xVar("a"), xVar("b")}
	for from := range 5 {
		for end := from; end <= 4; end++ {
			for start := range 5 {
				for stop := start; stop <= 4; stop++ {
					wantSameExpr(t, "alike", xCall("f", same[from:end]...), xCall("f", same[start:stop]...), end-from == stop-start)
					want := end == from && stop == start || end-from == stop-start && from%2 == start%2
					wantSameExpr(t, "in turn", xCall("f", other[from:end]...), xCall("f", other[start:stop]...), want)
					x, y := sPrint(other[from:end]...), sPrint(other[start:stop]...)
					wantSameStmt(t, "in turn", sIf(stmts(x, x), stmts(x)), sIf(stmts(x, y), stmts(y)), want)
				}
			}
		}
	}
	long, turned := xs(3), []impl.Expr{xVar("x"), xVar("x"), xVar("y")}
	for _, l := range [][]int{{2, 3}, {3, 2}, {1, 2, 3}, {3, 1}, {3, 3, 2}} {
		x, y := xCall("f"), xCall("f")
		for _, size := range l {
			x.L, y.L = append(x.L, xCall("g", long[:size]...)), append(y.L, xCall("g", turned[:size]...))
		}
		wantSameExpr(t, "from one place", x, y, false)
		wantSameExpr(t, "from one place, and within", xCall("f", x, x.L[0]), xCall("f", x, y.L[0]), len(x.L[0].L) < 3)
	}
	for _, row := range stmtRows() {
		l := stmts(row.x, sNext(), row.x, sNext(), row.x, row.x)
		wantSameStmt(t, row.text, sIf(l[:2], l[2:4]), sIf(l[2:4], l[:2]), true)
		wantSameStmt(t, row.text, sIf(l[:2], l[2:5]), sIf(l[2:4], l[:3]), true)
		wantSameStmt(t, row.text, sIf(l[:2], l[:3]), sIf(l[:3], l[:2]), false)
		wantSameStmt(t, row.text, sIf(l[:2], l[:2]), sIf(l[4:], l[4:]), row.text == "next;")
		wantSameProg(t, row.text, fns(pFn("f", l[:4]...)), fns(pFn("f", l[:5]...)), false)
	}
}

// What is taken as the same at one place is not taken as the same as all else.
func TestWhatIsHeldAgainstSeveral(t *testing.T) {
	a, b, c := xs(1), xs(1), []impl.Expr{xVar("y")}
	for _, row := range []struct {
		one, other []impl.Expr
		want       bool
	}{
		{[]impl.Expr{xNot(a...), xNot(a...)}, []impl.Expr{xNot(a...), xNot(b...)}, true},
		{[]impl.Expr{xNot(a...), xNot(a...)}, []impl.Expr{xNot(b...), xNot(c...)}, false},
		{[]impl.Expr{xNot(a...), xNot(a...)}, []impl.Expr{xNot(c...), xNot(b...)}, false},
		{[]impl.Expr{xNot(a...), xNot(c...)}, []impl.Expr{xNot(c...), xNot(a...)}, false},
		{[]impl.Expr{xNot(a...), xNot(c...)}, []impl.Expr{xNot(b...), xNot(c...)}, true},
		{[]impl.Expr{xNot(a...), xNot(b...), xNot(a...)}, []impl.Expr{xNot(b...), xNot(a...), xNot(c...)}, false},
		{[]impl.Expr{xNot(a...), xNot(b...), xNot(c...)}, []impl.Expr{xNot(b...), xNot(a...), xNot(c...)}, true},
	} {
		wantSameExpr(t, "several", xCall("f", row.one...), xCall("f", row.other...), row.want)
		wantSameStmt(t, "several", sPrint(row.one...), sPrint(row.other...), row.want)
		l, m := stmts(sPrint(row.one...)), stmts(sPrint(row.other...))
		wantSameStmt(t, "several in A and in B", sIf(l, m), sIf(m, l), row.want)
		wantSameProg(t, "several in rules", rules(pRule(1, l...), pRule(1, m...), pWhen(row.one[0])), rules(pRule(1, m...), pRule(1, l...), pWhen(row.one[0])), row.want)
	}
}

// exprRing holds itself by way of so many lists of one; the part ahead of each step from list to list is numbered where number says so.
func exprRing(size int, number func(int) int) impl.Expr {
	lists := make([][]impl.Expr, size)
	for i := range lists {
		lists[i] = make([]impl.Expr, 1)
	}
	for i := range lists {
		lists[i][0] = impl.Expr{K: impl.XNot, N: number(i), L: lists[(i+1)%size]}
	}
	return impl.Expr{K: impl.XNot, N: number(size - 1), L: lists[0]}
}

func stmtRing(size int, number func(int) int) impl.Stmt {
	lists := make([][]impl.Stmt, size)
	for i := range lists {
		lists[i] = make([]impl.Stmt, 2)
	}
	ring := func(i int) impl.Stmt { return impl.Stmt{K: number(i), A: lists[(i+1)%size], B: lists[i]} }
	for i := range lists {
		lists[i][0], lists[i][1] = ring(i), ring(i)
	}
	return ring(size - 1)
}

func every(count int) func(int) int {
	return func(i int) int {
		if (i+1)%count == 0 {
			return 1
		}
		return 0
	}
}

// What holds itself never ends; two of these are the same, if no way into both comes to what is other.
func TestTreesThatHoldThemselvesAreTheSame(t *testing.T) {
	start := time.Now()
	never := func(int) int { return 0 }
	for size := 1; size <= 9; size++ {
		for other := 1; other <= 9; other++ {
			wantSameExpr(t, "rings", exprRing(size, never), exprRing(other, never), true)
			wantSameExpr(t, "marked rings", exprRing(size, every(size)), exprRing(other, every(other)), size == other)
			wantSameExpr(t, "a marked ring", exprRing(size, never), exprRing(other, every(other)), false)
			wantSameExpr(t, "a ring often", exprRing(size, every(size)), exprRing(size*other, every(size)), true)
			wantSameStmt(t, "a statement's ring", stmtRing(size, never), stmtRing(other, never), true)
			wantSameStmt(t, "a statement's marked ring", stmtRing(size, every(size)), stmtRing(other, every(other)), size == other)
			wantSameStmt(t, "a statement's ring often", stmtRing(size, every(size)), stmtRing(size*other, every(size)), true)
		}
		ring := exprRing(size, every(size))
		wantSameExpr(t, "a ring and itself", ring, ring, true)
		wantSameExpr(t, "a ring and what ends", ring, xNot(xNot(xVar("x"))), false)
		wantSameStmt(t, "a ring in a statement", sPrint(ring, xVar("x")), sPrint(exprRing(size*2, every(size)), xVar("x")), true)
		wantSameStmt(t, "a ring in a statement", sPrint(ring, xVar("x")), sPrint(exprRing(size*2, every(size)), xVar("y")), false)
	}
	everywhere := func(size int) impl.Stmt {
		l := make([]impl.Stmt, size)
		for i := range l {
			l[i] = impl.Stmt{K: impl.SIf, A: l, B: l[:i+1]}
		}
		return l[size-1]
	}
	wantSameStmt(t, "what holds itself everywhere", everywhere(300), everywhere(300), true)
	wantSameStmt(t, "what holds itself everywhere", everywhere(300), everywhere(299), false)
	wantSameExpr(t, "great rings", exprRing(100003, never), exprRing(99991, never), true)
	wantSameExpr(t, "great rings", exprRing(100003, every(100003)), exprRing(99991, every(99991)), false)
	if took := time.Since(start); took > 20*time.Second {
		t.Errorf("it took %v", took)
	}
}

// folded is far too great to be gone through part by part: both its parts are one list, at each depth.
func folded(depth int, leaf impl.Expr) impl.Expr {
	for range depth {
		leaf = term(impl.XBin, "+", xNot(leaf), xNot(leaf))
	}
	return leaf
}

func foldedStmt(depth int, leaf impl.Stmt) impl.Stmt {
	for range depth {
		l := stmts(leaf, leaf)
		leaf = sIf(l, l)
	}
	return leaf
}

func TestTreesThatAreMuchInLittleMemory(t *testing.T) {
	start := time.Now()
	for _, depth := range []int{1, 2, 10, 64, 1000} {
		x, y := xVar("x"), xVar("y")
		shared := func(leaf impl.Expr) impl.Expr {
			l := []impl.Expr{leaf, leaf}
			for range depth {
				e := term(impl.XBin, "+", l...)
				l = []impl.Expr{e, e}
			}
			return l[1]
		}
		wantSameExpr(t, "much", shared(x), shared(x), true)
		wantSameExpr(t, "much", shared(x), shared(y), false)
		wantSameStmt(t, "much", foldedStmt(depth, sPrint(x)), foldedStmt(depth, sPrint(x)), true)
		wantSameStmt(t, "much", foldedStmt(depth, sPrint(x)), foldedStmt(depth, sPrint(y)), false)
		wantSameStmt(t, "much", foldedStmt(depth, sNext()), foldedStmt(depth+1, sNext()), false)
		if depth <= 10 {
			wantSameExpr(t, "many", folded(depth, x), folded(depth, x), true)
			wantSameExpr(t, "many", folded(depth, x), folded(depth, y), false)
			wantSameExpr(t, "many", folded(depth, shared(x)), folded(depth, shared(x)), true)
		}
	}
	windows := func(size int) impl.Expr {
		l := make([]impl.Expr, size)
		for i := range l {
			l[i] = impl.Expr{K: impl.XCall, L: l[:i]}
		}
		return impl.Expr{K: impl.XCall, L: l}
	}
	wantSameExpr(t, "windows", windows(500), windows(500), true)
	wantSameExpr(t, "windows", windows(500), windows(499), false)
	if took := time.Since(start); took > 20*time.Second {
		t.Errorf("it took %v", took)
	}
}

func deepExpr(depth int, leaf impl.Expr) impl.Expr {
	for range depth {
		leaf = xNot(leaf)
	}
	return leaf
}

func deepStmt(depth int, leaf impl.Stmt) impl.Stmt {
	for i := range depth {
		if i%2 == 0 {
			leaf = impl.Stmt{K: impl.SIf, A: stmts(leaf)}
		} else {
			leaf = impl.Stmt{K: impl.SIf, B: stmts(sNext(), leaf)}
		}
	}
	return leaf
}

// Deeper than a call within a call within a call could go.
func TestTreesThatAreDeep(t *testing.T) {
	start := time.Now()
	for _, depth := range []int{11, 100, 50000} {
		e, x := deepExpr(depth, xVar("x")), deepStmt(depth, sNext())
		wantSameExpr(t, "deep", e, deepExpr(depth, xVar("x")), true)
		wantSameExpr(t, "deep", e, deepExpr(depth, xVar("y")), false)
		wantSameExpr(t, "deep", e, deepExpr(depth+1, xVar("x")), false)
		wantSameStmt(t, "deep", x, deepStmt(depth, sNext()), true)
		wantSameStmt(t, "deep", x, deepStmt(depth, sPrint()), false)
		wantSameStmt(t, "deep", x, deepStmt(depth+2, sNext()), false)
	}
	e, same, other := deepExpr(2000000, xVar("x")), deepExpr(2000000, xVar("x")), deepExpr(2000000, xVar("y"))
	if !impl.SameExpr(e, e) || !impl.SameExpr(e, same) || impl.SameExpr(e, other) {
		t.Error("two million deep")
	}
	if took := time.Since(start); took > 40*time.Second {
		t.Errorf("it took %v", took)
	}
}

func TestTreesThatAreWide(t *testing.T) {
	start := time.Now()
	for _, count := range []int{5, 21, 61, 101, 300000} {
		e, x := xCall("f", xs(count)...), sIf(someStmts(count), someStmts(count))
		last, lastStmt := copyExpr(e), copyStmt(x)
		last.L[count-1].S, lastStmt.B[count-1].K = "y", 0
		wantSameExpr(t, "wide", e, copyExpr(e), true)
		wantSameExpr(t, "wide", e, last, false)
		wantSameExpr(t, "wide", e, xCall("f", xs(count+1)...), false)
		wantSameStmt(t, "wide", x, copyStmt(x), true)
		wantSameStmt(t, "wide", x, lastStmt, false)
		wantSameStmt(t, "wide", x, sIf(someStmts(count), someStmts(count-1)), false)
		r, f := rules(slices.Repeat([]impl.Rule{pWhen(e)}, count)...), fns(slices.Repeat([]impl.Fn{pFn("f", x)}, count)...)
		otherRule, otherFn := rules(slices.Clone(r.Rules)...), fns(slices.Clone(f.Fns)...)
		otherRule.Rules[count-1].P, otherFn.Fns[count-1].A = last, stmts(lastStmt)
		wantSameProg(t, "wide", r, rules(slices.Repeat([]impl.Rule{pWhen(copyExpr(e))}, count)...), true)
		wantSameProg(t, "wide", r, otherRule, false)
		wantSameProg(t, "wide", f, fns(slices.Repeat([]impl.Fn{pFn("f", copyStmt(x))}, count)...), true)
		wantSameProg(t, "wide", f, otherFn, false)
		wantSameProg(t, "wide", r, rules(r.Rules[:count-1]...), false)
	}
	if took := time.Since(start); took > 40*time.Second {
		t.Errorf("it took %v", took)
	}
}

// What is one list here may be many lists there.
func TestOneListThatIsTheSameAsMany(t *testing.T) {
	start := time.Now()
	one := xCall("f", slices.Repeat([]impl.Expr{xNot(xs(1)...)}, 50000)...)
	oneBlock := sFor(slices.Repeat(stmts(sWhile(sNext())), 50000)...)
	last, lastStmt := copyExpr(one), copyStmt(oneBlock)
	last.L[0].L[0].S, lastStmt.A[0].A[0].K = "y", 0
	wantSameExpr(t, "one and many", one, copyExpr(one), true)
	wantSameExpr(t, "one and many", one, last, false)
	wantSameStmt(t, "one and many", oneBlock, copyStmt(oneBlock), true)
	wantSameStmt(t, "one and many", oneBlock, lastStmt, false)
	if took := time.Since(start); took > 40*time.Second {
		t.Errorf("it took %v", took)
	}
}

// Many statements, and many rules, may have one list of terms.
func TestTermsThatManyHaveAreTheSame(t *testing.T) {
	start := time.Now()
	many := func(leaf impl.Expr) impl.Prog {
		l := []impl.Expr{deepExpr(10000, leaf)}
		p := rules(slices.Repeat([]impl.Rule{pWhen(xNot(l...), slices.Repeat(stmts(sPrint(l...)), 1000)...)}, 100)...)
		for i := range p.Rules {
			p.Rules[i].A = slices.Clone(p.Rules[i].A)
		}
		return p
	}
	wantSameProg(t, "many", many(xVar("x")), many(xVar("x")), true)
	wantSameProg(t, "many", many(xVar("x")), many(xVar("y")), false)
	if took := time.Since(start); took > 20*time.Second {
		t.Errorf("it took %v", took)
	}
}
