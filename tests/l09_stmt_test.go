package tests

import (
	"math"
	"slices"
	"strconv"
	"strings"
	"testing"
	"time"

	"loop.example/g00288/impl"
)

func stmts(l ...impl.Stmt) []impl.Stmt { return l }

func sPrint(l ...impl.Expr) impl.Stmt { return impl.Stmt{K: impl.SPrint, X: l} }

func sNext() impl.Stmt { return impl.Stmt{K: impl.SNext} }

func sCall(e impl.Expr) impl.Stmt { return impl.Stmt{K: impl.SCall, X: []impl.Expr{e}} }

func sSet(s string, e impl.Expr) impl.Stmt {
	return impl.Stmt{K: impl.SSet, S: s, X: []impl.Expr{e}}
}

func sIf(a, b []impl.Stmt) impl.Stmt {
	return impl.Stmt{K: impl.SIf, X: xs(1), A: a, B: b}
}

func sWhile(a ...impl.Stmt) impl.Stmt { return impl.Stmt{K: impl.SWhile, X: xs(1), A: a} }

func sFor(a ...impl.Stmt) impl.Stmt {
	return impl.Stmt{K: impl.SFor, S: "x", T: "t", A: a}
}

func stmt(k int, s string, l ...impl.Expr) impl.Stmt { return impl.Stmt{K: k, S: s, X: l} }

// A stmtKind is what the chapter says of a kind: which fields it names, how many terms it has, and its text: %S and %T are those, %1 and %2 the terms, %* all of them, %A is the block, %E the other one, if it is not empty.
type stmtKind struct {
	k, least, most int
	named          string
	form           string
}

func stmtKinds() []stmtKind {
	return []stmtKind{
		{impl.SPrint, 1, 5, "", "print %*;"},
		{impl.SSet, 1, 1, "S", "%S = %1;"},
		{impl.SPut, 2, 2, "S", "%S[%1] = %2;"},
		{impl.SField, 2, 2, "", "$%1 = %2;"},
		{impl.SIf, 1, 1, "AB", "if (%1) %A%E"},
		{impl.SWhile, 1, 1, "A", "while (%1) %A"},
		{impl.SFor, 0, 0, "STA", "for (%S in %T) %A"},
		{impl.SNext, 0, 0, "", "next;"},
		{impl.SExit, 1, 1, "", "exit %1;"},
		{impl.SReturn, 1, 1, "", "return %1;"},
		{impl.SDel, 1, 1, "S", "delete %S[%1];"},
		{impl.SCall, 1, 1, "", "%1;"},
	}
}

func (z stmtKind) names(field string) bool { return strings.Contains(z.named, field) }

// of is one of the kind with so many terms, and with nothing that it does not name.
func (z stmtKind) of(count int) impl.Stmt {
	x := impl.Stmt{K: z.k, X: xs(count)}
	if z.k == impl.SCall {
		x.X = slices.Repeat([]impl.Expr{xCall("f", xs(2)...)}, count)
	}
	if z.names("S") {
		x.S = "v"
	}
	if z.names("T") {
		x.T = "t"
	}
	return x
}

// holding are those of the kind that have this block within, as A and as B, as far as it names these.
func (z stmtKind) holding(l ...impl.Stmt) []impl.Stmt {
	var out []impl.Stmt
	if z.names("A") {
		x := z.of(z.least)
		x.A = l
		out = append(out, x)
	}
	if z.names("B") {
		x := z.of(z.least)
		x.B = l
		out = append(out, x)
	}
	return out
}

func kindsWithBlocks() []stmtKind {
	return slices.DeleteFunc(stmtKinds(), func(z stmtKind) bool { return !z.names("A") })
}

func toldNamed(z stmtKind, field, s string) bool {
	if z.names(field) {
		return toldNameOk(s)
	}
	return s == ""
}

func toldStmtNodeOk(x impl.Stmt) bool {
	for _, z := range stmtKinds() {
		if x.K == z.k {
			return toldNamed(z, "S", x.S) && toldNamed(z, "T", x.T) &&
				len(x.X) >= z.least && len(x.X) <= z.most &&
				!slices.ContainsFunc(x.X, func(e impl.Expr) bool { return !toldExprOk(e) || x.K == impl.SCall && e.K != impl.XCall }) &&
				(z.names("A") || len(x.A) == 0) && (z.names("B") || len(x.B) == 0)
		}
	}
	return false
}

func toldStmtDepth(x impl.Stmt) int {
	depth := 0
	for _, l := range [][]impl.Stmt{x.A, x.B} {
		for _, within := range l {
			depth = max(depth, toldStmtDepth(within))
		}
	}
	return depth + 1
}

func toldStmtCount(x impl.Stmt) int {
	count := 1
	for _, l := range [][]impl.Stmt{x.A, x.B} {
		for _, within := range l {
			count += toldStmtCount(within)
		}
	}
	return count
}

func toldAllStmtsOk(x impl.Stmt) bool {
	wrong := func(within impl.Stmt) bool { return !toldAllStmtsOk(within) }
	return toldStmtNodeOk(x) && !slices.ContainsFunc(x.A, wrong) && !slices.ContainsFunc(x.B, wrong)
}

// toldStmtOk is for statements that do not hold themselves.
func toldStmtOk(x impl.Stmt) bool {
	return toldStmtDepth(x) <= 5 && toldStmtCount(x) <= 60 && toldAllStmtsOk(x)
}

func toldBlockText(l []impl.Stmt) string {
	s := "{ "
	for _, x := range l {
		s += toldStmtText(x) + " "
	}
	return s + "}"
}

// toldStmtText is the text of what is right, by the forms that stand above.
func toldStmtText(x impl.Stmt) string {
	var texts []string
	for _, e := range x.X {
		texts = append(texts, toldExprText(e))
	}
	other := ""
	if len(x.B) > 0 {
		other = " else " + toldBlockText(x.B)
	}
	pairs := []string{"%S", x.S, "%T", x.T, "%*", strings.Join(texts, ", "), "%A", toldBlockText(x.A), "%E", other}
	for i, s := range texts {
		pairs = append(pairs, "%"+strconv.Itoa(i+1), s)
	}
	return strings.NewReplacer(pairs...).Replace(stmtKinds()[x.K-1].form)
}

func wantStmt(t *testing.T, x impl.Stmt, want string) {
	t.Helper()
	if !impl.StmtOk(x) {
		t.Errorf("StmtOk of %s = false", shortened(want))
	}
	if got := impl.StmtText(x); got != want {
		t.Errorf("StmtText = %q, want %q", shortened(got), shortened(want))
	}
	if got := impl.BlockText(stmts(x)); got != "{ "+want+" }" {
		t.Errorf("BlockText = %q, want { %s }", shortened(got), shortened(want))
	}
}

func wantNoStmt(t *testing.T, name string, x impl.Stmt) {
	t.Helper()
	if impl.StmtOk(x) {
		t.Errorf("%s: StmtOk of the kind %d is true", name, x.K)
	}
	if got := impl.StmtText(x); got != "" {
		t.Errorf("%s: StmtText of the kind %d is %q", name, x.K, shortened(got))
	}
	if got := impl.BlockText(stmts(x)); got != "{  }" {
		t.Errorf("%s: BlockText of the kind %d is %q", name, x.K, shortened(got))
	}
}

func wantStmtAsTold(t *testing.T, name string, x impl.Stmt) {
	t.Helper()
	if toldStmtOk(x) {
		wantStmt(t, x, toldStmtText(x))
	} else {
		wantNoStmt(t, name, x)
	}
}

func TestTheKindsOfStatements(t *testing.T) {
	for i, k := range []int{impl.SPrint, impl.SSet, impl.SPut, impl.SField, impl.SIf, impl.SWhile, impl.SFor, impl.SNext, impl.SExit, impl.SReturn, impl.SDel, impl.SCall} {
		if k != i+1 || stmtKinds()[i].k != k {
			t.Errorf("the kind %d is %d", i+1, k)
		}
	}
}

// stmtRow is a statement and its text, both written out by hand.
type stmtRow struct {
	text string
	x    impl.Stmt
}

func stmtRows() []stmtRow {
	x, y, one := xVar("x"), xVar("y"), xInt(1)
	sum, field := term(impl.XBin, "+", x, one), term(impl.XField, "", one)
	return []stmtRow{
		{"print x;", sPrint(x)}, {"print 'a, b';", sPrint(xText("a, b"))}, {"print x, y;", sPrint(x, y)}, {"print x, 1, (x + 1);", sPrint(x, one, sum)}, {"print 1, 2, 3, 4;", sPrint(one, xInt(2), xInt(3), xInt(4))}, {"print nr, nf, '', f(x, y), $1;", sPrint(impl.Expr{K: impl.XNr}, impl.Expr{K: impl.XNf}, xText(""), xCall("f", x, y), field)},
		{"x = 1;", sSet("x", one)}, {"x = x;", sSet("x", x)}, {"prints = (x == y);", sSet("prints", term(impl.XBin, "==", x, y))}, {"a1234567 = -1;", sSet("a1234567", term(impl.XNeg, "", one))}, {"x = t[y];", sSet("x", term(impl.XAt, "t", y))}, {"x = f();", sSet("x", xCall("f"))},
		{"t[x] = y;", stmt(impl.SPut, "t", x, y)}, {"t[1] = (x + 1);", stmt(impl.SPut, "t", one, sum)}, {"t[t[x]] = t[y];", stmt(impl.SPut, "t", term(impl.XAt, "t", x), term(impl.XAt, "t", y))}, {"t['a] = b'] = '';", stmt(impl.SPut, "t", xText("a] = b"), xText(""))},
		{"$1 = x;", stmt(impl.SField, "", one, x)}, {"$$1 = $1;", stmt(impl.SField, "", field, field)}, {"$nf = nf;", stmt(impl.SField, "", impl.Expr{K: impl.XNf}, impl.Expr{K: impl.XNf})}, {"$(x + 1) = (x + 1);", stmt(impl.SField, "", sum, sum)}, {"$-1 = 0;", stmt(impl.SField, "", term(impl.XNeg, "", one), xInt(0))},
		{"if (x) { }", sIf(nil, nil)}, {"if (x) { next; }", sIf(stmts(sNext()), nil)}, {"if (x) { } else { next; }", sIf(nil, stmts(sNext()))}, {"if (x) { print x; } else { next; x = 1; }", sIf(stmts(sPrint(x)), stmts(sNext(), sSet("x", one)))}, {"if ((x + 1)) { x = 1; next; }", impl.Stmt{K: impl.SIf, X: []impl.Expr{sum}, A: stmts(sSet("x", one), sNext())}}, {"if (x) { if (x) { } } else { if (x) { } else { next; } }", sIf(stmts(sIf(nil, nil)), stmts(sIf(nil, stmts(sNext()))))}, {"if (x) { if (x) { } else { next; } }", sIf(stmts(sIf(nil, stmts(sNext()))), nil)}, {"if (x) { if (x) { } } else { next; }", sIf(stmts(sIf(nil, nil)), stmts(sNext()))},
		{"while (x) { }", sWhile()}, {"while (x) { next; }", sWhile(sNext())}, {"while ((x < 1)) { print x; x = 1; }", impl.Stmt{K: impl.SWhile, X: []impl.Expr{term(impl.XBin, "<", x, one)}, A: stmts(sPrint(x), sSet("x", one))}}, {"while (x) { while (x) { } while (x) { } }", sWhile(sWhile(), sWhile())},
		{"for (x in t) { }", sFor()}, {"for (x in t) { print x, y; }", sFor(sPrint(x, y))}, {"for (x in t) { next; next; }", sFor(sNext(), sNext())}, {"for (t in t) { }", impl.Stmt{K: impl.SFor, S: "t", T: "t"}}, {"for (ins in nrs) { for (x in t) { } }", impl.Stmt{K: impl.SFor, S: "ins", T: "nrs", A: stmts(sFor())}},
		{"next;", sNext()},
		{"exit x;", stmt(impl.SExit, "", x)}, {"exit 0;", stmt(impl.SExit, "", xInt(0))}, {"exit (x + 1);", stmt(impl.SExit, "", sum)},
		{"return x;", stmt(impl.SReturn, "", x)}, {"return '';", stmt(impl.SReturn, "", xText(""))}, {"return f(1);", stmt(impl.SReturn, "", xCall("f", one))},
		{"delete t[x];", stmt(impl.SDel, "t", x)}, {"delete deletes[t[1]];", stmt(impl.SDel, "deletes", term(impl.XAt, "t", one))}, {"delete t[(x + 1)];", stmt(impl.SDel, "t", sum)},
		{"f();", sCall(xCall("f"))}, {"f(x);", sCall(xCall("f", x))}, {"f(x, y, 1, g());", sCall(xCall("f", x, y, one, xCall("g")))},
	}
}

func TestStatementsAndTheirTexts(t *testing.T) {
	for _, row := range stmtRows() {
		wantStmt(t, row.x, row.text)
		wantStmtAsTold(t, row.text, row.x)
	}
}

// Each two of the rows have another text, so no two statements have the same.
func TestNoTwoStatementsHaveOneText(t *testing.T) {
	seen := map[string]int{}
	for i, row := range stmtRows() {
		if other, ok := seen[row.text]; ok {
			t.Errorf("the rows %d and %d have the text %q", other, i, row.text)
		}
		seen[row.text] = i
	}
}

func TestEachKindOfStatementWithWhatItDoesNotName(t *testing.T) {
	for _, z := range stmtKinds() {
		for count := z.least; count <= z.most; count++ {
			right := z.of(count)
			wantStmt(t, right, toldStmtText(right))
			for _, s := range []string{"x", "t", "print", "0", " ", "a b", "\x00", "\xff", "ninelette"} {
				if !z.names("S") {
					wrong := right
					wrong.S = s
					wantNoStmt(t, "a S", wrong)
				}
				if !z.names("T") {
					wrong := right
					wrong.T = s
					wantNoStmt(t, "a T", wrong)
				}
			}
			for _, l := range [][]impl.Stmt{stmts(sNext()), stmts(sPrint(xVar("x")), sNext()), make([]impl.Stmt, 1)} {
				if !z.names("A") {
					wrong := right
					wrong.A = l
					wantNoStmt(t, "an A", wrong)
				}
				if !z.names("B") {
					wrong := right
					wrong.B = l
					wantNoStmt(t, "a B", wrong)
				}
			}
		}
	}
}

func TestHowManyTermsAStatementHas(t *testing.T) {
	for _, z := range stmtKinds() {
		for count := range 12 {
			x := z.of(count)
			if count < z.least || count > z.most {
				wantNoStmt(t, strconv.Itoa(count)+" terms", x)
				wantNoStmt(t, strconv.Itoa(count)+" terms within", sWhile(x))
			} else {
				wantStmt(t, x, toldStmtText(x))
			}
		}
		wantNoStmt(t, "100000 terms", z.of(100000))
	}
}

func TestKindsOfStatementsThatAreNone(t *testing.T) {
	for _, k := range []int{0, -1, -2, -12, 13, 14, 15, 24, 100, 255, 256, 257, 268, 65537, 4294967296, 4294967297, 4294967308, math.MaxInt, math.MinInt} {
		for _, z := range stmtKinds() {
			for count := range 6 {
				x := z.of(count)
				x.K = k
				wantNoStmt(t, "no kind", x)
			}
		}
		wantNoStmt(t, "no kind", impl.Stmt{K: k})
		wantNoStmt(t, "no kind within", sWhile(impl.Stmt{K: k}))
		wantNoStmt(t, "no kind with a block", impl.Stmt{K: k, X: xs(1), A: stmts(sNext()), B: stmts(sNext())})
	}
	wantNoStmt(t, "the zero one", impl.Stmt{})
}

func TestNamesOfStatements(t *testing.T) {
	wrong := append(noNames(), "", "A", "X", "aB", "Ab", "1", "1a", "_", "a_b", " x", "x ", "x\n", "x[", "t]", "\x00", "\x7f", "\x80", "\xff", "é", "ninelette", "a12345678", strings.Repeat("a", 1000000), "'x'", "$x", "+", "x = 1", "f()")
	right := []string{"a", "z", "x1", "abcdefgh", "a1234567", "prints", "nrs", "i", "n", "ends", "fo", "ins", "in1"}
	for _, z := range stmtKinds() {
		for _, s := range append(right, wrong...) {
			name := "the name " + shortened(s)
			if z.names("S") {
				x := z.of(z.least)
				x.S = s
				wantNamed(t, name, x, slices.Contains(right, s))
			}
			if z.names("T") {
				x := z.of(z.least)
				x.T = s
				wantNamed(t, name, x, slices.Contains(right, s))
			}
		}
	}
	for _, s := range append(right, wrong...) {
		for _, u := range append(right, wrong...) {
			x := impl.Stmt{K: impl.SFor, S: s, T: u}
			if slices.Contains(right, s) && slices.Contains(right, u) {
				wantStmt(t, x, "for ("+s+" in "+u+") { }")
			} else {
				wantNoStmt(t, "two names", x)
			}
		}
	}
}

func wantNamed(t *testing.T, name string, x impl.Stmt, right bool) {
	t.Helper()
	if right {
		wantStmt(t, x, toldStmtText(x))
		wantStmt(t, sFor(x), "for (x in t) { "+toldStmtText(x)+" }")
	} else {
		wantNoStmt(t, name, x)
		wantNoStmt(t, name+" within", sFor(x))
	}
}

func TestWhatIsPrinted(t *testing.T) {
	wantNoStmt(t, "nothing", sPrint())
	wantStmt(t, sPrint(xs(1)...), "print x;")
	wantStmt(t, sPrint(xs(2)...), "print x, x;")
	wantStmt(t, sPrint(xs(3)...), "print x, x, x;")
	wantStmt(t, sPrint(xs(4)...), "print x, x, x, x;")
	wantStmt(t, sPrint(xs(5)...), "print x, x, x, x, x;")
	for _, count := range []int{6, 7, 8, 20, 60, 100, 1000000} {
		wantNoStmt(t, "too many", sPrint(xs(count)...))
	}
}

// Each term stands in each place, and what is wrong counts wherever it stands.
func TestTermsOfStatements(t *testing.T) {
	for _, z := range stmtKinds() {
		for count := max(z.least, 1); count <= z.most; count++ {
			for at := range count {
				for _, row := range exprRows() {
					x := z.of(count)
					x.X[at] = row.e
					if z.k == impl.SCall && row.e.K != impl.XCall {
						wantNoStmt(t, "a call of the kind "+strconv.Itoa(row.e.K), x)
					} else {
						wantStmt(t, x, toldStmtText(x))
					}
				}
				for i, e := range wrongExprs() {
					x := z.of(count)
					x.X[at] = e
					wantNoStmt(t, "the wrong term "+strconv.Itoa(i), x)
					x.X[at] = xCall("f", e)
					wantNoStmt(t, "the wrong term within "+strconv.Itoa(i), x)
				}
			}
		}
	}
}

func TestHowDeepAndHowGreatTheTermsOfAStatementAre(t *testing.T) {
	deep := xVar("x")
	for range 9 {
		deep = xNot(deep)
	}
	great := exprOfParts(100, 4)
	wantStmt(t, sPrint(deep, great, deep, great, great), "print "+strings.Join([]string{toldExprText(deep), toldExprText(great), toldExprText(deep), toldExprText(great), toldExprText(great)}, ", ")+";")
	wantNoStmt(t, "a term too deep", sPrint(deep, xNot(deep)))
	wantNoStmt(t, "a term too great", sPrint(great, exprOfParts(101, 4)))
	wantStmt(t, sCall(exprOfParts(100, 4)), toldExprText(great)+";")
	wantNoStmt(t, "a call too great", sCall(exprOfParts(101, 4)))
}

func TestCallsOfStatements(t *testing.T) {
	for _, z := range exprKinds() {
		for count := z.least; count <= z.most; count++ {
			e := z.of(xs(count)...)
			if z.k == impl.XCall {
				wantStmt(t, sCall(e), toldExprText(e)+";")
			} else {
				wantNoStmt(t, "no call", sCall(e))
				wantStmt(t, sCall(xCall("f", e)), "f("+toldExprText(e)+");")
			}
		}
	}
	wantNoStmt(t, "no call, but one within", sCall(xNot(xCall("f"))))
	wantNoStmt(t, "a call of five", sCall(xCall("f", xs(5)...)))
	wantNoStmt(t, "a call of a word", sCall(xCall("print", xs(1)...)))
	wantNoStmt(t, "two calls", stmt(impl.SCall, "", xCall("f"), xCall("g")))
}

func TestTheBlocksOfAnIf(t *testing.T) {
	one, two := stmts(sNext()), stmts(sPrint(xVar("y")), sNext())
	for _, empty := range [][]impl.Stmt{nil, {}, make([]impl.Stmt, 0, 4), slices.Repeat(one, 3)[:0]} {
		wantStmt(t, sIf(empty, empty), "if (x) { }")
		wantStmt(t, sIf(one, empty), "if (x) { next; }")
		wantStmt(t, sIf(two, empty), "if (x) { print y; next; }")
		wantStmt(t, sIf(empty, one), "if (x) { } else { next; }")
		wantStmt(t, sIf(empty, two), "if (x) { } else { print y; next; }")
	}
	wantStmt(t, sIf(one, two), "if (x) { next; } else { print y; next; }")
	wantStmt(t, sIf(two, one), "if (x) { print y; next; } else { next; }")
}

// Lists that are nil and lists without elements are the same.
func TestStatementsWithListsWithoutElements(t *testing.T) {
	for _, z := range stmtKinds() {
		for _, terms := range [][]impl.Expr{nil, {}, make([]impl.Expr, 0, 4), xs(3)[:0]} {
			for _, l := range [][]impl.Stmt{nil, {}, make([]impl.Stmt, 0, 4), stmts(sNext(), sNext())[:0]} {
				x := z.of(z.least)
				x.A, x.B = l, l
				if z.least == 0 {
					x.X = terms
				}
				wantStmt(t, x, toldStmtText(z.of(z.least)))
				x.X = terms
				if z.least > 0 {
					wantNoStmt(t, "no terms", x)
				}
			}
		}
	}
}

func TestHowDeepAStatementMayBe(t *testing.T) {
	for _, leaf := range stmtKinds() {
		for _, z := range kindsWithBlocks() {
			for side := range z.holding() {
				x := leaf.of(leaf.least)
				for depth := 1; depth <= 9; depth++ {
					wantStmtAsTold(t, "deep", x)
					if got := impl.StmtOk(x); got != (depth <= 5) {
						t.Errorf("%d deep by the kind %d, block %d: %v", depth, z.k, side, got)
					}
					x = z.holding(x)[side]
				}
			}
		}
	}
	five, six := sNext(), sWhile(sNext())
	for range 4 {
		five, six = sWhile(five), sWhile(six)
	}
	wantStmt(t, five, "while (x) { while (x) { while (x) { while (x) { next; } } } }")
	wantNoStmt(t, "six deep", six)
	wantStmt(t, sIf(five.A, five.A), "if (x) { while (x) { while (x) { while (x) { next; } } } } else { while (x) { while (x) { while (x) { next; } } } }")
	wantNoStmt(t, "six deep as the last of a B", sIf(stmts(sNext()), stmts(sNext(), five)))
	wantNoStmt(t, "six deep as the last of an A", sIf(stmts(sNext(), five), stmts(sNext())))
	alternating := sNext()
	for i := range 4 {
		alternating = kindsWithBlocks()[0].holding(sNext(), alternating)[i%2]
	}
	wantStmt(t, alternating, toldStmtText(alternating))
	wantNoStmt(t, "six deep along A and B", sIf(nil, stmts(alternating)))
}

// stmtOfCount is a statement of just so many, it and all within, by blocks of this length where there are as many.
func stmtOfCount(count, most int) impl.Stmt {
	if count == 1 {
		return sNext()
	}
	rest, size := count-1, min(most, count-1)
	x := sIf(nil, nil)
	for i := range size {
		within := stmtOfCount((rest+i)/size, most)
		if i%2 == 0 {
			x.A = append(x.A, within)
		} else {
			x.B = append(x.B, within)
		}
	}
	return x
}

func TestHowManyStatementsAStatementMayHave(t *testing.T) {
	t.Parallel()
	for count := 1; count <= 130; count++ {
		for _, most := range []int{3, 4, 5, 8, 59, 60, 61, 200} {
			x := stmtOfCount(count, most)
			if toldStmtCount(x) != count || most > 3 && count <= 61 && toldStmtDepth(x) > 5 {
				t.Fatalf("%d statements, %d deep", toldStmtCount(x), toldStmtDepth(x))
			}
			wantStmtAsTold(t, "how many", x)
			if got := impl.StmtOk(x); most > 3 && got != (count <= 60) {
				t.Errorf("%d statements: %v", count, got)
			}
		}
	}
	for _, z := range kindsWithBlocks() {
		for side := range z.holding() {
			right := z.holding(slices.Repeat(stmts(sNext()), 59)...)[side]
			wantStmt(t, right, toldStmtText(right))
			wantNoStmt(t, "61 statements", z.holding(slices.Repeat(stmts(sNext()), 60)...)[side])
			wantNoStmt(t, "a million statements", z.holding(slices.Repeat(stmts(sNext()), 1000000)...)[side])
		}
	}
	for inA := range 62 {
		x := sIf(slices.Repeat(stmts(sNext()), inA), nil)
		for inB := 57 - inA; inB <= 62-inA; inB++ {
			x.B = slices.Repeat(stmts(sNext()), max(inB, 0))
			if got := impl.StmtOk(x); got != (len(x.A)+len(x.B) <= 59) {
				t.Errorf("%d and %d statements: %v", len(x.A), len(x.B), got)
			}
		}
	}
}

// wrongStmts are all not right, each for one reason.
func wrongStmts() []impl.Stmt {
	x := xVar("x")
	l := []impl.Stmt{{}, sPrint(), sPrint(xs(6)...), sPrint(x, xInt(-1)), sSet("if", x), sSet("", x), sSet("X", x), sSet("x", impl.Expr{}), sCall(x), sCall(xCall("f", xs(5)...)), {K: impl.SFor, S: "x"}, {K: impl.SFor, T: "x"}, {K: impl.SFor, S: "x", T: "in"}, {K: impl.SFor, S: "x", T: "t", X: xs(1)}, stmt(impl.SExit, "", impl.Expr{}), stmt(impl.SReturn, "", xVar("return")), stmt(impl.SDel, "t", xText("'")), stmt(impl.SField, "", xText("'"), x), stmt(impl.SField, "", x, xText("'")), stmt(impl.SPut, "t", x, xInt(2147483648)), stmt(impl.SPut, "t", xInt(2147483648), x)}
	for _, z := range stmtKinds() {
		stray, numbered, blocked := z.of(z.least), z.of(z.least), z.of(z.least)
		stray.K += 12
		numbered.T += "T"
		blocked.A, blocked.B = stmts(impl.Stmt{}), stmts(sNext())
		l = append(l, stray, numbered, blocked, z.of(z.most+1))
		if z.least > 0 {
			l = append(l, z.of(z.least-1))
		}
		if !z.names("S") {
			stray = z.of(z.least)
			stray.S = "x"
			l = append(l, stray)
		}
	}
	return l
}

func TestAStatementWithinThatIsWrong(t *testing.T) {
	for i, wrong := range wrongStmts() {
		name := "the wrong one " + strconv.Itoa(i)
		wantNoStmt(t, name, wrong)
		for _, l := range [][]impl.Stmt{stmts(wrong), stmts(wrong, sNext()), stmts(sNext(), wrong), stmts(sNext(), sPrint(xVar("x")), wrong, sNext())} {
			for _, z := range kindsWithBlocks() {
				for _, x := range z.holding(l...) {
					wantNoStmt(t, name+" within", x)
				}
			}
			wantNoStmt(t, name+" in A alone", sIf(l, stmts(sNext())))
			wantNoStmt(t, name+" in B alone", sIf(stmts(sNext()), l))
			wantNoStmt(t, name+" far within A", sFor(sNext(), sWhile(sNext(), sIf(l, stmts(sNext())), sNext())))
			wantNoStmt(t, name+" far within B", sFor(sNext(), sIf(stmts(sNext()), stmts(sNext(), sIf(stmts(sNext()), l))), sNext()))
		}
	}
}

// Every kind stands within every kind, ahead of every kind and behind it.
func TestKindsWithinKindsOfStatements(t *testing.T) {
	for _, row := range stmtRows() {
		for _, z := range kindsWithBlocks() {
			for _, x := range z.holding(row.x, row.x) {
				wantStmtAsTold(t, "within", x)
				for _, outer := range kindsWithBlocks() {
					for _, y := range outer.holding(sNext(), x, row.x) {
						wantStmtAsTold(t, "within", y)
					}
				}
			}
		}
		for _, other := range stmtRows() {
			wantStmt(t, sFor(row.x, other.x), "for (x in t) { "+row.text+" "+other.text+" }")
			wantStmt(t, sIf(stmts(row.x), stmts(other.x)), "if (x) { "+row.text+" } else { "+other.text+" }")
		}
	}
}

func TestEachFieldOfAStatementIsAsked(t *testing.T) {
	names := []string{"", "x", "nr", "X", "ninelette", "\x00"}
	terms := [][]impl.Expr{nil, xs(1), xs(2), xs(3), xs(4), xs(5), xs(6), {xCall("f")}, {xCall("f"), xCall("f")}, {{}}, {xVar("x"), {}}, {xVar("if")}}
	blocks := [][]impl.Stmt{nil, stmts(sNext()), stmts(sNext(), sPrint(xVar("x"))), stmts(impl.Stmt{}), stmts(sNext(), sPrint())}
	for k := -2; k <= 15; k++ {
		for _, s := range names {
			for _, u := range names {
				for _, l := range terms {
					for _, a := range blocks {
						for _, b := range blocks {
							wantStmtAsTold(t, "a field", impl.Stmt{K: k, S: s, T: u, X: l, A: a, B: b})
						}
					}
				}
			}
		}
	}
}

func TestBlockText(t *testing.T) {
	for _, z := range []struct {
		want string
		l    []impl.Stmt
	}{
		{"{ }", nil}, {"{ }", []impl.Stmt{}}, {"{ }", stmts(sNext(), sNext())[:0]},
		{"{ next; }", stmts(sNext())}, {"{ next; next; }", stmts(sNext(), sNext())}, {"{ print x; x = 1; next; }", stmts(sPrint(xVar("x")), sSet("x", xInt(1)), sNext())},
		{"{ if (x) { } }", stmts(sIf(nil, nil))}, {"{ while (x) { } for (x in t) { } }", stmts(sWhile(), sFor())}, {"{ f(); if (x) { } else { g(); } }", stmts(sCall(xCall("f")), sIf(nil, stmts(sCall(xCall("g")))))},
		{"{ next; }", stmts(sNext(), sPrint(xVar("x")))[:1]},
	} {
		if got := impl.BlockText(z.l); got != z.want {
			t.Errorf("BlockText = %q, want %q", got, z.want)
		}
	}
	for _, row := range stmtRows() {
		if got, want := impl.BlockText(stmts(row.x, sNext(), row.x)), "{ "+row.text+" next; "+row.text+" }"; got != want {
			t.Errorf("BlockText = %q, want %q", got, want)
		}
	}
}

// Of what is not right the text is nothing; the blank behind it stays, and so do the others.
func TestBlockTextOfWhatIsWrong(t *testing.T) {
	for i, wrong := range wrongStmts() {
		for want, l := range map[string][]impl.Stmt{"{  }": stmts(wrong), "{   }": stmts(wrong, wrong), "{ next;  }": stmts(sNext(), wrong), "{  next; }": stmts(wrong, sNext()), "{ next;  next; }": stmts(sNext(), wrong, sNext()), "{   while (x) { } }": stmts(wrong, wrong, sWhile())} {
			if got := impl.BlockText(l); got != want {
				t.Errorf("the wrong one %d: BlockText = %q, want %q", i, got, want)
			}
		}
	}
}

// Of a block each statement alone has its limits.
func TestBlockTextHasNoLimit(t *testing.T) {
	full := stmtOfCount(60, 59)
	text := toldStmtText(full)
	for _, size := range []int{20, 21, 60, 61, 1000} {
		if got := impl.BlockText(slices.Repeat(stmts(full), size)); got != "{ "+strings.Repeat(text+" ", size)+"}" {
			t.Errorf("BlockText of %d has %d bytes", size, len(got))
		}
	}
	if got := impl.BlockText(slices.Repeat(stmts(sNext()), 300000)); got != "{ "+strings.Repeat("next; ", 300000)+"}" {
		t.Errorf("BlockText has %d bytes", len(got))
	}
	five := sNext()
	for range 4 {
		five = sWhile(five)
	}
	if got := impl.BlockText(stmts(five, sWhile(five), five)); got != "{ "+toldStmtText(five)+"  "+toldStmtText(five)+" }" {
		t.Errorf("BlockText = %q", got)
	}
}

// A list may hold itself; asking must end all the same.
func TestStatementsThatHoldThemselves(t *testing.T) {
	start := time.Now()
	for _, z := range kindsWithBlocks() {
		for side := range z.holding() {
			for _, size := range []int{1, 2, 20, 59, 60, 10000} {
				l := slices.Repeat(stmts(sNext()), size)
				x := z.holding(l...)[side]
				l[size-1] = x
				wantNoStmt(t, "what holds itself", x)
				wantNoStmt(t, "what holds itself within", sWhile(x))
				for i := range l {
					l[i] = x
				}
				wantNoStmt(t, "what holds itself everywhere", x)
			}
		}
	}
	l := stmts(sNext(), sNext())
	l[0], l[1] = sIf(l, l), sIf(l, l)
	wantNoStmt(t, "what holds itself as both", sIf(l, l))
	if got := impl.BlockText(l); got != "{   }" {
		t.Errorf("BlockText = %q", shortened(got))
	}
	terms := xs(1)
	terms[0] = xNot(terms...)
	wantNoStmt(t, "a term that holds itself", sPrint(terms...))
	deep := sNext()
	for range 100000 {
		deep = sIf(nil, stmts(deep))
	}
	wantNoStmt(t, "what is far too deep", deep)
	if took := time.Since(start); took > 20*time.Second {
		t.Errorf("it took %v", took)
	}
}

// What has the most, and the longest, ends soon, too.
func TestStatementsThatAreHeavy(t *testing.T) {
	start := time.Now()
	heavy := xCall("f")
	for range 4 {
		heavy.L = append(heavy.L, xCall("g", slices.Repeat([]impl.Expr{xMatch(longRexText(200), xText(strings.Repeat("a", 200)))}, 4)...))
	}
	x := stmtOfCount(60, 4)
	var fill func(x *impl.Stmt)
	fill = func(x *impl.Stmt) {
		if x.K == impl.SNext {
			*x = sPrint(slices.Repeat([]impl.Expr{heavy}, 5)...)
		}
		for _, l := range [][]impl.Stmt{x.A, x.B} {
			for i := range l {
				fill(&l[i])
			}
		}
	}
	fill(&x)
	wantStmt(t, x, toldStmtText(x))
	if took := time.Since(start); took > 20*time.Second {
		t.Errorf("it took %v", took)
	}
}
