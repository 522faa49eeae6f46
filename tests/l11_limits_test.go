package tests

import (
	"slices"
	"strconv"
	"strings"
	"testing"
	"time"

	"loop.example/g00288/impl"
)

// wantExprIfRight asks of a term's text, right or wrong by its limits, whether it comes back, alone and within a block and a program.
func wantExprIfRight(t *testing.T, e impl.Expr, right bool) {
	t.Helper()
	s := toldExprText(e)
	if right {
		wantReadExpr(t, s, e)
		wantReadBlock(t, "{ print 1, "+s+"; }", sPrint(xInt(1), e))
		wantReadProg(t, "{ }\n"+s+" { }", rules(pRule(impl.PAlways), pWhen(e)))
	} else {
		wantNoTerm(t, s)
	}
}

// wantStmtsIfRight does the same of statements.
func wantStmtsIfRight(t *testing.T, right bool, l ...impl.Stmt) {
	t.Helper()
	s := toldBlockText(l)
	if right {
		wantReadBlock(t, s, l...)
		wantReadProg(t, "x "+s, rules(pWhen(xVar("x"), l...)))
		wantReadProg(t, "func f(a) "+s, fns(pFn("f a", l...)))
	} else {
		wantNoReadBlock(t, s)
		wantNoReadProg(t, "x "+s)
		wantNoReadProg(t, "func f(a) "+s)
		wantNoReadProg(t, "func f(a) { }\nbegin "+s+"\nend { }")
	}
}

func TestHowDeepATermIsRead(t *testing.T) {
	for _, outer := range kindsWithParts() {
		for at := range outer.most {
			e := xVar("y")
			for depth := 2; depth <= 14; depth++ {
				e = outer.holding(e, at)
				wantExprIfRight(t, e, depth <= 10)
			}
		}
	}
	for _, row := range exprRows() {
		e := row.e
		for toldDepth(e) < 10 {
			e = xNot(e)
		}
		wantExprIfRight(t, e, true)
		wantExprIfRight(t, xNot(e), false)
		wantExprIfRight(t, xCall("f", xInt(1), e), false)
	}
}

// The place that is set is a term of its own: what stands in its brackets, or behind its $, may be 10 deep and have 100 parts.
func TestHowDeepAndHowGreatThePlaceThatIsSetIs(t *testing.T) {
	deep, great := xVar("y"), exprOfParts(100, 4)
	for range 9 {
		deep = xNot(deep)
	}
	for _, e := range []impl.Expr{deep, great} {
		wantStmtsIfRight(t, true, stmt(impl.SPut, "t", e, e), stmt(impl.SField, "", e, e), stmt(impl.SDel, "t", e), sSet("x", e), stmt(impl.SExit, "", e), stmt(impl.SReturn, "", e))
		wantStmtsIfRight(t, true, impl.Stmt{K: impl.SIf, X: []impl.Expr{e}, A: stmts(impl.Stmt{K: impl.SWhile, X: []impl.Expr{e}})})
		wantExprIfRight(t, term(impl.XAt, "t", e), false)
		wantExprIfRight(t, term(impl.XField, "", e), false)
	}
	for _, e := range []impl.Expr{xNot(deep), exprOfParts(101, 4)} {
		for _, x := range stmts(stmt(impl.SPut, "t", e, xInt(1)), stmt(impl.SPut, "t", xInt(1), e), stmt(impl.SField, "", e, xInt(1)), stmt(impl.SField, "", xInt(1), e), stmt(impl.SDel, "t", e), sSet("x", e), stmt(impl.SExit, "", e), stmt(impl.SReturn, "", e), sPrint(xInt(1), e), impl.Stmt{K: impl.SIf, X: []impl.Expr{e}}, impl.Stmt{K: impl.SWhile, X: []impl.Expr{e}}) {
			wantStmtsIfRight(t, false, x)
			wantStmtsIfRight(t, false, sNext(), sFor(x), sNext())
		}
	}
	wantStmtsIfRight(t, true, sCall(great))
	wantStmtsIfRight(t, false, sCall(exprOfParts(101, 4)))
}

func TestHowManyPartsOfATermAreRead(t *testing.T) {
	for parts := 1; parts <= 130; parts++ {
		for most := 2; most <= 4; most++ {
			wantExprIfRight(t, exprOfParts(parts, most), parts <= 100)
		}
	}
	for _, z := range kindsWithParts() {
		for at := range z.most {
			wantExprIfRight(t, z.holding(exprOfParts(100-z.most, 4), at), true)
			wantExprIfRight(t, z.holding(exprOfParts(101-z.most, 4), at), false)
		}
	}
	for _, count := range []int{3, 4, 5, 6, 7, 20} {
		wantExprIfRight(t, xCall("f", xs(count)...), count <= 4)
		wantStmtsIfRight(t, count <= 4, sCall(xCall("f", xs(count)...)))
		wantStmtsIfRight(t, count <= 5, sPrint(xs(count)...))
		wantStmtsIfRight(t, count <= 5, sNext(), sWhile(sPrint(xs(count)...)))
	}
	great := exprOfParts(100, 4)
	wantStmtsIfRight(t, true, sPrint(great, great, great, great, great))
	wantStmtsIfRight(t, false, sPrint(great, great, great, great, exprOfParts(101, 4)))
}

func TestHowDeepStatementsAreRead(t *testing.T) {
	for _, row := range stmtRows() {
		for _, z := range kindsWithBlocks() {
			for side := range z.holding() {
				x := row.x
				for range 8 {
					wantStmtsIfRight(t, toldStmtDepth(x) <= 5, x)
					wantStmtsIfRight(t, toldStmtDepth(x) <= 5, sNext(), x, sNext())
					x = z.holding(x)[side]
				}
			}
		}
	}
}

func TestHowManyStatementsAreRead(t *testing.T) {
	t.Parallel()
	for count := 1; count <= 130; count++ {
		for _, most := range []int{4, 5, 8, 59, 60, 200} {
			x := stmtOfCount(count, most)
			wantStmtsIfRight(t, count <= 60, x)
			wantStmtsIfRight(t, count <= 60, sNext(), x)
		}
	}
	for _, z := range kindsWithBlocks() {
		for side := range z.holding() {
			wantStmtsIfRight(t, true, z.holding(someStmts(59)...)[side])
			wantStmtsIfRight(t, false, z.holding(someStmts(60)...)[side])
		}
	}
	for _, count := range []int{0, 1, 2, 19, 20, 21, 22, 40, 60, 61, 500} {
		wantStmtsIfRight(t, count <= 20, someStmts(count)...)
		wantStmtsIfRight(t, count <= 20, slices.Repeat(stmts(sIf(stmts(sNext()), stmts(sNext()))), min(count, 100))...)
	}
	full := stmtOfCount(60, 59)
	wantStmtsIfRight(t, true, slices.Repeat(stmts(full), 12)...)
	wantStmtsIfRight(t, false, append(slices.Repeat(stmts(full), 11), stmtOfCount(61, 60))...)
}

func TestHowManyRulesFunctionsAndParamsAreRead(t *testing.T) {
	for _, k := range ruleKinds() {
		for _, count := range []int{0, 1, 9, 10, 11, 12, 30} {
			p := rules(slices.Repeat([]impl.Rule{ruleOfKind(k), ruleOfKind(k, sNext())}, count)[:count]...)
			for _, l := range [][]impl.Fn{nil, namedFns(6)} {
				p.Fns = l
				if count <= 10 {
					wantReadProg(t, toldProgText(p), p)
				} else {
					wantNoReadProg(t, toldProgText(p))
				}
			}
		}
	}
	mixed := rules(slices.Repeat([]impl.Rule{pRule(impl.PBegin), pWhen(xVar("x")), pRule(impl.PAlways), pRule(impl.PEnd, sNext())}, 3)...)
	wantNoReadProg(t, toldProgText(mixed))
	mixed.Rules = mixed.Rules[:10]
	wantReadProg(t, toldProgText(mixed), mixed)
	for _, count := range []int{0, 1, 5, 6, 7, 8, 30} {
		p := fns(namedFns(count)...)
		for _, l := range [][]impl.Rule{nil, mixed.Rules} {
			p.Rules = l
			if count <= 6 {
				wantReadProg(t, toldProgText(p), p)
			} else {
				wantNoReadProg(t, toldProgText(p))
			}
		}
	}
	all := strings.Fields("a b c d e g h i j k")
	for count := range len(all) {
		p := fns(pFn("g a"), impl.Fn{Name: "f", Params: all[:count]}, pFn("h a b c d", sNext()))
		if count <= 4 {
			wantReadProg(t, toldProgText(p), p)
		} else {
			wantNoReadProg(t, toldProgText(p))
		}
	}
}

func TestNamesTextsAndNumbersAtTheirLimits(t *testing.T) {
	for _, name := range []string{"abcdefgh", "a1234567", "zzzzzzzz", "returns1"} {
		wantReadExpr(t, name, xVar(name))
		wantReadExpr(t, name+"("+name+"["+name+"], ("+name+" in "+name+"))", xCall(name, term(impl.XAt, name, xVar(name)), term(impl.XIn, name, xVar(name))))
		wantReadProg(t, "func "+name+"("+name+") { for ("+name+" in "+name+") { delete "+name+"["+name+"]; } }", fns(pFn(name+" "+name, impl.Stmt{K: impl.SFor, S: name, T: name, A: stmts(stmt(impl.SDel, name, xVar(name)))})))
		long := name + "x"
		for _, s := range []string{long, long + "()", long + "[1]", "(1 in " + long + ")"} {
			wantNoTerm(t, s)
		}
		for _, s := range []string{long + " = 1;", long + "[1] = 1;", long + "();", "delete " + long + "[1];", "for (" + long + " in t) { }", "for (x in " + long + ") { }"} {
			wantNoStatements(t, s)
		}
		wantNoReadProg(t, "func "+long+"() { }")
		wantNoReadProg(t, "func f("+long+") { }")
	}
	for _, size := range []int{0, 1, 199, 200, 201, 202, 1000, 100000} {
		for _, sign := range []string{"a", " ", "#", "/", "~", "\""} {
			s := strings.Repeat(sign, size)
			if size > 200 {
				wantNoTerm(t, "'"+s+"'")
				continue
			}
			wantReadExpr(t, "'"+s+"'", xText(s))
			wantReadProg(t, "'"+s+"' { print '"+s+"', '"+s+"'; }", rules(pWhen(xText(s), sPrint(xText(s), xText(s)))))
		}
	}
	for _, n := range []int{0, 1, 9, 10, 2147483646, 2147483647} {
		s := strconv.Itoa(n)
		wantReadExpr(t, s, xInt(n))
		wantReadExpr(t, "-"+s, term(impl.XNeg, "", xInt(n)))
		wantReadProg(t, s+" { $"+s+" = "+s+"; }", rules(pWhen(xInt(n), stmt(impl.SField, "", xInt(n), xInt(n)))))
		wantNoTerm(t, "0"+s)
	}
	for _, s := range []string{"2147483648", "2147483657", "4294967296", "9223372036854775807", "9223372036854775808", "18446744073709551616", strings.Repeat("9", 100000), strings.Repeat("0", 100000)} {
		wantNoTerm(t, s)
		wantNoTerm(t, "-"+s)
	}
	for size := 195; size <= 202; size++ {
		wantExprIfRight(t, xMatch(longRexText(size), xVar("x")), size <= 200)
		wantExprIfRight(t, term(impl.XGsub, longRexText(size), xVar("x"), xVar("y")), size <= 200)
	}
}

// blockOfTokens has just so many (1986 to 2014) by 20 statements.
func blockOfTokens(count int) []impl.Stmt {
	l := slices.Repeat(stmts(sWhile(someStmts(59)...)), 15)
	l = append(l, slices.Repeat(stmts(sWhile(someStmts(7)...)), 4)...)
	// Beside those, of 124 and of 20, the block has two of its own, and the last statement six.
	rest := count - 15*124 - 4*20 - 2 - 6
	last := sIf(nil, nil)
	if rest%2 == 1 {
		last.A = append(last.A, sPrint(xVar("x")))
		rest -= 3
	}
	last.A = append(last.A, someStmts(rest/2)...)
	return append(l, last)
}

// A text of just MaxTokens tokens is read, one of one more is not, however right its tree is.
func TestHowManyTokensAreRead(t *testing.T) {
	for count := impl.MaxTokens - 6; count <= impl.MaxTokens+6; count++ {
		l := blockOfTokens(count)
		s := toldBlockText(l)
		if size := len(tokensOfText(t, s)); size != count || len(l) != 20 || !toldBlockOk(l) {
			t.Fatalf("the block has %d tokens, %d wanted", size, count)
		}
		p, ends := rules(pRule(impl.PAlways, l...)), rules(pRule(impl.PEnd, l...))
		if count <= impl.MaxTokens {
			wantReadBlock(t, s, l...)
			wantReadBlock(t, "# more\n"+s+"\n#", l...)
			wantReadProg(t, s, p)
		} else {
			wantNoReadBlock(t, s)
			wantNoReadProg(t, s)
		}
		if count < impl.MaxTokens {
			wantReadProg(t, "end "+s, ends)
		} else {
			wantNoReadProg(t, "end "+s)
		}
	}
	p := impl.Prog{Fns: namedFns(6), Rules: slices.Repeat([]impl.Rule{pWhen(exprOfParts(100, 4), someStmts(20)...)}, 10)}
	if !impl.ProgOk(p) {
		t.Error("the program is not right")
	}
	wantNoReadProg(t, impl.ProgText(p))
	p.Rules = p.Rules[:4]
	wantReadProg(t, impl.ProgText(p), p)
}

// tokensOfText knows of no limit: it reads what is within the brackets of a block, one statement behind the other.
func tokensOfText(t *testing.T, s string) []impl.Token {
	t.Helper()
	var all []impl.Token
	for _, piece := range strings.SplitAfter(s, ";") {
		l, place := impl.Lex(piece)
		if place != -1 {
			t.Fatalf("%q has no tokens", piece)
		}
		all = append(all, l...)
	}
	return all
}

// Whatever the text is, and however deep and long, it is told soon.
func TestReadingTakesNoMoreThanAMoment(t *testing.T) {
	start := time.Now()
	pieces := []string{"(", "-", "!", "$", "t[", "f(", "f(1, ", "((", "(x + ", "(1 - (", "length(", "gsub(", "gsub(x ~ /a/, ", "substr(x, ", "{", "{ ", "if (x) {", "if (", "while (x) { ", "for (x in t) { ", "if (x) { } else { ", "begin {", "end", "func f(", "func f() {", "func f() { } ", "begin { } ", "{ } ", "x { } ", "print ", "print x, ", "print x;", "next;", "x = ", "x = 1; ", "t[x] = 1;", "f();", "f() ", ",", ";", ")", "}", "]", "x ", "1 ", "'a' ", "~", "~ /a/ ", "~ /a/", "in ", "else ", "''", "'", "#", "#\n", "\n", " ", "\xff"}
	for _, piece := range pieces {
		for _, count := range []int{10, 333, 666, 999, 1000, 1999, 2000, 2001, 300000} {
			long := strings.Repeat(piece, count)
			for _, ahead := range []string{"", "{ ", "x = ", "func f(a) { if (x) { } else { t[", "begin { print "} {
				for _, parse := range []func(string){func(s string) { impl.ParseExpr(s) }, func(s string) { impl.ParseBlock(s) }, func(s string) { impl.ParseProg(s) }} {
					parse(ahead + long)
				}
			}
		}
	}
	for _, closed := range [][2]string{{"(", ")"}, {"f(", ")"}, {"t[", "]"}, {"length(", ")"}, {"(x + ", ")"}, {"-", ""}, {"!", ""}, {"$", ""}} {
		for _, count := range []int{11, 100, 400, 900} {
			wantNoTerm(t, strings.Repeat(closed[0], count)+"x"+strings.Repeat(closed[1], count))
		}
	}
	for _, closed := range [][2]string{{"{ ", "} "}, {"if (x) { ", "} "}, {"while (x) { ", "} "}, {"if (x) { } else { ", "} "}} {
		for _, count := range []int{6, 100, 250, 900} {
			wantNoStatements(t, strings.Repeat(closed[0], count)+strings.Repeat(closed[1], count))
		}
	}
	if took := time.Since(start); took > 20*time.Second {
		t.Errorf("it took %v", took)
	}
}

// What has as long texts as there may be is read soon, too.
func TestLongProgramsAreReadSoon(t *testing.T) {
	start := time.Now()
	long := xText(strings.Repeat("a", impl.MaxText))
	match := xMatch(longRexText(200), xMatch(longRexText(200), long))
	l := slices.Repeat(stmts(sWhile(slices.Repeat(stmts(sPrint(long, match)), 3)...)), 20)
	wantReadBlock(t, toldBlockText(l), l...)
	p := rules(pRule(impl.PEnd, l...))
	wantReadProg(t, toldProgText(p), p)
	wantReadProg(t, strings.Repeat("# "+strings.Repeat("a", 1000)+"\n", 1000)+toldProgText(p)+strings.Repeat(" ", 1000000), p)
	if took := time.Since(start); took > 10*time.Second {
		t.Errorf("it took %v", took)
	}
}
