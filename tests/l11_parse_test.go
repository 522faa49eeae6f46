package tests

import (
	"math/rand"
	"slices"
	"strconv"
	"strings"
	"testing"

	"loop.example/g00288/impl"
)

func TestTermsComeBackOfTheirTexts(t *testing.T) {
	for _, row := range exprRows() {
		wantReadExpr(t, row.text, row.e)
		wantNoReadBlock(t, row.text)
		wantNoReadProg(t, row.text)
	}
	for _, outer := range kindsWithParts() {
		for count := outer.least; count <= outer.most; count++ {
			e := outer.of(xs(count)...)
			wantReadExpr(t, toldExprText(e), e)
		}
		for at := range outer.most {
			for _, row := range exprRows() {
				e := outer.holding(row.e, at)
				wantReadExpr(t, toldExprText(e), e)
				for _, most := range kindsWithParts() {
					e := most.holding(outer.holding(row.e, at), most.most-1)
					wantReadExpr(t, toldExprText(e), e)
				}
			}
		}
	}
	for _, s := range signsOfTwo() {
		e := term(impl.XBin, s, term(impl.XBin, s, xVar("x"), xInt(1)), term(impl.XNeg, "", xText(s)))
		wantReadExpr(t, "((x "+s+" 1) "+s+" -'"+s+"')", e)
	}
}

func TestStatementsComeBackOfTheirTexts(t *testing.T) {
	wantReadBlock(t, "{ }")
	for _, row := range stmtRows() {
		wantReadBlock(t, "{ "+row.text+" }", row.x)
		wantReadBlock(t, "{ next; "+row.text+" "+row.text+" next; }", sNext(), row.x, row.x, sNext())
		wantNoReadExpr(t, "{ "+row.text+" }")
		wantNothingRead(t, row.text)
		for _, z := range kindsWithBlocks() {
			for _, x := range z.holding(row.x, sNext(), row.x) {
				wantReadBlock(t, toldBlockText(stmts(x, x)), x, x)
				for _, outer := range kindsWithBlocks() {
					for _, y := range outer.holding(sNext(), x, row.x) {
						wantReadBlock(t, toldBlockText(stmts(y)), y)
					}
				}
			}
		}
		for _, other := range stmtRows() {
			x := sIf(stmts(row.x), stmts(other.x))
			wantReadBlock(t, "{ if (x) { "+row.text+" } else { "+other.text+" } }", x)
			wantReadBlock(t, "{ "+row.text+" "+other.text+" }", row.x, other.x)
		}
	}
	for _, z := range stmtKinds() {
		for count := max(z.least, 1); count <= z.most; count++ {
			for at := range count {
				for _, row := range exprRows() {
					x := z.of(count)
					x.X[at] = row.e
					if z.k != impl.SCall || row.e.K == impl.XCall {
						wantReadBlock(t, toldBlockText(stmts(x)), x)
					}
				}
			}
		}
	}
}

func TestProgramsComeBackOfTheirTexts(t *testing.T) {
	for _, row := range progRows() {
		wantReadProg(t, row.text, row.p)
		wantNoReadExpr(t, row.text)
	}
	for _, row := range exprRows() {
		wantReadProg(t, row.text+" { }\n", rules(pWhen(row.e)))
		wantReadProg(t, "begin { }\n"+row.text+" { next; }\n"+row.text+" { }\n{ }\n"+row.text+" { }\n", rules(pRule(impl.PBegin), pWhen(row.e, sNext()), pWhen(row.e), pRule(impl.PAlways), pWhen(row.e)))
	}
	for _, row := range stmtRows() {
		wantReadProg(t, "{ "+row.text+" }\n", rules(pRule(impl.PAlways, row.x)))
		p := impl.Prog{Fns: []impl.Fn{pFn("f a b", row.x), pFn("g", row.x, sNext())}}
		for _, k := range ruleKinds() {
			p.Rules = append(p.Rules, ruleOfKind(k, row.x), ruleOfKind(k, sNext(), row.x))
		}
		wantReadProg(t, toldProgText(p), p)
	}
	for _, first := range progRows() {
		for _, second := range progRows() {
			p := impl.Prog{Rules: slices.Concat(first.p.Rules, second.p.Rules), Fns: first.p.Fns}
			wantReadProg(t, toldProgText(p), p)
		}
	}
}

// A block is a program, too: of one rule with each line.
func TestABlockIsARuleWithEachLine(t *testing.T) {
	for _, row := range stmtRows() {
		wantReadProg(t, "{ "+row.text+" next; }", rules(pRule(impl.PAlways, row.x, sNext())))
	}
	wantNoReadBlock(t, "{ } { }")
	wantNoReadBlock(t, "begin { }")
	wantNoReadBlock(t, "x { }")
	wantNoReadBlock(t, "func f() { }")
}

func someOf[T any](r *rand.Rand, l []T) T { return l[r.Intn(len(l))] }

func randomName(r *rand.Rand) string {
	return someOf(r, []string{"x", "y", "t", "a1", "abcdefgh", "f", "ins", "print1", "z9z9z9z9"})
}

func randomExpr(r *rand.Rand, depth int) impl.Expr {
	z := someOf(r, exprKinds())
	if depth == 1 {
		z = someOf(r, slices.DeleteFunc(exprKinds(), func(z exprKind) bool { return z.least > 0 }))
	}
	e := impl.Expr{K: z.k}
	if z.k == impl.XInt {
		e.N = someOf(r, []int{0, 1, 7, 10, 65536, 2147483647})
	}
	switch z.s {
	case sText:
		e.S = someOf(r, []string{"", " ", "a b", "print", "#", "/a/ ~", ") {", "x1"})
	case sName:
		e.S = randomName(r)
	case sSign:
		e.S = someOf(r, signsOfTwo())
	case sRex:
		e.S = someOf(r, []string{"a", " ", "()", "^a*$", "(a|b)*c", "[ab]+ ?", "a,b:_-"})
	}
	count := z.least
	if depth > 1 && z.most > z.least {
		count += r.Intn(z.most - z.least + 1)
	}
	for range count {
		e.L = append(e.L, randomExpr(r, depth-1))
	}
	return e
}

func randomStmt(r *rand.Rand, depth int) impl.Stmt {
	z := someOf(r, stmtKinds())
	x := impl.Stmt{K: z.k}
	if z.names("S") {
		x.S = randomName(r)
	}
	if z.names("T") {
		x.T = randomName(r)
	}
	for range z.least + r.Intn(z.most-z.least+1) {
		x.X = append(x.X, randomExpr(r, 1+r.Intn(4)))
	}
	if z.k == impl.SCall {
		x.X = []impl.Expr{xCall(randomName(r), x.X...)}
	}
	if z.names("A") && depth > 1 {
		x.A = randomBlock(r, depth-1, 4)
	}
	if z.names("B") && depth > 1 {
		x.B = randomBlock(r, depth-1, 4)
	}
	return x
}

func randomBlock(r *rand.Rand, depth, most int) []impl.Stmt {
	var l []impl.Stmt
	for range r.Intn(most + 1) {
		l = append(l, randomStmt(r, depth))
	}
	return l
}

func randomProg(r *rand.Rand) impl.Prog {
	p := impl.Prog{}
	for _, f := range namedFns(r.Intn(4)) {
		f.Params = []string{"a", "b", "c", "d"}[:r.Intn(5)]
		f.A = randomBlock(r, 2, 3)
		p.Fns = append(p.Fns, f)
	}
	for range r.Intn(4) {
		rule := impl.Rule{K: someOf(r, ruleKinds()), A: randomBlock(r, 3, 3)}
		if rule.K == impl.PWhen {
			rule.P = randomExpr(r, 3)
		}
		p.Rules = append(p.Rules, rule)
	}
	return p
}

func TestTreesOfAllShapesComeBackOfTheirTexts(t *testing.T) {
	t.Parallel()
	r := rand.New(rand.NewSource(11))
	count := 0
	for range 4000 {
		if e := randomExpr(r, 6); toldExprOk(e) {
			wantReadExpr(t, toldExprText(e), e)
		}
		p := randomProg(r)
		s := toldProgText(p)
		if l, place := toldLex(s); place != -1 || len(l) > impl.MaxTokens || !toldProgOk(p) {
			continue
		}
		count++
		wantReadProg(t, s, p)
		for _, f := range p.Fns {
			wantReadBlock(t, toldBlockText(f.A), f.A...)
		}
	}
	if count < 2000 {
		t.Errorf("only %d programs were right", count)
	}
}

// withGaps puts the gaps ahead of the tokens, one behind the other, and again from the first; a remark that is last needs no end.
func withGaps(l []impl.Token, gaps ...string) string {
	var b strings.Builder
	for i, token := range l {
		b.WriteString(gaps[i%len(gaps)])
		b.WriteString(impl.TokenText(token))
	}
	b.WriteString(gaps[len(l)%len(gaps)])
	return b.String()
}

// tight has blanks just where two tokens would be one, or another, without.
func tight(l []impl.Token) string {
	s := ""
	for i, token := range l {
		if got, place := toldLex(s + impl.TokenText(token)); place != -1 || !slices.Equal(got, l[:i+1]) {
			s += " "
		}
		s += impl.TokenText(token)
	}
	return s
}

func gapLists() [][]string {
	return [][]string{
		{" "}, {"\t"}, {"\n"}, {"\r"}, {"\r\n"}, {"   \t"}, {"\n\n \n"}, {" # a remark\n"}, {"#\n"}, {"##'#\n\t"}, {" #{ (\n"}, {"\n#~ /\n#\xff\x00\n"},
		{" ", "\n", "\t", "\r", " # it's\n"}, {"#\n#\n", " "}, {" ", "\r # ) }\r;\n", "\n"}, {" #" + strings.Repeat("a", 5000) + "\n", "\n"},
	}
}

// wantReadWithGaps asks one reader: where there are gaps, or none where none need be, the answer is the same.
func wantReadWithGaps(t *testing.T, s string, want func(string)) {
	t.Helper()
	l, place := toldLex(s)
	if place != -1 {
		t.Fatalf("%q has no tokens", s)
	}
	for _, gaps := range gapLists() {
		want(withGaps(l, gaps...))
		want(gaps[0] + s + gaps[len(gaps)-1])
	}
	want(tight(l))
	want(tight(l) + "# behind it")
	want("#\n" + tight(l) + " #")
	want(impl.JoinTokens(l))
}

func TestBlanksAndRemarksDoNotMatter(t *testing.T) {
	for _, row := range exprRows() {
		wantReadWithGaps(t, row.text, func(s string) { wantReadExpr(t, s, row.e) })
	}
	for _, row := range stmtRows() {
		wantReadWithGaps(t, "{ "+row.text+" }", func(s string) { wantReadBlock(t, s, row.x) })
	}
	for _, row := range progRows() {
		wantReadWithGaps(t, row.text, func(s string) { wantReadProg(t, s, row.p) })
	}
	for s, tightly := range map[string]string{"(x - -1)": "(x- -1)", "(1 / nr)": "(1/nr)", "if (x) { print x; } else { next; }": "if(x){print x;}else{next;}"} {
		l, _ := toldLex(s)
		if got := tight(l); got != strings.ReplaceAll(tightly, "- -", "--") {
			t.Errorf("%q is %q without blanks", s, got)
		}
	}
	wantReadExpr(t, "(x--1)", term(impl.XBin, "-", xVar("x"), term(impl.XNeg, "", xInt(1))))
	wantReadBlock(t, "{exit-1;}", stmt(impl.SExit, "", term(impl.XNeg, "", xInt(1))))
	wantReadBlock(t, "{print'a','b';}", sPrint(xText("a"), xText("b")))
	wantReadProg(t, "1{}nr{}'x'{}", rules(pWhen(xInt(1)), pWhen(impl.Expr{K: impl.XNr}), pWhen(xText("x"))))
}

func TestTextsOfBlanksAlone(t *testing.T) {
	for _, s := range []string{"", " ", "\n", "\t\r\n ", "#", "# no more", "#\n", " # {\n\n#x", strings.Repeat(" \n", 50000), strings.Repeat("#x\n", 50000)} {
		wantNoReadExpr(t, s)
		wantNoReadBlock(t, s)
		wantReadProg(t, s, impl.Prog{})
	}
	for _, s := range []string{"\v", "\f", "\x00", "\u00a0", "\u2003", "\ufeff", "\x85", "\x1a"} {
		wantNothingRead(t, s)
		wantNoReadExpr(t, s+"x")
		wantNoReadExpr(t, "x"+s)
		wantNoReadBlock(t, "{"+s+"}")
		wantNoReadProg(t, "{ }"+s)
	}
}

func wordsBeside() []string {
	return []string{"", " ", "\n", " x", "x ", " 1", ";", " ;", ",", ")", "}", "]", "(", "{", "x = 1;"}
}

// What is right has no second one behind it, and nothing ahead.
func TestNothingStandsBesideATerm(t *testing.T) {
	for _, row := range exprRows() {
		for _, other := range exprRows() {
			wantExprAsRead(t, row.text+" "+other.text)
			wantExprAsRead(t, row.text+", "+other.text)
		}
		for _, s := range wordsBeside() {
			wantExprAsRead(t, row.text+s)
			wantExprAsRead(t, s+row.text)
			wantExprAsRead(t, "("+row.text+s+")")
		}
		wantNoReadExpr(t, row.text+" "+row.text+";")
		wantNoTerm(t, "("+row.text+")")
		wantNoTerm(t, row.text+", "+row.text+";")
	}
}

func TestNothingStandsBesideABlock(t *testing.T) {
	for _, row := range stmtRows() {
		block := "{ " + row.text + " }"
		for _, s := range wordsBeside() {
			wantBlockAsRead(t, block+s)
			wantBlockAsRead(t, s+block)
			wantBlockAsRead(t, "{ "+row.text+s+" }")
			wantBlockAsRead(t, "{ "+s+row.text+" }")
			wantProgAsRead(t, block+s)
			wantProgAsRead(t, s+block)
		}
		wantNoReadBlock(t, block+block)
		wantNoReadBlock(t, "{ "+block+" }")
		wantNoReadBlock(t, row.text)
		wantNoReadBlock(t, "{ "+row.text+"; }")
		wantNoReadBlock(t, "{ ; "+row.text+" }")
		if strings.HasSuffix(row.text, ";") {
			wantNoReadBlock(t, "{ "+strings.TrimSuffix(row.text, ";")+" }")
			wantNoReadBlock(t, "{ "+strings.TrimSuffix(row.text, ";")+", }")
			wantNoReadBlock(t, "{ "+strings.TrimSuffix(row.text, ";")+" next; }")
		}
	}
}

// Texts of each reason for which chapter 7 has no token.
func noTokens() []string {
	l := []string{"'", "'a", "'a\n'", "'\x7f'", "'é'", "''' ", "~ /", "~ //", "~ /a", "~ /a\n/", "~ /\t/", "007", "00", "01", "2147483648", "4294967296", "99999999999999999999", "ninelette", "a12345678", "returning1", "&", "|", "& &", "'" + strings.Repeat("a", 201) + "'", "~ /" + strings.Repeat("a", 201) + "/"}
	for c := range 256 {
		s := string([]byte{byte(c)})
		if toldMark.FindString(s) == "" && !strings.Contains(" \t\n\r#/~", s) && (c < '0' || c > '9') && (c < 'a' || c > 'z') {
			l = append(l, s)
		}
	}
	return l
}

func TestTextsWithoutTokensAreNotRead(t *testing.T) {
	for _, s := range noTokens() {
		wantNothingRead(t, s)
		wantNothingRead(t, " "+s+"\n")
		wantNoTerm(t, s)
		wantNoStatements(t, s)
		wantNoStatements(t, "print "+s+";")
		wantNoReadExpr(t, "(x + 1) "+s)
		wantNoReadExpr(t, s+" (x + 1)")
		wantNoReadBlock(t, "{ next; } "+s)
		wantNoReadBlock(t, s+" { next; }")
		wantNoReadProg(t, "func f() { }\nbegin { next; }\n"+s)
		wantNoReadProg(t, s+"\nfunc f() { }\nbegin { next; }\n")
		wantNoReadProg(t, "func "+s+"() { }")
		wantNoReadProg(t, "func f("+s+") { }")
		wantNoReadProg(t, "func f(a, "+s+") { }")
	}
	for _, s := range noTokens() {
		if !strings.Contains(s, "\n") {
			wantReadProg(t, "#"+s+"\n{ } # "+s, rules(pRule(impl.PAlways)))
		}
	}
}

// What is told of a regular expression that is wrong is told ahead of the tree: its text has no token, or it has one that is no RexText.
func TestWhatStandsBehindATilde(t *testing.T) {
	for _, row := range rexRows() {
		wantReadExpr(t, "(x ~ /"+row.text+"/)", xMatch(row.text, xVar("x")))
		wantReadExpr(t, "gsub(x~/"+row.text+"/,y)", term(impl.XGsub, row.text, xVar("x"), xVar("y")))
		wantReadProg(t, "(x ~ # no\n /"+row.text+"/) { }", rules(pWhen(xMatch(row.text, xVar("x")))))
		wantNoTerm(t, "(x ~ /("+row.text+")/)")
		wantNoTerm(t, "gsub(x ~ /("+row.text+")/, y)")
	}
	for _, s := range []string{"//", "/(a)/", "/(ab)c/", "/a**/", "/(a*)*/", "/[ba]/", "/[]/", "/[a/", "/a|/", "/|a/", "/a)/", "/(a/", "/*/", "/+/", "/?/", "/'/", "/'a'/", "/#/", "/a#/", "/~/", "/\\/", "/a{2}/", "/abcdefghi/", "/" + longRexText(201) + "/", "/" + strings.Repeat("a", 200) + "/", "/ a/ /", "/a//b/", "a", "x", "'a'", "''", "1", "nr", "+", "(", ")", "$", "~ /a/", "/a/ /b/", "/a/, /b/", "/a", "a/", ""} {
		wantNoTerm(t, "(x ~ "+s+")")
		wantNoTerm(t, "gsub(x ~ "+s+", y)")
	}
	wantReadExpr(t, "(x ~ / a /)", xMatch(" a ", xVar("x")))
	wantReadExpr(t, "(x ~ /"+longRexText(200)+"/)", xMatch(longRexText(200), xVar("x")))
	for _, s := range []string{"x ~ /a/", "/a/", "(/a/)", "(/a/ ~ x)", "(x /a/)", "(x = /a/)", "(x ~ /a/ ~ /b/)", "(x ~ /a/", "(x ~ /a/, y)", "(~ /a/)", "~ /a/", "f(x ~ /a/)", "length(x ~ /a/)", "gsub(x, /a/, y)", "gsub(x ~ /a/)", "gsub(x ~ /a/ y)", "gsub(x ~ /a/, y, y)", "gsub((x ~ /a/), y)", "gsub(~ /a/, y)", "gsub(x ~ /a/, ~ /a/)", "gsub(x, y)", "gsub()", "gsub", "gsub x ~ /a/, y", "t[x ~ /a/]", "$x ~ /a/"} {
		wantNoTerm(t, s)
	}
	for _, s := range []string{"print x ~ /a/;", "x ~ /a/;", "x ~ = 1;", "for (x ~ /a/) { }", "if (x ~ /a/) { }", "while x ~ /a/ { }", "gsub(x ~ /a/, y);", "(x ~ /a/);"} {
		wantNoStatements(t, s)
	}
}

func TestMinusAndNot(t *testing.T) {
	x, one := xVar("x"), xInt(1)
	neg := func(e impl.Expr) impl.Expr { return term(impl.XNeg, "", e) }
	for s, want := range map[string]impl.Expr{
		"-1": neg(one), "- 1": neg(one), "-0": neg(xInt(0)), "--1": neg(neg(one)), "- -\n1": neg(neg(one)), "---x": neg(neg(neg(x))), "-2147483647": neg(xInt(2147483647)), "-'a'": neg(xText("a")), "-x": neg(x), "-(x + 1)": neg(term(impl.XBin, "+", x, one)), "-t[-x]": neg(term(impl.XAt, "t", neg(x))), "-$-1": neg(term(impl.XField, "", neg(one))), "$-1": term(impl.XField, "", neg(one)), "$ - 1": term(impl.XField, "", neg(one)), "-f(-x, -1)": neg(xCall("f", neg(x), neg(one))), "-length(x)": neg(term(impl.XLen, "", x)), "-nr": neg(impl.Expr{K: impl.XNr}),
		"!1": xNot(one), "! x": xNot(x), "!!x": xNot(xNot(x)), "! ! !0": xNot(xNot(xNot(xInt(0)))), "!''": xNot(xText("")), "!(x in t)": xNot(term(impl.XIn, "t", x)), "!-1": xNot(neg(one)), "-!1": neg(xNot(one)), "!$1": xNot(term(impl.XField, "", one)), "$!x": term(impl.XField, "", xNot(x)), "!upper(!x)": xNot(term(impl.XUp, "", xNot(x))), "!f()": xNot(xCall("f")),
		"(x - 1)": term(impl.XBin, "-", x, one), "(x-1)": term(impl.XBin, "-", x, one), "(x - -1)": term(impl.XBin, "-", x, neg(one)), "(x---1)": term(impl.XBin, "-", x, neg(neg(one))), "(-x - 1)": term(impl.XBin, "-", neg(x), one), "-(-x--1)": neg(term(impl.XBin, "-", neg(x), neg(one))), "(!x != !1)": term(impl.XBin, "!=", xNot(x), xNot(one)), "(x != !1)": term(impl.XBin, "!=", x, xNot(one)), "(!x == x)": term(impl.XBin, "==", xNot(x), x), "(-x in t)": term(impl.XIn, "t", neg(x)), "(!x ~ /a/)": xMatch("a", xNot(x)),
	} {
		wantReadExpr(t, s, want)
		wantReadProg(t, s+"{}", rules(pWhen(want)))
		wantReadBlock(t, "{x="+s+";}", sSet("x", want))
	}
	for _, s := range []string{"-", "!", "--", "!!", "-!", "1-", "x-", "x!", "1-1", "x - 1", "x !x", "(x !x)", "(x ! x)", "(x - )", "(- x 1)", "(-)", "(!)", "(-x)", "(!x)", "(-1)", "!=x", "!= x", "(x !!= 1)", "(x ! = 1)", "(x = = 1)", "(x !== 1)", "(x -= 1)", "-(x)", "!(x)", "-()", "--()", "+1", "+x", "(+1 + x)", "(x + +1)", "- -", "-,", "!;", "-in", "!print", "-2147483648", "- 2147483648", "-01", "-t[-]", "$-", "$", "$$", "$!", "$(1)", "$[1]", "-[1]"} {
		wantNoTerm(t, s)
	}
}

func callText(name string, count int) string {
	return name + "(" + strings.Join(slices.Repeat([]string{"x"}, count), ", ") + ")"
}

// Each function of the language takes just as many as it has.
func TestHowManyArgumentsTheFunctionsOfTheLanguageTake(t *testing.T) {
	for name, z := range map[string]struct{ k, count int }{"length": {impl.XLen, 1}, "substr": {impl.XSub, 3}, "index": {impl.XIdx, 2}, "upper": {impl.XUp, 1}} {
		for count := range 8 {
			if s := callText(name, count); count == z.count {
				wantReadExpr(t, s, term(z.k, "", xs(count)...))
			} else {
				wantNoTerm(t, s)
			}
		}
		wantNoTerm(t, name)
		wantNoTerm(t, name+" x")
		wantNoTerm(t, name+"[x]")
		wantNoTerm(t, name+strings.Repeat("(x)", 2))
		wantNoStatements(t, callText(name, z.count)+";")
		wantNoStatements(t, name+" = 1;")
		wantNoStatements(t, name+"[x] = 1;")
	}
	for count := range 5 {
		wantNoTerm(t, callText("gsub", count))
		wantNoTerm(t, callText("nr", count))
		wantNoTerm(t, callText("nf", count))
	}
	for _, s := range []string{"nr[x]", "nf[1]", "nr nf", "nr 1", "nf x", "(nr)", "nr(", "nf)"} {
		wantNoTerm(t, s)
	}
	for _, s := range []string{"nr = 1;", "nf = 1;", "nr;", "nf();", "delete nr;", "delete nr[x];", "for (nr in t) { }", "for (x in nf) { }", "nr[1] = 2;"} {
		wantNoStatements(t, s)
	}
	wantReadBlock(t, "{ $nr = nf; $nf = nr; print nr, nf; }", stmt(impl.SField, "", impl.Expr{K: impl.XNr}, impl.Expr{K: impl.XNf}), stmt(impl.SField, "", impl.Expr{K: impl.XNf}, impl.Expr{K: impl.XNr}), sPrint(impl.Expr{K: impl.XNr}, impl.Expr{K: impl.XNf}))
}

func TestACommaTooManyOrTooFew(t *testing.T) {
	for _, s := range []string{"f(,)", "f(1,)", "f(,1)", "f(1,,2)", "f(1 2)", "f(1, 2,)", "f(, 1, 2)", "f(1, 2 3)", "f(1; 2)", "f(1, 2, 3, 4,)", "f(1 2 3 4)", "f,(1)", "f(1),", ",f(1)", "length(x,)", "length(,x)", "substr(x, 1 2)", "substr(x 1, 2)", "substr(x,, 1, 2)", "substr(x, 1, 2,)", "substr(,x, 1, 2)", "index(x y)", "index(x,, y)", "index(x, y,)", "upper(x,)", "upper(,)", "gsub(x ~ /a/ y)", "gsub(x ~ /a/,, y)", "gsub(x, ~ /a/, y)", "gsub(x ~, /a/, y)", "gsub(x ~ /a/, y,)", "gsub(,x ~ /a/, y)", "t[1,]", "t[,1]", "t[1, 2]", "$,1", "!,x", "(x, + 1)", "(x +, 1)", "(x + 1,)", "(, x + 1)", "(x in, t)", "(x, in t)", "(x in t,)", "(1, 2)", ",", "x,", ",x", "1, 2", "x, y"} {
		wantNoTerm(t, s+";")
		wantNoReadExpr(t, s)
	}
	for _, s := range []string{"print ,;", "print x,;", "print ,x;", "print x,, y;", "print x y;", "print x, y,;", "print x; y;", "print x, 1 'a';", "print 1 2 3 4 5;", "x = 1,;", "x = ,1;", "x, = 1;", "x = 1, 2;", "x, y = 1;", "t[x,] = 1;", "$1, = 2;", "$1 = 2,;", "if (x,) { }", "if (, x) { }", "if (x), { }", "if (x) { }, else { next; }", "if (x) { next; } else, { next; }", "while (x,) { }", "for (x, in t) { }", "for (x in t,) { }", "for (x in, t) { }", "for (x, y in t) { }", "for (x in t, u) { }", "next,;", "next;,", ",next;", "next, next;", "exit x,;", "exit ,x;", "exit x, y;", "return 1,;", "return 1, 2;", "delete t[x],;", "delete t[x, y];", "delete t[x], t[y];", "f(),;", "f(), g();", "f(x,);", "f(x y);", "f(x),;"} {
		wantNoStatements(t, s)
	}
	for _, s := range []string{"func f(,) { }", "func f(a,) { }", "func f(,a) { }", "func f(a,, b) { }", "func f(a b) { }", "func f(a, b,) { }", "func f(a, b c) { }", "func f(a; b) { }", "func f(a), { }", "func f,(a) { }", "func f(a) { },", ", func f(a) { }", "func f, g() { }", "func f() { }, func g() { }", "begin, { }", "begin { }, end { }", "{ }, { }", "x, { }", "x, y { }", "{ },", "{ , }"} {
		wantNoReadProg(t, s)
	}
}

func TestASemicolonTooManyOrTooFew(t *testing.T) {
	for _, s := range []string{";", ";;", "next", "next;;", ";next;", "next next;", "x = 1", "x = 1;;", "x = 1 y = 2;", "print x", "print x print y;", "print;", "print ;x;", "print x;;", "t[x] = 1", "$1 = 2", "exit", "exit;", "exit 1", "exit 1;;", "return", "return;", "return x", "delete t[x]", "delete;", "f()", "f();;", "f(x;);", "f(;x);", "x = ;", "x ;= 1;", "x; = 1;", "if (x;) { }", "if (x) ; { }", "if (x) { };", "if (x) { next };", "if (x) { ; }", "if (x) { next; }; else { next; }", "if (x) { next; } else { next; };", "while (x) { };", "while (x;) { }", "while (x); { }", "for (x in t) { };", "for (x in t;) { }", "for (x; in t) { }", "for (;x in t) { }", "delete t[x;];", "delete; t[x];"} {
		wantNoStatements(t, s)
	}
	for _, s := range []string{";", "{ };", ";{ }", "begin; { }", "begin { };", "begin { }; end { }", "x; { }", "x { };", "func f(); { }", "func f() { };", "func f() { }; { }", "func f(a;) { }", "{ next }", "{ ; }", "{ }\n;\n{ }"} {
		wantNoReadProg(t, s)
	}
}

func TestBracketsThatNeedNotBeOrThatLackOrDoNotMeet(t *testing.T) {
	for _, s := range []string{"()", "(x)", "((x))", "((x + 1))", "(((x + 1)))", "(f(x))", "f((x))", "f((1), 2)", "f(1, (2))", "f((1, 2))", "f(())", "f()()", "f(x)(y)", "(f)(x)", "(f)()", "t[(x)]", "t[[x]]", "t[x][y]", "(t)[x]", "t[]", "t[", "t]", "t[x", "t x]", "t[x)", "t(x]", "t{x}", "[x]", "{x}", "$(x)", "$(1)", "$[x]", "-(1)", "!(x)", "(x + (1))", "((x) + 1)", "(x + 1", "x + 1)", "x + 1", "(x + 1]", "[x + 1]", "{x + 1}", "(x + 1))", "((x + 1)", "(x + 1)()", "(x + 1)[1]", "(x + 1 + 2)", "(x + (1 + 2)", "x in t", "(x in t", "x in t)", "(x in t]", "(x in (t))", "((x) in t)", "((x, y) in t)", "length((x))", "length x", "length(x", "lengthx)", "length[x]", "length{x}", "substr((x, 1, 2))", "substr(x, 1, 2", "index(x, y]", "upper(x))", "upper((x))", "gsub((x) ~ /a/, y)", "gsub(x ~ (/a/), y)", "gsub((x ~ /a/), y)", "gsub(x ~ /a/, (y))", "gsub(x ~ /a/, y", "f(", "f)", "f(x", "fx)", "(", ")", "[", "]", "{", "}", "(]", "([)]", ")(", "][", "((", "))"} {
		wantNoTerm(t, s)
	}
	for _, s := range []string{"{ }", "{ next; }", "{ { } }", "print (1);", "print (x, y);", "print(x);", "print((x + 1), (y));", "(x) = 1;", "(x = 1);", "x = (1);", "(t[x]) = 1;", "t([x]) = 1;", "t[(x)] = 1;", "t[x] = (y);", "t[1 = 2;", "t1] = 2;", "t[] = 1;", "t[1] [2] = 3;", "$(1) = 2;", "($1) = 2;", "$1 = (2);", "if x { }", "if x) { }", "if (x { }", "if ((x)) { }", "if () { }", "if [x] { }", "if (x) next;", "if (x) { next;", "if (x) next; }", "if (x) ( next; )", "if (x) [ next; ]", "if (x) { } }", "if (x) { { } }", "if (x) { next; } else next;", "if (x) { next; } else { next; ", "if (x) { next; } else { { next; } }", "if (x) { next; } else if (x) { next; }", "while x { }", "while (x { }", "while ((x)) { }", "while () { }", "while (x) next;", "while (x) ;", "while (x)", "while { }", "for x in t { }", "for (x in t { }", "for x in t) { }", "for ((x in t)) { }", "for ((x) in t) { }", "for (x in (t)) { }", "for (x in t) next;", "for (x in t)", "for () { }", "for { }", "(next);", "next();", "exit (x);", "exit(1);", "exit();", "return (x);", "return(1);", "return();", "delete (t[x]);", "delete t[(x)];", "delete t[x;", "delete t x];", "delete t(x);", "delete t[];", "delete t;", "delete {t[x]};", "(f());", "(f)();", "f((x));", "f(;", "f);", "f{};", "f[];"} {
		wantNoStatements(t, s)
	}
	for _, s := range []string{"{", "}", "{ } }", "{ { }", "{ { } }", "}{", "{ ]", "( )", "[ ]", "()", "begin", "end", "begin {", "begin }", "begin ( )", "begin next;", "begin { { } }", "begin { } }", "end { next;", "(begin) { }", "begin() { }", "(x) { }", "((x + 1)) { }", "x", "x {", "x }", "x next;", "x ( next; )", "x { } }", "func f { }", "func f) { }", "func f( { }", "func f(a { }", "func f a) { }", "func f[a] { }", "func f((a)) { }", "func (f)() { }", "func f()", "func f();", "func f() {", "func f() }", "func f() next;", "func f()() { }", "func f() { } }", "func f() { { } }", "func f() { func g() { } }"} {
		wantNoReadProg(t, s)
	}
}

// Each word in each place where a name is wanted, and some names in each place where a word is.
func TestWordsAndNames(t *testing.T) {
	for _, word := range noNames() {
		for _, s := range []string{word + "[x]", "t[" + word + "[1]]", "(x in " + word + ")"} {
			wantNoTerm(t, s)
		}
		for _, s := range []string{word + "()", word + "(x)", word + "(x, y)", word} {
			wantExprAsRead(t, s)
			wantExprAsRead(t, "f("+s+")")
		}
		for _, s := range []string{word + " = 1;", word + "[x] = 1;", "delete " + word + "[x];", "for (" + word + " in t) { }", "for (x in " + word + ") { }", word + "();", word + "(x, y);", word + ";"} {
			if word+s != "nextnext;" {
				wantNoStatements(t, s)
			}
		}
		for _, s := range []string{"func " + word + "() { }", "func f(" + word + ") { }", "func f(a, " + word + ") { }", "func f(" + word + ", a) { }", "func " + word + "(" + word + ") { }"} {
			wantNoReadProg(t, s)
		}
		wantReadExpr(t, "'"+word+"'", xText(word))
		wantReadProg(t, "'"+word+"' { print '"+word+"'; }", rules(pWhen(xText(word), sPrint(xText(word)))))
		if len(word) < 8 {
			name := word + "1"
			wantReadProg(t, "func "+name+"("+name+") { "+name+" = "+name+"["+name+"(("+name+" in "+name+"))]; }\n"+name+" { for ("+name+" in "+name+") { "+name+"(); } }", impl.Prog{
				Fns:   []impl.Fn{pFn(name+" "+name, sSet(name, term(impl.XAt, name, xCall(name, term(impl.XIn, name, xVar(name))))))},
				Rules: []impl.Rule{pWhen(xVar(name), impl.Stmt{K: impl.SFor, S: name, T: name, A: stmts(sCall(xCall(name)))})},
			})
		}
	}
	for _, name := range []string{"x", "f", "prints", "ends", "beginx", "fun", "function", "els", "elses", "in1", "of", "whil", "fore", "nexts", "exits", "returns", "del", "lengths", "sub", "ind", "up", "sub1", "nr1"} {
		for _, s := range []string{name + " x;", name + " 1, 2;", name + ";", name + " (x) { }", name + " (x in t) { }", name + " t[x];", "if (x) { next; } " + name + " { next; }", "for (x " + name + " t) { }"} {
			wantNoStatements(t, s)
		}
		for _, s := range []string{"(x " + name + " t)", name + " x", "gsub" + name + "(x ~ /a/, y)", name + "(x ~ /a/, y)"} {
			wantNoTerm(t, s)
		}
		for _, s := range []string{name + " f() { }", name + " f(a) { }", name + " begin { }", "begin " + name + " { }"} {
			wantNoReadProg(t, s)
		}
		wantReadProg(t, name+" { }", rules(pWhen(xVar(name))))
	}
	for _, s := range []string{"{ begin { } }", "{ end { } }", "{ func f() { } }", "{ x { } }", "print { x; }", "next { }", "func begin { }", "func end { }", "begin end { }", "begin begin { }", "end x { }", "begin 1 { }", "func { }", "func f { }", "func () { }", "func 1() { }", "func 'f'() { }", "func f('a') { }", "func f(1) { }", "func f(a[1]) { }", "func f($1) { }", "func f(-a) { }", "func f(a = 1) { }", "func f(()) { }", "func f(g()) { }", "func f() x { }", "func f() begin { }", "else { }", "x else { }", "in { }", "print { }", "return { }"} {
		wantNoReadProg(t, s)
	}
}

// In a text a word is just text; what stands within ' is no word and no mark.
func TestTextsAreNoWordsAndNoMarks(t *testing.T) {
	for _, s := range []string{"('x' '+' 1)", "(x '+' 1)", "(x 'in' t)", "(x in 't')", "(x '~' /a/)", "(x ~ 'a')", "f'(')", "f(1 ',' 2)", "f(1')'", "'f'(1)", "'t'[1]", "t'['1']'", "'$'1", "'-'1", "'!'x", "'length'(x)", "'nr'(1)", "'('x + 1')'", "gsub(x ~ 'a', y)", "gsub(x '~' /a/, y)"} {
		wantNoTerm(t, s)
	}
	for _, s := range []string{"'print' x;", "'next';", "next';'", "x '=' 1;", "'x' = 1;", "'f'();", "'if' (x) { }", "if '(' x ) { }", "if (x) '{' }", "if (x) { '}'", "if (x) { next; } 'else' { next; }", "for ('x' in t) { }", "for (x 'in' t) { }", "for (x in 't') { }", "'for' (x in t) { }", "'while' (x) { }", "'exit' 1;", "'return' 1;", "'delete' t[x];", "delete 't'[x];", "delete t'['x];", "print x ',' y;"} {
		wantNoStatements(t, s)
	}
	for _, s := range []string{"'func' f() { }", "func 'f'() { }", "func f('a') { }", "func f'(') { }", "func f(a ',' b) { }", "'{' }", "{ '}'", "begin '{' }"} {
		wantNoReadProg(t, s)
	}
	wantReadProg(t, "'begin' { } 'end' { } 'func' { } '{' { }", rules(pWhen(xText("begin")), pWhen(xText("end")), pWhen(xText("func")), pWhen(xText("{"))))
}

// Whether a name is used as one thing is another chapter's matter.
func TestANameMayBeSeveralThings(t *testing.T) {
	x := xVar("x")
	wantReadExpr(t, "x(x, x[x], (x in x))", xCall("x", x, term(impl.XAt, "x", x), term(impl.XIn, "x", x)))
	wantReadProg(t, "func x(x) { x = x[x]; x[x] = x(x); x(x); delete x[x]; for (x in x) { print x; } }\nx { print x, x[x], x(); }", impl.Prog{
		Fns:   []impl.Fn{pFn("x x", sSet("x", term(impl.XAt, "x", x)), stmt(impl.SPut, "x", x, xCall("x", x)), sCall(xCall("x", x)), stmt(impl.SDel, "x", x), impl.Stmt{K: impl.SFor, S: "x", T: "x", A: stmts(sPrint(x))})},
		Rules: []impl.Rule{pWhen(x, sPrint(x, term(impl.XAt, "x", x), xCall("x")))},
	})
	wantReadProg(t, "begin { next; return 1; f(1, 2, 3, 4); }", rules(pRule(impl.PBegin, sNext(), stmt(impl.SReturn, "", xInt(1)), sCall(xCall("f", xInt(1), xInt(2), xInt(3), xInt(4))))))
}

func TestElse(t *testing.T) {
	next := stmts(sNext())
	wantReadBlock(t, "{ if (x) { } }", sIf(nil, nil))
	wantReadBlock(t, "{ if (x) { } else { next; } }", sIf(nil, next))
	wantReadBlock(t, "{ if (x) { if (x) { } } else { next; } }", sIf(stmts(sIf(nil, nil)), next))
	wantReadBlock(t, "{ if (x) { if (x) { } else { next; } } }", sIf(stmts(sIf(nil, next)), nil))
	wantReadBlock(t, "{ if (x) { } else { if (x) { } else { next; } } }", sIf(nil, stmts(sIf(nil, next))))
	wantReadBlock(t, "{ if (x) { } if (x) { } else { next; } }", sIf(nil, nil), sIf(nil, next))
	for _, s := range []string{"if (x) { } else { }", "if (x) { next; } else { }", "if (x) { } else {\n# next;\n}", "if (x) { if (x) { } else { } }", "if (x) { } else { if (x) { } else { } }", "else { next; }", "else", "next; else { next; }", "while (x) { } else { next; }", "for (x in t) { } else { next; }", "if (x) { } else { next; } else { next; }", "if (x) { } else else { next; }", "if (x) else { next; }", "if else { next; }", "if (x) { } else (x) { next; }", "if (x) { } else next;", "if (x) { } else", "if (x) { else { next; } }", "if (x) { } elseif (x) { next; }"} {
		wantNoStatements(t, s)
	}
}

// What is set is a variable, an entry or a field; what is done of itself is a call.
func TestWhatIsSetAndWhatIsDone(t *testing.T) {
	for _, row := range exprRows() {
		set := map[int]int{impl.XVar: impl.SSet, impl.XAt: impl.SPut, impl.XField: impl.SField}
		if k, ok := set[row.e.K]; ok {
			wantReadBlock(t, "{ "+row.text+" = 1; }", impl.Stmt{K: k, S: row.e.S, X: append(slices.Clone(row.e.L), xInt(1))})
		} else {
			wantNoStatements(t, row.text+" = 1;")
		}
		if row.e.K == impl.XCall {
			wantReadBlock(t, "{ "+row.text+"; }", sCall(row.e))
		} else {
			wantNoStatements(t, row.text+";")
		}
		if row.e.K == impl.XAt {
			wantReadBlock(t, "{ delete "+row.text+"; }", impl.Stmt{K: impl.SDel, S: row.e.S, X: row.e.L})
		} else {
			wantNoStatements(t, "delete "+row.text+";")
		}
		wantNoStatements(t, row.text+" == 1;")
		wantNoStatements(t, row.text)
	}
	for _, s := range []string{"= 1;", "x = ;", "x == 1;", "x = = 1;", "x = y = 1;", "x + 1;", "x;", "x 1;", "1 = x;", "5 = x;", "'a' = x;", "-x = 1;", "!x = 1;", "$ = 1;", "$1;", "$1 2;", "t[x];", "t = [x];", "t[x] 1;", "t[x] == 1;", "x += 1;", "x -= 1;", "x = 1 + 2;", "x = print 1;", "print = 1;", "print x = 1;", "exit x = 1;", "return x = 1;", "f() = 1;", "f() g();", "f();1;", "x = f(;", "next 1;", "next x;", "exit 1 2;", "return 1 2;", "delete x;", "delete $1;", "delete 1;", "delete t[x] = 1;", "delete delete t[x];", "delete -t[x];", "for (x) { }", "for (x t) { }", "for (in t) { }", "for (x in) { }", "for (in) { }", "for (1 in t) { }", "for (x in 1) { }", "for ($1 in t) { }", "for (t[x] in t) { }", "for (x in t[x]) { }", "for (x of t) { }", "for (x = 1) { }", "while (x = 1) { }", "if (x = 1) { }", "if (x == 1) { }"} {
		wantNoStatements(t, s)
	}
}

// ProgText has functions first, so no other order is read.
func TestFunctionsStandAheadOfRules(t *testing.T) {
	parts := map[byte]string{'f': "func f() { }", 'g': "func g(a) { next; }", 'b': "begin { }", 'e': "end { next; }", 'a': "{ }", 'w': "x { }"}
	for _, order := range shortTexts("fgbeaw", 5) {
		var texts []string
		for i := range len(order) {
			texts = append(texts, parts[order[i]])
		}
		s := strings.Join(texts, "\n")
		rulesFrom := strings.LastIndexAny(order, "fg") + 1
		fnsOnly := !strings.ContainsAny(order[:rulesFrom], "beaw")
		if fnsOnly && strings.Count(order, "f") < 2 && strings.Count(order, "g") < 2 {
			wantProgramOfOrder(t, s, order[:rulesFrom], order[rulesFrom:])
		} else {
			wantNoReadProg(t, s)
		}
	}
}

func wantProgramOfOrder(t *testing.T, s, fnOrder, ruleOrder string) {
	t.Helper()
	p := impl.Prog{}
	for i := range len(fnOrder) {
		p.Fns = append(p.Fns, map[byte]impl.Fn{'f': pFn("f"), 'g': pFn("g a", sNext())}[fnOrder[i]])
	}
	for i := range len(ruleOrder) {
		p.Rules = append(p.Rules, map[byte]impl.Rule{'b': pRule(impl.PBegin), 'e': pRule(impl.PEnd, sNext()), 'a': pRule(impl.PAlways), 'w': pWhen(xVar("x"))}[ruleOrder[i]])
	}
	wantReadProg(t, s, p)
}

func TestNamesThatStandTwice(t *testing.T) {
	for count := 1; count <= 6; count++ {
		for at := range count {
			for other := range at {
				l := namedFns(count)
				wantReadProg(t, toldProgText(fns(l...)), fns(l...))
				l[at].Name = l[other].Name
				wantNoReadProg(t, toldProgText(fns(l...)))
				l[at].Params, l[at].A = []string{"a"}, stmts(sNext())
				wantNoReadProg(t, toldProgText(fns(l...))+"{ }")
			}
		}
	}
	for count := 2; count <= 4; count++ {
		for at := range count {
			for other := range at {
				l := []string{"a", "b", "c", "d"}[:count]
				l[at] = l[other]
				wantNoReadProg(t, toldProgText(fns(impl.Fn{Name: "f", Params: l})))
				wantNoReadProg(t, toldProgText(fns(pFn("g a"), impl.Fn{Name: "f", Params: l}))+"x { }")
				l[at] += strconv.Itoa(at)
				wantReadProg(t, toldProgText(fns(impl.Fn{Name: "f", Params: l})), fns(impl.Fn{Name: "f", Params: l}))
			}
		}
	}
	wantReadProg(t, "func f(f, g) { } func g(f, g) { }", fns(pFn("f f g"), pFn("g f g")))
}
