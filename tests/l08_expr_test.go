package tests

import (
	"math"
	"regexp"
	"slices"
	"strconv"
	"strings"
	"testing"
	"time"

	"loop.example/g00288/impl"
)

func xInt(n int) impl.Expr { return impl.Expr{K: impl.XInt, N: n} }

func xText(s string) impl.Expr { return impl.Expr{K: impl.XText, S: s} }

func xVar(s string) impl.Expr { return impl.Expr{K: impl.XVar, S: s} }

func xNot(l ...impl.Expr) impl.Expr { return impl.Expr{K: impl.XNot, L: l} }

func xCall(s string, l ...impl.Expr) impl.Expr { return impl.Expr{K: impl.XCall, S: s, L: l} }

func xMatch(s string, l ...impl.Expr) impl.Expr { return impl.Expr{K: impl.XMatch, S: s, L: l} }

func term(k int, s string, l ...impl.Expr) impl.Expr { return impl.Expr{K: k, S: s, L: l} }

// What S is, of a kind.
const (
	sNone = iota
	sText
	sName
	sSign
	sRex
)

// An exprKind is what the chapter says of a kind: of its text %S is S, %1 to %3 the parts, %* all of them.
type exprKind struct {
	k, least, most, s int
	form              string
}

func exprKinds() []exprKind {
	return []exprKind{
		{impl.XInt, 0, 0, sNone, ""},
		{impl.XText, 0, 0, sText, "'%S'"},
		{impl.XVar, 0, 0, sName, "%S"},
		{impl.XAt, 1, 1, sName, "%S[%1]"},
		{impl.XField, 1, 1, sNone, "$%1"},
		{impl.XBin, 2, 2, sSign, "(%1 %S %2)"},
		{impl.XNot, 1, 1, sNone, "!%1"},
		{impl.XNeg, 1, 1, sNone, "-%1"},
		{impl.XIn, 1, 1, sName, "(%1 in %S)"},
		{impl.XMatch, 1, 1, sRex, "(%1 ~ /%S/)"},
		{impl.XCall, 0, 4, sName, "%S(%*)"},
		{impl.XLen, 1, 1, sNone, "length(%1)"},
		{impl.XSub, 3, 3, sNone, "substr(%1, %2, %3)"},
		{impl.XNr, 0, 0, sNone, "nr"},
		{impl.XNf, 0, 0, sNone, "nf"},
		{impl.XIdx, 2, 2, sNone, "index(%1, %2)"},
		{impl.XUp, 1, 1, sNone, "upper(%1)"},
		{impl.XGsub, 2, 2, sRex, "gsub(%1 ~ /%S/, %2)"},
	}
}

func kindsWithParts() []exprKind {
	return slices.DeleteFunc(exprKinds(), func(z exprKind) bool { return z.most == 0 })
}

func (z exprKind) of(l ...impl.Expr) impl.Expr {
	return impl.Expr{K: z.k, S: [...]string{"", "a b", "t", "+", "(a|b)*c"}[z.s], L: l}
}

// xs is a list of so many variables.
func xs(count int) []impl.Expr { return slices.Repeat([]impl.Expr{xVar("x")}, count) }

// holding is one of a kind that has the part at this place, and x at each other.
func (z exprKind) holding(part impl.Expr, at int) impl.Expr {
	l := xs(z.most)
	l[at] = part
	return z.of(l...)
}

func noNames() []string {
	return []string{"begin", "end", "func", "print", "if", "else", "while", "for", "in", "next", "exit", "return", "delete", "length", "substr", "index", "upper", "gsub", "nr", "nf"}
}

func signsOfTwo() []string {
	return []string{"+", "-", "*", "/", "%", ".", "<", "<=", "==", "!=", ">", ">=", "&&", "||"}
}

var (
	toldWholeName = regexp.MustCompile(`^[a-z][a-z0-9]{0,7}$`)
	toldWholeText = regexp.MustCompile(`^(?:[ -&(-~]{0,200})$`)
)

func toldNameOk(s string) bool {
	return !strings.HasSuffix(s, "\n") && toldWholeName.MatchString(s) && !slices.Contains(noNames(), s)
}

func toldSOk(what int, s string) bool {
	switch what {
	case sText:
		return !strings.HasSuffix(s, "\n") && toldWholeText.MatchString(s)
	case sName:
		return toldNameOk(s)
	case sSign:
		return slices.Contains(signsOfTwo(), s)
	case sRex:
		r, ok := impl.ParseRex(s)
		return ok && len(s) <= 200 && impl.RexText(r) == s
	}
	return s == ""
}

func toldNodeOk(e impl.Expr) bool {
	for _, z := range exprKinds() {
		if e.K == z.k {
			numberOk := e.N == 0 || e.K == impl.XInt && e.N > 0 && e.N <= 2147483647
			return numberOk && toldSOk(z.s, e.S) && len(e.L) >= z.least && len(e.L) <= z.most
		}
	}
	return false
}

func toldDepth(e impl.Expr) int {
	depth := 0
	for _, part := range e.L {
		depth = max(depth, toldDepth(part))
	}
	return depth + 1
}

func toldParts(e impl.Expr) int {
	count := 1
	for _, part := range e.L {
		count += toldParts(part)
	}
	return count
}

func toldAllOk(e impl.Expr) bool {
	return toldNodeOk(e) && !slices.ContainsFunc(e.L, func(part impl.Expr) bool { return !toldAllOk(part) })
}

// toldExprOk is for terms that do not hold themselves.
func toldExprOk(e impl.Expr) bool { return toldDepth(e) <= 10 && toldParts(e) <= 100 && toldAllOk(e) }

// toldExprText is the text of what is right, by the forms that stand above.
func toldExprText(e impl.Expr) string {
	if e.K == impl.XInt {
		return strconv.Itoa(e.N)
	}
	var texts []string
	for _, part := range e.L {
		texts = append(texts, toldExprText(part))
	}
	pairs := []string{"%S", e.S, "%*", strings.Join(texts, ", ")}
	for i, s := range texts {
		pairs = append(pairs, "%"+strconv.Itoa(i+1), s)
	}
	return strings.NewReplacer(pairs...).Replace(exprKinds()[e.K-1].form)
}

func wantExpr(t *testing.T, e impl.Expr, want string) {
	t.Helper()
	if !impl.ExprOk(e) {
		t.Errorf("ExprOk of %s = false", shortened(want))
	}
	if got := impl.ExprText(e); got != want {
		t.Errorf("ExprText = %q, want %q", shortened(got), shortened(want))
	}
}

func wantNoExpr(t *testing.T, name string, e impl.Expr) {
	t.Helper()
	if impl.ExprOk(e) {
		t.Errorf("%s: ExprOk of the kind %d is true", name, e.K)
	}
	if got := impl.ExprText(e); got != "" {
		t.Errorf("%s: ExprText of the kind %d is %q", name, e.K, shortened(got))
	}
}

func wantExprAsTold(t *testing.T, name string, e impl.Expr) {
	t.Helper()
	if toldExprOk(e) {
		wantExpr(t, e, toldExprText(e))
	} else {
		wantNoExpr(t, name, e)
	}
}

func TestTheKindsOfTerms(t *testing.T) {
	for i, k := range []int{impl.XInt, impl.XText, impl.XVar, impl.XAt, impl.XField, impl.XBin, impl.XNot, impl.XNeg, impl.XIn, impl.XMatch, impl.XCall, impl.XLen, impl.XSub, impl.XNr, impl.XNf, impl.XIdx, impl.XUp, impl.XGsub} {
		if k != i+1 || exprKinds()[i].k != k {
			t.Errorf("the kind %d is %d", i+1, k)
		}
	}
}

func TestNameOk(t *testing.T) {
	for _, s := range []string{"a", "z", "m", "x", "ab", "a1", "z9", "a0", "x1y2", "abcdefgh", "zzzzzzzz", "a1234567", "a0000000", "prints", "ends", "end1", "ins", "in2", "nrs", "nr1", "nfx", "iff", "elses", "nextx", "whiles", "forx", "begins", "begin1", "func1", "exits", "return1", "returns", "deletes", "delete1", "lengths", "substr1", "indexes", "uppers", "gsubs", "sub", "not", "match", "ni", "fn", "rn", "b", "pri", "retur", "n", "i", "e", "f", "main", "true", "ninelett"} {
		if !impl.NameOk(s) {
			t.Errorf("NameOk(%q) = false", s)
		}
	}
	for _, s := range []string{"", "A", "Z", "aB", "Ab", "abC", "X", "NR", "Print", "1", "0", "1a", "9z", "12", "_", "a_b", "_a", "a_", " ", " a", "a ", "a b", "a\n", "\na", "a\t", "a-b", "a.b", "$a", "a'", "'a'", "\x00", "a\x00", "\x7f", "\x80", "\xff", "a\x80", "a\xff", "é", "aé", "ä", "\u0430", "a\u0430", brokenText, "ninelette", "abcdefghi", "a12345678", "zzzzzzzzz", "returning", "beginning", "abcdefgh ", "abcdefgh\x00", strings.Repeat("a", 100), strings.Repeat("a", 1000000), strings.Repeat("print", 100000)} {
		if impl.NameOk(s) {
			t.Errorf("NameOk(%q) = true", shortened(s))
		}
	}
}

// A word is no name; what it is the beginning of, or begins with, is.
func TestTheWordsThatAreNoName(t *testing.T) {
	for _, word := range noNames() {
		if impl.NameOk(word) {
			t.Errorf("NameOk(%q) = true", word)
		}
		near := []string{strings.ToUpper(word), strings.ToUpper(word[:1]) + word[1:], word + " ", " " + word, word + "\x00", word + "\n"}
		for i := range word {
			near = append(near, word[:i], word[i:], word[:i]+word[i+1:])
		}
		for c := byte(0); c < 128; c++ {
			near = append(near, word+string(rune(c)), string(rune(c))+word, word[:len(word)-1]+string(rune(c)))
		}
		for _, s := range near {
			if got := impl.NameOk(s); got != toldNameOk(s) {
				t.Errorf("NameOk(%q) = %v", s, got)
			}
		}
		for _, other := range noNames() {
			if got := impl.NameOk(word + other); got != toldNameOk(word+other) {
				t.Errorf("NameOk(%q) = %v", word+other, got)
			}
		}
	}
}

func TestNamesAreRightAsTold(t *testing.T) {
	texts := append(shortTexts("az09A_ ", 4), someTexts()...)
	texts = append(texts, bytesOfAllKinds()...)
	texts = append(texts, shortTexts("inrf", 5)...)
	for c := range 256 {
		b := string([]byte{byte(c)})
		texts = append(texts, b, "a"+b, b+"a", "a"+b+"a", "abcdefg"+b, "abcdefgh"+b, b+"abcdefg")
	}
	for size := range 20 {
		texts = append(texts, strings.Repeat("a", size), strings.Repeat("7", size), "a"+strings.Repeat("7", size))
	}
	for _, s := range texts {
		if got := impl.NameOk(s); got != toldNameOk(s) {
			t.Errorf("NameOk(%q) = %v", s, got)
		}
	}
}

// exprRow is a term and its text, both written out by hand.
type exprRow struct {
	text string
	e    impl.Expr
}

func exprRows() []exprRow {
	x, y, one := xVar("x"), xVar("y"), xInt(1)
	return []exprRow{
		{"0", xInt(0)}, {"1", one}, {"10", xInt(10)}, {"2147483647", xInt(2147483647)},
		{"''", xText("")}, {"'a b'", xText("a b")}, {"'/#~\"\\'", xText("/#~\"\\")}, {"' '", xText(" ")}, {"'print'", xText("print")},
		{"x", x}, {"abcdefgh", xVar("abcdefgh")}, {"prints", xVar("prints")}, {"nr1", xVar("nr1")},
		{"t[x]", term(impl.XAt, "t", x)}, {"t['a']", term(impl.XAt, "t", xText("a"))}, {"t[u[1]]", term(impl.XAt, "t", term(impl.XAt, "u", one))},
		{"$1", term(impl.XField, "", one)}, {"$$1", term(impl.XField, "", term(impl.XField, "", one))}, {"$-1", term(impl.XField, "", term(impl.XNeg, "", one))}, {"$(x + 1)", term(impl.XField, "", term(impl.XBin, "+", x, one))},
		{"(x + 1)", term(impl.XBin, "+", x, one)}, {"(1 <= x)", term(impl.XBin, "<=", one, x)}, {"((x - y) - 1)", term(impl.XBin, "-", term(impl.XBin, "-", x, y), one)}, {"(x - (y - 1))", term(impl.XBin, "-", x, term(impl.XBin, "-", y, one))}, {"('a' . '')", term(impl.XBin, ".", xText("a"), xText(""))}, {"((x && y) || !x)", term(impl.XBin, "||", term(impl.XBin, "&&", x, y), xNot(x))},
		{"!x", xNot(x)}, {"!!x", xNot(xNot(x))}, {"!-x", xNot(term(impl.XNeg, "", x))}, {"!(x == y)", xNot(term(impl.XBin, "==", x, y))},
		{"-x", term(impl.XNeg, "", x)}, {"--1", term(impl.XNeg, "", term(impl.XNeg, "", one))}, {"-0", term(impl.XNeg, "", xInt(0))}, {"-$1", term(impl.XNeg, "", term(impl.XField, "", one))},
		{"(x in t)", term(impl.XIn, "t", x)}, {"((x in t) in u)", term(impl.XIn, "u", term(impl.XIn, "t", x))}, {"('a b' in t)", term(impl.XIn, "t", xText("a b"))},
		{"(x ~ /a+/)", xMatch("a+", x)}, {"($1 ~ /^(a|b)*[ _]$/)", xMatch("^(a|b)*[ _]$", term(impl.XField, "", one))}, {"((x ~ /()/) ~ /./)", xMatch(".", xMatch("()", x))},
		{"f()", xCall("f")}, {"f(1)", xCall("f", one)}, {"f(1, x)", xCall("f", one, x)}, {"f(1, x, 'a, b')", xCall("f", one, x, xText("a, b"))}, {"f(1, x, y, 1)", xCall("f", one, x, y, one)}, {"f(g(), h(x))", xCall("f", xCall("g"), xCall("h", x))},
		{"length(x)", term(impl.XLen, "", x)}, {"length(length('a'))", term(impl.XLen, "", term(impl.XLen, "", xText("a")))},
		{"substr(x, 1, 2)", term(impl.XSub, "", x, one, xInt(2))}, {"substr($1, -1, length(x))", term(impl.XSub, "", term(impl.XField, "", one), term(impl.XNeg, "", one), term(impl.XLen, "", x))},
		{"nr", impl.Expr{K: impl.XNr}}, {"nf", impl.Expr{K: impl.XNf}}, {"$nf", term(impl.XField, "", impl.Expr{K: impl.XNf})}, {"(nr % 2)", term(impl.XBin, "%", impl.Expr{K: impl.XNr}, xInt(2))},
		{"index(x, y)", term(impl.XIdx, "", x, y)}, {"index('a b', ' ')", term(impl.XIdx, "", xText("a b"), xText(" "))},
		{"upper(x)", term(impl.XUp, "", x)}, {"upper(upper(x))", term(impl.XUp, "", term(impl.XUp, "", x))},
		{"gsub(x ~ /a/, 'b')", term(impl.XGsub, "a", x, xText("b"))}, {"gsub(gsub(x ~ /a/, y) ~ /b|c/, '')", term(impl.XGsub, "b|c", term(impl.XGsub, "a", x, y), xText(""))}, {"gsub((x ~ /a/) ~ /b/, (y ~ /c/))", term(impl.XGsub, "b", xMatch("a", x), xMatch("c", y))},
	}
}

func TestTermsAndTheirTexts(t *testing.T) {
	for _, row := range exprRows() {
		wantExpr(t, row.e, row.text)
		wantExprAsTold(t, row.text, row.e)
	}
}

// Each two of the rows have another text, so no two terms have the same.
func TestNoTwoTermsHaveOneText(t *testing.T) {
	seen := map[string]int{}
	for i, row := range exprRows() {
		if other, ok := seen[row.text]; ok {
			t.Errorf("the rows %d and %d have the text %q", other, i, row.text)
		}
		seen[row.text] = i
	}
}

func TestEachKindWithWhatItDoesNotName(t *testing.T) {
	for _, z := range exprKinds() {
		for count := range 12 {
			e := z.of(xs(count)...)
			if count < z.least || count > z.most {
				wantNoExpr(t, "parts", e)
				continue
			}
			wantExpr(t, e, toldExprText(e))
			for _, n := range []int{1, -1, 7, 2147483647, 2147483648, 4294967296, -2147483648, math.MaxInt, math.MinInt} {
				wrong := e
				wrong.N = n
				if z.k != impl.XInt {
					wantNoExpr(t, "a number", wrong)
				}
			}
			for _, s := range []string{"x", "0", " ", "+", "a+", "\x00", "\xff", "length", "nr"} {
				wrong := e
				wrong.S = s
				if z.s == sNone {
					wantNoExpr(t, "a text", wrong)
				}
			}
		}
	}
}

func TestKindsThatAreNone(t *testing.T) {
	for _, k := range []int{0, -1, -2, -18, 19, 20, 21, 100, 255, 256, 257, 274, 65537, 4294967296, 4294967297, 4294967314, math.MaxInt, math.MinInt} {
		for count := range 6 {
			for _, s := range []string{"", "a", "x", "+", "a b"} {
				wantNoExpr(t, "no kind", impl.Expr{K: k, S: s, L: xs(count)})
				wantNoExpr(t, "no kind", impl.Expr{K: k, N: 1, S: s, L: xs(count)})
			}
		}
	}
	wantNoExpr(t, "the zero one", impl.Expr{})
}

func TestNumbersOfTerms(t *testing.T) {
	for _, n := range []int{0, 1, 9, 10, 127, 128, 65535, 2147483646, 2147483647} {
		wantExpr(t, xInt(n), strconv.Itoa(n))
		wantExpr(t, xNot(xInt(n)), "!"+strconv.Itoa(n))
	}
	for _, n := range []int{-1, -2, -2147483648, -2147483649, 2147483648, 2147483649, 4294967295, 4294967296, 4294967297, -4294967295, math.MaxInt, math.MinInt} {
		wantNoExpr(t, "a number", xInt(n))
		wantNoExpr(t, "a number within", xNot(xInt(n)))
	}
	for _, n := range append(edges(), someNumbers()...) {
		wantExprAsTold(t, "a number", xInt(n))
	}
	for _, s := range []string{"0", "1", "a", " ", "\x00"} {
		wantNoExpr(t, "a number with a text", impl.Expr{K: impl.XInt, N: 1, S: s})
		wantNoExpr(t, "nought with a text", impl.Expr{K: impl.XInt, S: s})
	}
	wantNoExpr(t, "a number with a part", impl.Expr{K: impl.XInt, N: 1, L: xs(1)})
}

func TestTextsOfTerms(t *testing.T) {
	for _, s := range []string{"", " ", "a", "a b", "/", "//", "#", "~", "~ /a/", "\"", "\\", "`", "&", "A", "01", "%", "%S", "%1", "!\"#$%&()*+,-./09:;<=>?@AZ[\\]^_`az{|}~", strings.Repeat("a", impl.MaxText-1), strings.Repeat("a", impl.MaxText), strings.Repeat(" ", impl.MaxText), strings.Repeat("~", impl.MaxText)} {
		wantExpr(t, xText(s), "'"+s+"'")
		wantExpr(t, term(impl.XLen, "", xText(s)), "length('"+s+"')")
	}
	for _, s := range []string{"'", "a'", "'a", "a'b", "''", "\n", "a\n", "\ta", "\r", "\x00", "a\x00b", "\x1f", "\x7f", "\x80", "\xff", "é", "aé", brokenText, strings.Repeat("a", impl.MaxText+1), strings.Repeat("a", impl.MaxText-1) + "'", strings.Repeat("a", impl.MaxText-1) + "\x1f", strings.Repeat("a", impl.MaxText) + "\n", strings.Repeat("a", 256), strings.Repeat("a", 1000000)} {
		wantNoExpr(t, "a text", xText(s))
		wantNoExpr(t, "a text within", term(impl.XLen, "", xText(s)))
	}
	for c := range 256 {
		b := string([]byte{byte(c)})
		for _, s := range []string{b, "a" + b, b + "a", "a" + b + "a", strings.Repeat("a", impl.MaxText-1) + b, strings.Repeat("a", impl.MaxText) + b} {
			wantExprAsTold(t, "a text", xText(s))
		}
	}
}

func TestNamesOfTerms(t *testing.T) {
	wrong := append(noNames(), "", "A", "X", "aB", "1", "1a", "_", "a_b", " x", "x ", "x\n", "x[", "\x00", "\x7f", "\x80", "\xff", "é", "ninelette", "a12345678", strings.Repeat("a", 1000000), "'x'", "+", "a+", "()")
	right := []string{"a", "z", "x1", "abcdefgh", "a1234567", "prints", "nrs", "i", "n", "ends"}
	for _, z := range exprKinds() {
		if z.s != sName {
			continue
		}
		for count := z.least; count <= z.most; count++ {
			for _, s := range right {
				e := term(z.k, s, xs(count)...)
				wantExpr(t, e, toldExprText(e))
				wantExpr(t, xNot(e), "!"+toldExprText(e))
			}
			for _, s := range wrong {
				wantNoExpr(t, s[:min(len(s), 9)], term(z.k, s, xs(count)...))
				wantNoExpr(t, s[:min(len(s), 9)], xNot(term(z.k, s, xs(count)...)))
			}
		}
	}
}

func TestSignsOfTerms(t *testing.T) {
	for _, s := range signsOfTwo() {
		wantExpr(t, term(impl.XBin, s, xVar("x"), xInt(1)), "(x "+s+" 1)")
		wantExpr(t, term(impl.XBin, s, xInt(1), term(impl.XBin, s, xVar("x"), xVar("y"))), "(1 "+s+" (x "+s+" y))")
	}
	wrong := append(bytesOfAllKinds(), "", "=", "!", "~", "&", "|", "<>", "=<", "=>", "=!", "**", "++", "--", "//", "..", "===", "!==", "<==", ">>", "<<", "&&&", "|||", "&|", " +", "+ ", "+\x00", "+\n", "\x00", "a", "in", "x", "1", "(", ")", "[", "]", "{", "}", ",", ";", "$", "'", "#", "^", "?", ":", "!~", "and", strings.Repeat("+", 1000000))
	for c := range 256 {
		wrong = append(wrong, string([]byte{byte(c)}), string([]byte{byte(c), '='}), string([]byte{'=', byte(c)}), string([]byte{byte(c), byte(c)}))
	}
	for _, s := range wrong {
		e := term(impl.XBin, s, xVar("x"), xInt(1))
		if slices.Contains(signsOfTwo(), s) {
			wantExpr(t, e, "(x "+s+" 1)")
		} else {
			wantNoExpr(t, "a sign", e)
			wantNoExpr(t, "a sign within", xNot(e))
		}
	}
}

// longRexText is the text of a regular expression that is RexOk, of so many bytes (195 to 201).
func longRexText(size int) string {
	row := strings.Repeat("[0123456789]", 8)
	return row + "|" + row + "|" + "abcdefgh"[:size-194]
}

func TestRegularExpressionsOfTerms(t *testing.T) {
	wantRexTerms := func(s string, right bool) {
		t.Helper()
		one, two := xMatch(s, xVar("x")), term(impl.XGsub, s, xVar("x"), xText("b"))
		if right {
			wantExpr(t, one, "(x ~ /"+s+"/)")
			wantExpr(t, two, "gsub(x ~ /"+s+"/, 'b')")
			wantExpr(t, xNot(one), "!(x ~ /"+s+"/)")
		} else {
			for _, e := range []impl.Expr{one, two, xNot(one), xNot(two)} {
				wantNoExpr(t, "the regular expression "+shortened(s), e)
			}
		}
	}
	for _, row := range rexRows() {
		wantRexTerms(row.text, true)
		wantRexTerms("("+row.text+")", false)
		wantRexTerms(row.text+"(", false)
		wantRexTerms(row.text+"/", false)
		wantRexTerms("/"+row.text, false)
		wantRexTerms("/"+row.text+"/", false)
	}
	for i := range len(rexBytes) {
		wantRexTerms(rexBytes[i:i+1], true)
	}
	for _, s := range []string{"", "(a)", "(ab)c", "((a|b))c", "(a*)b", "a**", "(a*)*", "[ba]", "[]", "[a", "a|", "|a", "a)", "(a", "*", "+", "?", "a/", "/", "\\", "'", "a'", "\n", "a\n", "\x00", "\x7f", "\xff", "é", "abcdefghi", "a|b|c|d|e|f|g|h|i", "((((((((a|b)*c)*d)*e)*f)*g)*h)*i)*", strings.Repeat("a", 200), strings.Repeat("(", 200), strings.Repeat("a", 1000000), strings.Repeat("(", 1000000)} {
		wantRexTerms(s, false)
	}
	for size := 195; size <= 202; size++ {
		s := longRexText(size)
		if _, ok := impl.ParseRex(s); !ok || len(s) != size {
			t.Errorf("%q is no regular expression of %d bytes", s, size)
		}
		wantRexTerms(s, size <= impl.MaxText)
	}
	for _, r := range someRexes() {
		s := impl.RexText(r)
		wantRexTerms(s, len(s) <= impl.MaxText)
	}
	for _, s := range shortTexts("ab|*()[]", 4) {
		_, ok := impl.ParseRex(s)
		wantRexTerms(s, ok)
	}
}

func TestCallsOfTerms(t *testing.T) {
	wantExpr(t, xCall("f"), "f()")
	wantExpr(t, xCall("f", []impl.Expr{}...), "f()")
	wantExpr(t, xCall("f", xs(1)...), "f(x)")
	wantExpr(t, xCall("f", xs(2)...), "f(x, x)")
	wantExpr(t, xCall("f", xs(3)...), "f(x, x, x)")
	wantExpr(t, xCall("f", xs(4)...), "f(x, x, x, x)")
	for _, count := range []int{5, 6, 7, 8, 20, 99, 100, 1000000} {
		wantNoExpr(t, "a call", xCall("f", xs(count)...))
		wantNoExpr(t, "a call within", xNot(xCall("f", xs(count)...)))
	}
}

// Lists that are nil and lists without elements are the same.
func TestListsWithoutElements(t *testing.T) {
	for _, z := range exprKinds() {
		if z.least > 0 {
			for _, l := range [][]impl.Expr{nil, {}, make([]impl.Expr, 0, 4), xs(3)[:0]} {
				wantNoExpr(t, "an empty list", z.of(l...))
			}
			continue
		}
		e := z.of()
		want := toldExprText(e)
		for _, l := range [][]impl.Expr{nil, {}, make([]impl.Expr, 0, 4), xs(3)[:0]} {
			e.L = l
			wantExpr(t, e, want)
			wantExpr(t, xNot(e), "!"+want)
		}
	}
}

func TestHowDeepATermMayBe(t *testing.T) {
	for _, outer := range kindsWithParts() {
		for at := range outer.most {
			e := xVar("y")
			for depth := 2; depth <= 13; depth++ {
				e = outer.holding(e, at)
				wantExprAsTold(t, "deep", e)
				if got := impl.ExprOk(e); got != (depth <= 10) {
					t.Errorf("the kind %d by its part %d, %d deep: %v", outer.k, at, depth, got)
				}
			}
		}
	}
	for _, leaf := range exprKinds() {
		e := leaf.of(xs(leaf.least)...)
		for toldDepth(e) < 10 {
			e = xNot(e)
		}
		wantExpr(t, e, toldExprText(e))
		wantNoExpr(t, "too deep", xNot(e))
		wantNoExpr(t, "too deep behind others", xCall("f", xInt(1), xVar("x"), xText(""), e))
	}
}

// exprOfParts has just so many parts, and lists of this length where there are as many.
func exprOfParts(parts int, most int) impl.Expr {
	if parts == 1 {
		return xVar("x")
	}
	rest, count := parts-1, min(most, parts-1)
	e := xCall("f")
	for i := range count {
		e.L = append(e.L, exprOfParts((rest+i)/count, most))
	}
	return e
}

func TestHowManyPartsATermMayHave(t *testing.T) {
	for parts := 1; parts <= 140; parts++ {
		for most := 2; most <= 4; most++ {
			e := exprOfParts(parts, most)
			if toldParts(e) != parts || toldDepth(e) > 10 {
				t.Fatalf("%d parts, %d deep", toldParts(e), toldDepth(e))
			}
			wantExprAsTold(t, "parts", e)
			if got := impl.ExprOk(e); got != (parts <= 100) {
				t.Errorf("%d parts: %v", parts, got)
			}
		}
	}
	for _, z := range kindsWithParts() {
		for at := range z.most {
			wantExpr(t, z.holding(exprOfParts(100-z.most, 4), at), toldExprText(z.holding(exprOfParts(100-z.most, 4), at)))
			wantNoExpr(t, "101 parts", z.holding(exprOfParts(101-z.most, 4), at))
		}
	}
	both := exprOfParts(95, 4)
	for toldDepth(both) < 10 {
		both = xNot(both)
	}
	if toldParts(both) != 100 {
		t.Errorf("%d parts, 10 deep", toldParts(both))
	}
	wantExpr(t, both, toldExprText(both))
}

// What is wrong counts wherever it stands.
func TestAPartThatIsWrong(t *testing.T) {
	for i, wrong := range wrongExprs() {
		name := "the wrong one " + strconv.Itoa(i)
		wantNoExpr(t, name, wrong)
		for _, z := range kindsWithParts() {
			for at := range z.most {
				wantNoExpr(t, name+" within", z.holding(wrong, at))
			}
		}
		e := xCall("f", xInt(1), wrong)
		for range 3 {
			e = term(impl.XBin, "+", xCall("g", xVar("y"), xText("a"), e), xVar("x"))
		}
		wantNoExpr(t, name+" far within", e)
	}
}

// wrongExprs are all not right, each for one reason.
func wrongExprs() []impl.Expr {
	l := []impl.Expr{{}, xInt(-1), xInt(2147483648), xText("a'b"), xText("\x7f"), xText(strings.Repeat("a", 201)), xVar("print"), xVar("X"), xVar(""), term(impl.XBin, "**", xs(2)...), term(impl.XBin, "", xs(2)...), term(impl.XBin, "=", xs(2)...), xMatch("a**", xs(1)...), xMatch("", xs(1)...), xMatch("(a)", xs(1)...), term(impl.XGsub, "[ba]", xs(2)...), xMatch(longRexText(201), xs(1)...), xCall("f", xs(5)...), xCall("length", xs(1)...), xCall("nr")}
	for _, z := range exprKinds() {
		right := z.of(xs(z.most)...)
		numbered, stray := right, right
		numbered.N = -1
		stray.K += 18
		l = append(l, numbered, stray, z.of(xs(z.most+1)...), z.of(make([]impl.Expr, 1)...))
		if z.least > 0 {
			l = append(l, z.of(xs(z.least-1)...))
		}
		if z.s == sNone {
			right.S = "x"
			l = append(l, right)
		}
	}
	return l
}

// Every kind stands within every kind, at each place.
func TestKindsWithinKindsHaveTheirTexts(t *testing.T) {
	for _, outer := range kindsWithParts() {
		for at := range outer.most {
			for _, row := range exprRows() {
				wantExprAsTold(t, "within", outer.holding(row.e, at))
				for _, most := range kindsWithParts() {
					wantExprAsTold(t, "within", most.holding(outer.holding(row.e, at), most.most-1))
				}
			}
		}
	}
}

func TestEachFieldIsAsked(t *testing.T) {
	texts := append(noNames(), signsOfTwo()...)
	texts = append(texts, "", "x", "A", "a1", "ninelette", "a b", "a'b", "\x00", "\xff", "=", "!", "~", "&", "a+", "(a)", "()", "[ab]", "[ba]", "a|b", "0", "7", strings.Repeat("a", 200), strings.Repeat("a", 201), longRexText(200), longRexText(201))
	for k := -2; k <= 22; k++ {
		for _, n := range []int{0, 1, -1, 2147483647, 2147483648} {
			for _, s := range texts {
				for count := range 7 {
					wantExprAsTold(t, "a field", impl.Expr{K: k, N: n, S: s, L: xs(count)})
				}
			}
		}
	}
}

// The longest text that there is, or nearly.
func TestLongTextsOfTerms(t *testing.T) {
	e := exprOfParts(100, 4)
	var fill func(e *impl.Expr)
	fill = func(e *impl.Expr) {
		if len(e.L) == 0 {
			*e = xText(strings.Repeat("a", impl.MaxText))
		}
		for i := range e.L {
			fill(&e.L[i])
		}
	}
	fill(&e)
	want := toldExprText(e)
	if len(want) < 13000 {
		t.Errorf("the text has only %d bytes", len(want))
	}
	wantExpr(t, e, want)
}

// A list may hold itself; asking must end all the same.
func TestTermsThatHoldThemselves(t *testing.T) {
	start := time.Now()
	for _, z := range kindsWithParts() {
		for at := range z.most {
			l := xs(z.most)
			e := z.of(l...)
			l[at] = e
			wantNoExpr(t, "what holds itself", e)
			wantNoExpr(t, "what holds itself within", xNot(e))
			for i := range l {
				l[i] = e
			}
			wantNoExpr(t, "what holds itself everywhere", e)
		}
	}
	one, two := xs(1), xs(2)
	one[0] = term(impl.XBin, "+", two...)
	two[0], two[1] = xNot(one...), xNot(one...)
	wantNoExpr(t, "what holds itself by another", xNot(one...))
	wantNoExpr(t, "what holds itself by another", term(impl.XIdx, "", two...))
	deep := xVar("x")
	for range 100000 {
		deep = xNot(deep)
	}
	wantNoExpr(t, "what is far too deep", deep)
	for _, z := range exprKinds() {
		wantNoExpr(t, "what is far too great", z.of(make([]impl.Expr, 1000000)...))
		wantNoExpr(t, "what is far too long", impl.Expr{K: z.k, S: strings.Repeat("a", 3000000), L: xs(z.least)})
	}
	heavy := xCall("f")
	for range 4 {
		heavy.L = append(heavy.L, xCall("g", slices.Repeat([]impl.Expr{xMatch(longRexText(200), xMatch(longRexText(200), xVar("x")))}, 4)...))
	}
	wantExpr(t, heavy, toldExprText(heavy))
	if took := time.Since(start); took > 20*time.Second {
		t.Errorf("it took %v", took)
	}
}
