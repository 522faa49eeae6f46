package tests

import (
	"math"
	"strings"
	"testing"

	"loop.example/g00288/impl"
)

const rexBytes = "abcdefghijklmnopqrstuvwxyzABCDEFGHIJKLMNOPQRSTUVWXYZ0123456789 _-,:"

// noRexKinds are kinds of which none is one, beside those that are and far from them.
var noRexKinds = []int{0, -1, -2, 12, 13, 100, 257, 4294967297, 4294967300, math.MaxInt, math.MinInt}

func lit(s string) impl.Rex { return impl.Rex{K: impl.RLit, S: s} }

func set(s string) impl.Rex { return impl.Rex{K: impl.RSet, S: s} }

func cat(l ...impl.Rex) impl.Rex { return impl.Rex{K: impl.RCat, L: l} }

func alt(l ...impl.Rex) impl.Rex { return impl.Rex{K: impl.RAlt, L: l} }

func star(l ...impl.Rex) impl.Rex { return impl.Rex{K: impl.RStar, L: l} }

func plus(l ...impl.Rex) impl.Rex { return impl.Rex{K: impl.RPlus, L: l} }

func opt(l ...impl.Rex) impl.Rex { return impl.Rex{K: impl.ROpt, L: l} }

func kind(k int) impl.Rex { return impl.Rex{K: k} }

// lits is a list of these bytes.
func lits(s string) []impl.Rex {
	var l []impl.Rex
	for i := range len(s) {
		l = append(l, lit(s[i:i+1]))
	}
	return l
}

func sameRex(a, b impl.Rex) bool {
	if a.K != b.K || a.S != b.S || len(a.L) != len(b.L) {
		return false
	}
	for i := range a.L {
		if !sameRex(a.L[i], b.L[i]) {
			return false
		}
	}
	return true
}

func copyRex(r impl.Rex) impl.Rex {
	l := r.L
	r.L = nil
	for _, part := range l {
		r.L = append(r.L, copyRex(part))
	}
	return r
}

// deepRex is just so deep: its kinds change from one to the next, and a repeat is among them.
func deepRex(depth int) impl.Rex {
	r := lit("a")
	for d := 2; d <= depth; d++ {
		switch d % 3 {
		case 0:
			r = cat(lit("b"), r)
		case 1:
			r = star(r)
		default:
			r = alt(r, lit("c"))
		}
	}
	return r
}

// wideRex has just so many parts, 50 or more, and is 4 deep at most.
func wideRex(parts int) impl.Rex {
	r := alt()
	for range 7 {
		r.L = append(r.L, cat(lits("abcdef")...))
	}
	for more := parts - 50; more > 0; more-- {
		part := &r.L[more%7].L[more/7]
		*part = plus(*part)
	}
	return r
}

// rexRow is a regular expression and its text, both written out by hand.
type rexRow struct {
	text string
	r    impl.Rex
}

func rexRows() []rexRow {
	a, b, c, ab := lit("a"), lit("b"), lit("c"), cat(lit("a"), lit("b"))
	aOrB, empty := alt(lit("a"), lit("b")), kind(impl.REmpty)
	any, begin, end := kind(impl.RAny), kind(impl.RBegin), kind(impl.REnd)
	return []rexRow{
		{"a", a}, {"Z", lit("Z")}, {"0", lit("0")}, {" ", lit(" ")}, {"_", lit("_")}, {"-", lit("-")}, {",", lit(",")}, {":", lit(":")},
		{".", any}, {"()", empty}, {"^", begin}, {"$", end},
		{"[a]", set("a")}, {"[ab]", set("ab")}, {"[-az]", set("-az")}, {"[ ,-0:A_a]", set(" ,-0:A_a")}, {"[0123456789]", set("0123456789")},
		{"ab", ab}, {"abc", cat(a, b, c)}, {"aa", cat(a, a)}, {"abcdefgh", cat(lits("abcdefgh")...)}, {"^a$", cat(begin, a, end)}, {"$^", cat(end, begin)}, {"..", cat(any, any)}, {"[a][b]", cat(set("a"), set("b"))},
		{"a|b", aOrB}, {"a|a", alt(a, a)}, {"a|b|c|d|e|f|g|h", alt(lits("abcdefgh")...)}, {"a|bc|d", alt(a, cat(b, c), lit("d"))}, {"ab|c", alt(ab, c)}, {"^|$", alt(begin, end)}, {"ab|ab", alt(ab, ab)},
		{"a*", star(a)}, {"a+", plus(a)}, {"a?", opt(a)}, {".*", star(any)}, {"[ab]+", plus(set("ab"))}, {"()?", opt(empty)}, {"()*", star(empty)}, {"^*", star(begin)}, {"$+", plus(end)}, {" *", star(lit(" "))},
		{"(ab)*", star(ab)}, {"(ab)+", plus(ab)}, {"(ab)?", opt(ab)}, {"(a|b)*", star(aOrB)}, {"(a|b)+", plus(aOrB)}, {"(a|b)?", opt(aOrB)}, {"(a|bc)*", star(alt(a, cat(b, c)))},
		{"(a|b)c", cat(aOrB, c)}, {"c(a|b)", cat(c, aOrB)}, {"(a|b)(a|b)", cat(aOrB, aOrB)}, {"(a|b)?c", cat(opt(aOrB), c)}, {"(a|b*)[12]", cat(alt(a, star(b)), set("12"))}, {"(ab)*c", cat(star(ab), c)}, {"c(ab)+", cat(c, plus(ab))},
		{"a*b+c?", cat(star(a), plus(b), opt(c))}, {"a*|b", alt(star(a), b)}, {"(ab)*|c", alt(star(ab), c)}, {"a|(a|b)*", alt(a, star(aOrB))}, {"a(a|b)|c", alt(cat(a, aOrB), c)}, {"(a*b)?", opt(cat(star(a), b))}, {"(a*|b)?", opt(alt(star(a), b))},
		{"a()", cat(a, empty)}, {"()a", cat(empty, a)}, {"()()", cat(empty, empty)}, {"()|a", alt(empty, a)}, {"a|()", alt(a, empty)}, {"()|()", alt(empty, empty)}, {"a(()|b)", cat(a, alt(empty, b))}, {"(()())*", star(cat(empty, empty))}, {"(()|a)?", opt(alt(empty, a))}, {"()*()", cat(star(empty), empty)},
		{"((ab)*c)+", plus(cat(star(ab), c))}, {"((a|b)c|a)(b|c)", cat(alt(cat(aOrB, c), a), alt(b, c))}, {"((a|b)*|c)?", opt(alt(star(aOrB), c))},
		{"b((b(a|c))*|c)", deepRex(6)},
	}
}

// someRexes are all right; some of them meet a limit.
func someRexes() []impl.Rex {
	l := []impl.Rex{wideRex(50), wideRex(59), wideRex(60), deepRex(5), star(alt(wideRex(50).L[:7]...))}
	for _, row := range rexRows() {
		l = append(l, row.r)
	}
	for i := range len(rexBytes) {
		l = append(l, lit(rexBytes[i:i+1]), set(rexBytes[i:i+1]))
	}
	return l
}

// wrongRexes are all not right, each for one reason.
func wrongRexes() []impl.Rex {
	a, ab, aOrB := lit("a"), cat(lits("ab")...), alt(lits("ab")...)
	l := []impl.Rex{
		{}, {S: "a"}, {L: lits("ab")}, lit(""), lit("ab"), lit("aa"), {K: impl.RLit, S: "a", L: lits("a")}, {K: impl.RLit, L: lits("a")},
		set(""), set("ba"), set("aa"), set("abb"), set("abca"), set("a-z"), set("0A a"), set("0123456789A"), set(strings.Repeat("a", 100)), {K: impl.RSet, S: "ab", L: lits("a")},
		cat(), cat(a), cat(lits("abcdefghi")...), cat(a, ab), cat(ab, a), cat(a, a, a, ab), {K: impl.RCat, S: "a", L: lits("ab")}, cat(a, kind(0)), cat(a, lit("*")), cat(kind(12), a),
		alt(), alt(a), alt(lits("abcdefghi")...), alt(a, aOrB), alt(aOrB, a), alt(a, a, a, aOrB), {K: impl.RAlt, S: "|", L: lits("ab")}, alt(a, kind(0)), alt(a, set("ba")), alt(kind(12), a),
		deepRex(7), deepRex(8), deepRex(100), wideRex(61), wideRex(62), wideRex(70), cat(a, star(alt(a, cat(a, alt(a, cat(a, a)))))),
		cat(a, alt(a, cat(a, a, a, a, a, cat(a, a)))), alt(a, star(star(a))), star(cat(a, alt(a, alt(a, a)))),
	}
	for _, repeat := range []func(...impl.Rex) impl.Rex{star, plus, opt} {
		named := repeat(a)
		named.S = "a"
		l = append(l, repeat(), repeat(lits("ab")...), repeat(star(a)), repeat(plus(a)), repeat(opt(a)), repeat(kind(0)), repeat(lit("*")), repeat(cat(a)), named)
	}
	for _, k := range []int{impl.RAny, impl.REmpty, impl.RBegin, impl.REnd} {
		l = append(l, impl.Rex{K: k, S: "a"}, impl.Rex{K: k, S: "."}, impl.Rex{K: k, L: lits("a")}, impl.Rex{K: k, L: []impl.Rex{{}}})
	}
	for _, k := range noRexKinds {
		l = append(l, kind(k), impl.Rex{K: k, S: "a"}, impl.Rex{K: k, L: lits("a")}, impl.Rex{K: k, L: lits("ab")})
	}
	return l
}

func TestTheKindsOfRegularExpressions(t *testing.T) {
	for i, k := range []int{impl.RLit, impl.RAny, impl.RSet, impl.RCat, impl.RAlt, impl.RStar, impl.RPlus, impl.ROpt, impl.REmpty, impl.RBegin, impl.REnd} {
		if k != i+1 {
			t.Errorf("the kind %d is %d", i+1, k)
		}
	}
}

func TestRexOk(t *testing.T) {
	for _, r := range someRexes() {
		if !impl.RexOk(r) {
			t.Errorf("%v is not RexOk", r)
		}
	}
	for i, r := range wrongRexes() {
		if impl.RexOk(r) {
			t.Errorf("the wrong one %d is RexOk: %v", i, r)
		}
	}
	for _, r := range []impl.Rex{{K: impl.RLit, S: "a", L: []impl.Rex{}}, {K: impl.RAny, L: make([]impl.Rex, 0, 5)}, {K: impl.REmpty, L: lits("ab")[:0]}} {
		if !impl.RexOk(r) {
			t.Errorf("an empty list is not as nil: %#v", r)
		}
	}
}

func TestRexOkOfEachByte(t *testing.T) {
	for c := range 256 {
		s := string([]byte{byte(c)})
		want := strings.Contains(rexBytes, s)
		if impl.RexOk(lit(s)) != want || impl.RexOk(set(s)) != want {
			t.Errorf("the byte %q: %v, %v", s, impl.RexOk(lit(s)), impl.RexOk(set(s)))
		}
		for _, pair := range []string{"a" + s, s + "a"} {
			if impl.RexOk(set(pair)) != (want && pair[0] < pair[1]) {
				t.Errorf("the set %q: %v", pair, impl.RexOk(set(pair)))
			}
		}
	}
}

func TestRexOkOfEachSize(t *testing.T) {
	for size := range 20 {
		if got := impl.RexOk(set("ABCDEFGHIJKLMNOPQRST"[:size])); got != (size >= 1 && size <= 10) {
			t.Errorf("a set of %d bytes: %v", size, got)
		}
		l := lits(strings.Repeat("a", size))
		for _, r := range []impl.Rex{cat(l...), alt(l...)} {
			if got := impl.RexOk(r); got != (size >= 2 && size <= 8) {
				t.Errorf("a list of %d: %v", size, got)
			}
		}
		if got := impl.RexOk(deepRex(size + 1)); got != (size+1 <= 6) {
			t.Errorf("%d deep: %v", size+1, got)
		}
		if got := impl.RexOk(wideRex(size + 50)); got != (size+50 <= 60) {
			t.Errorf("%d parts: %v", size+50, got)
		}
	}
}

// Of each place in a list the part is asked, and of each kind which parts it may have.
func TestRexOkOfAPartOfAnotherKind(t *testing.T) {
	a := lit("a")
	parts := map[int]impl.Rex{
		impl.RLit: a, impl.RAny: kind(impl.RAny), impl.RSet: set("ab"), impl.RCat: cat(a, a), impl.RAlt: alt(a, a), impl.RStar: star(a), impl.RPlus: plus(a), impl.ROpt: opt(a),
		impl.REmpty: kind(impl.REmpty), impl.RBegin: kind(impl.RBegin), impl.REnd: kind(impl.REnd), 0: {}, 12: kind(12),
	}
	for k, part := range parts {
		right := k >= 1 && k <= 11
		for i := range 8 {
			l := lits("aaaaaaaa")
			l[i] = part
			if got := impl.RexOk(cat(l...)); got != (right && k != impl.RCat) {
				t.Errorf("the kind %d in a RCat, at %d: %v", k, i, got)
			}
			if got := impl.RexOk(alt(l...)); got != (right && k != impl.RAlt) {
				t.Errorf("the kind %d in a RAlt, at %d: %v", k, i, got)
			}
		}
		for _, repeat := range []func(...impl.Rex) impl.Rex{star, plus, opt} {
			want := right && k != impl.RStar && k != impl.RPlus && k != impl.ROpt
			if got := impl.RexOk(repeat(part)); got != want {
				t.Errorf("the kind %d in the kind %d: %v", k, repeat().K, got)
			}
		}
	}
}

// A list may hold itself; asking must end all the same.
func TestRexOkOfWhatHoldsItself(t *testing.T) {
	l := lits("abcdefgh")
	for i := range l {
		l[i] = impl.Rex{K: impl.RCat + i%2, L: l}
	}
	one, two := lits("a"), lits("a")
	one[0], two[0] = star(two...), cat(one[0], one[0])
	two[0].L = one
	for _, r := range []impl.Rex{cat(l...), alt(l...), l[0], star(one...), star(two...), one[0], two[0]} {
		if impl.RexOk(r) || impl.RexText(r) != "" {
			t.Errorf("what holds itself is right: %d", r.K)
		}
	}
	if impl.RexOk(cat(make([]impl.Rex, 1000000)...)) || impl.RexOk(deepRex(100000)) {
		t.Error("what is far too great is right")
	}
}

func TestRexText(t *testing.T) {
	for _, row := range rexRows() {
		if got := impl.RexText(row.r); got != row.text {
			t.Errorf("the text of %v is %q, want %q", row.r, got, row.text)
		}
	}
	for _, r := range wrongRexes() {
		if got := impl.RexText(r); got != "" {
			t.Errorf("the text of a wrong one is %q", got)
		}
	}
}

func wantRex(t *testing.T, s string, want impl.Rex) {
	t.Helper()
	if r, ok := impl.ParseRex(s); !ok || !sameRex(r, want) {
		t.Errorf("ParseRex(%q) = %v, %v, want %v", s, r, ok, want)
	}
}

func wantNoRex(t *testing.T, s string) {
	t.Helper()
	if r, ok := impl.ParseRex(s); ok || r.K != 0 || r.S != "" || r.L != nil {
		t.Errorf("ParseRex(%.100q) = %v, %v", s, r, ok)
	}
}

func TestParseRex(t *testing.T) {
	for _, row := range rexRows() {
		wantRex(t, row.text, row.r)
	}
}

func TestRegularExpressionsComeBackOfTheirTexts(t *testing.T) {
	seen := map[string]impl.Rex{}
	for _, r := range someRexes() {
		s := impl.RexText(r)
		wantRex(t, s, r)
		if other, ok := seen[s]; ok && !sameRex(other, r) {
			t.Errorf("%v and %v have one text: %q", other, r, s)
		}
		seen[s] = r
	}
}

// The longest texts that there are: sets of ten with a mark or a bar each.
func TestLongRegularExpressionsComeBack(t *testing.T) {
	sets := alt()
	for i := range 7 {
		row := cat()
		for range 7 + i%2 {
			row.L = append(row.L, set("0123456789"))
		}
		sets.L = append(sets.L, row)
	}
	bars := cat()
	for range 6 {
		choices := alt()
		for range 8 {
			choices.L = append(choices.L, set("abcdefghij"))
		}
		bars.L = append(bars.L, choices)
	}
	for _, r := range []impl.Rex{sets, bars, star(bars)} {
		s := impl.RexText(r)
		if len(s) < 600 {
			t.Errorf("the text is not long: %q", s)
		}
		wantRex(t, s, r)
	}
}

func TestParseRexRefuses(t *testing.T) {
	for _, s := range []string{
		"",
		"(a)", "(.)", "([ab])", "(^)", "($)", "(())", "((()))", "(ab)", "(a|b)", "(a*)", "(a)*", "(.)+", "([a])?", "(())*", "(^)*", "a(b)", "(a)b", "(a)|b", "a|(b)",
		"(ab)c", "a(bc)", "(ab)(cd)", "(ab)|c", "a|(bc)", "(a|b)|c", "a|(b|c)", "(a|b)|(c|d)", "(a*)b", "a(b*)", "a|(b*)", "((ab))*", "((a|b))*", "((a|b))c", "((a|b)c)", "(a()b)", "((ab)*)", "((ab)*)|c", "a((b|c))", "(a(b|c))", "(ab)()", "()(ab)",
		"(", ")", "((", "))", ")(", "(a", "a)", "(a|b", "a|b)", "(ab*", "ab)*", "a(", "a(b", "(()", "())", "(ab)*)", "((ab)*", "(a|b)c)", "(a|(b)", "(ab]", "([ab)]",
		"*", "+", "?", "**", "*a", "+a", "?a", "a|*", "a|+b", "(*)", "(*a)", "(a|?)b", "|*", "^|*",
		"a**", "a*+", "a*?", "a+*", "a++", "a+?", "a?*", "a?+", "a??", "a***", "(ab)**", "(a*)*", "(a+)*", "(a?)+", "[a]*+", "()**", "a*b*?", "((ab)*)*", "((ab)*)+",
		"|", "||", "|a", "a|", "a||b", "|a|b", "a|b|", "(|a)b", "(a|)b", "(a||b)c", "(|)", "(|)*", "()|", "|()",
		"[", "]", "[]", "[a", "a]", "[a]]", "[[a]", "[]a]", "[ba]", "[aa]", "[abb]", "[a-z]", "[z-]", "[A-Z]", "[0-9]", "[0123456789A]", "[^a]", "[a|b]", "[(]", "[.]", "[*]", "[$]", "[a*]", "[ab", "x[", "[]*", "[a/]", "[\\]", "[a\x00]", "[a\n]", "[aä]", "[\xff]",
		"\\", "\\a", "/", "a/", "a/b", "\n", "\t", "a\n", "\x00", "a\x00", "{", "}", "a{2}", "'", "\"", "`", "!", "#", "%", "&", ";", "<", "=", ">", "@", "~", "\x7f", "\x80", "\xff", "ä", "aä", "€",
		"abcdefghi", "a|b|c|d|e|f|g|h|i", "(abcdefghi)*", "(a|b|c|d|e|f|g|h|i)x", "x|abcdefghi", "()()()()()()()()()", ".........",
		"((b((b(a|c))*|c))*|c)", "b((b((b(a|c))*|c))*|c)", "((b((b(a|c))*|c))*|c)a", "(b((b(a|c))*|c))*", "((((((((a|b)*c)*d)*e)*f)*g)*h)*i)*",
	} {
		wantNoRex(t, s)
	}
}

// repeatedRows is 7 rows of 6 bytes, 50 parts; of the first rows so many bytes are repeated, a part more each.
func repeatedRows(counts ...int) impl.Rex {
	r := wideRex(50)
	for row, count := range counts {
		for i := range count {
			r.L[row].L[i] = plus(r.L[row].L[i])
		}
	}
	return r
}

func TestParseRexRefusesWhatPassesALimit(t *testing.T) {
	rest := strings.Repeat("|abcdef", 5)
	wantRex(t, "a+b+cdef|a+b+cdef"+rest, repeatedRows(2, 2))
	wantRex(t, "a+b+c+d+e+f+|a+b+c+d+ef"+rest, repeatedRows(6, 4))
	wantNoRex(t, "a+b+c+d+e+f+|a+b+c+d+e+f"+rest)
	wantNoRex(t, "a+b+c+d+e+f+|a+b+c+d+e+f+"+rest)
	wantRex(t, "(a(b(c|d))*)?", opt(cat(lit("a"), star(cat(lit("b"), alt(lits("cd")...))))))
	wantNoRex(t, "(a(b(c|d*))*)?")
	wantNoRex(t, "((a(b(c|d))*)?e)*")
	wantNoRex(t, "x|(a(b(c|d))*)?")
	wantRex(t, "[0123456789]", set("0123456789"))
	wantNoRex(t, "[0123456789A]")
}

func TestParseRexOfVeryLongTexts(t *testing.T) {
	for _, piece := range []string{"a", "(", ")", "()", "[", "]", "[a]", "|", "a|", "a*", "*", "(a|", "((a|b)", ".", "^", "\\", " ", "(a|b)*", "[0123456789]", "\xff"} {
		for _, count := range []int{9, 60, 61, 100, 1000, 1000000} {
			wantNoRex(t, strings.Repeat(piece, count))
		}
	}
	deep := strings.Repeat("(a", 100000) + "b" + strings.Repeat(")*", 100000)
	wantNoRex(t, deep)
	wantNoRex(t, "a|"+deep)
	wantNoRex(t, "["+strings.Repeat("a", 1000000)+"]")
	wantNoRex(t, "a"+strings.Repeat("()", 500000))
}

// grammar tells all that is right with a text of a size, by what may stand where.
type grammar struct {
	single, item, branch, cats, alts [][]rexRow
}

// grammarUpTo keeps to the bytes of `ab|*?()[]`; no limit is met by so short texts.
func grammarUpTo(size int) grammar {
	g := grammar{make([][]rexRow, size+1), make([][]rexRow, size+1), make([][]rexRow, size+1), make([][]rexRow, size+1), make([][]rexRow, size+1)}
	for n := 1; n <= size; n++ {
		for _, row := range []rexRow{{"a", lit("a")}, {"b", lit("b")}, {"()", kind(impl.REmpty)}, {"[a]", set("a")}, {"[b]", set("b")}, {"[ab]", set("ab")}} {
			if len(row.text) == n {
				g.single[n] = append(g.single[n], row)
			}
		}
		g.item[n] = append(g.item[n], g.single[n]...)
		g.item[n] = append(g.item[n], g.repeats(n)...)
		g.branch[n] = append(g.branch[n], g.item[n]...)
		if n > 2 {
			for _, row := range g.alts[n-2] {
				g.item[n] = append(g.item[n], rexRow{"(" + row.text + ")", row.r})
			}
		}
		g.cats[n] = listsOf(impl.RCat, g.item, "", n, 2)
		g.branch[n] = append(g.branch[n], g.cats[n]...)
		g.alts[n] = listsOf(impl.RAlt, g.branch, "|", n, 2)
	}
	return g
}

func (g grammar) repeats(n int) []rexRow {
	var rows []rexRow
	put := func(s string, r impl.Rex) {
		rows = append(rows, rexRow{s + "*", star(r)}, rexRow{s + "?", opt(r)})
	}
	if n > 1 {
		for _, row := range g.single[n-1] {
			put(row.text, row.r)
		}
	}
	if n > 3 {
		for _, row := range append(append([]rexRow(nil), g.cats[n-3]...), g.alts[n-3]...) {
			put("("+row.text+")", row.r)
		}
	}
	return rows
}

// listsOf answers all lists of at least so many, whose texts with what is between them have this size.
func listsOf(k int, of [][]rexRow, between string, size int, least int) []rexRow {
	var rows []rexRow
	if least <= 1 {
		for _, row := range of[size] {
			rows = append(rows, rexRow{row.text, impl.Rex{K: k, L: []impl.Rex{row.r}}})
		}
	}
	for n := 1; n < size-len(between); n++ {
		for _, first := range of[n] {
			for _, rest := range listsOf(k, of, between, size-n-len(between), least-1) {
				l := append([]impl.Rex{first.r}, rest.r.L...)
				rows = append(rows, rexRow{first.text + between + rest.text, impl.Rex{K: k, L: l}})
			}
		}
	}
	return rows
}

// Every text of up to 6 of these bytes is right just if the grammar has it, and then it is read as it stands there.
func TestParseRexOfAllShortTexts(t *testing.T) {
	t.Parallel()
	const size, alphabet = 6, "ab|*?()[]"
	g := grammarUpTo(size)
	right := map[string]impl.Rex{}
	for n := range size + 1 {
		for _, row := range append(g.branch[n], g.alts[n]...) {
			if _, ok := right[row.text]; ok {
				t.Fatalf("the grammar has %q twice", row.text)
			}
			right[row.text] = row.r
		}
	}
	found := 0
	var ask func(s string)
	ask = func(s string) {
		if want, ok := right[s]; ok {
			found++
			wantRex(t, s, want)
			if got := impl.RexText(want); got != s || !impl.RexOk(want) {
				t.Errorf("RexText(%v) = %q, want %q", want, got, s)
			}
		} else {
			wantNoRex(t, s)
		}
		for i := 0; i < len(alphabet) && len(s) < size; i++ {
			ask(s + alphabet[i:i+1])
		}
	}
	ask("")
	if found != len(right) || found < 1000 {
		t.Errorf("%d of %d were asked", found, len(right))
	}
}

// What is read of a text that was changed by one byte has just this text.
func TestEveryRegularExpressionThatIsReadHasOneText(t *testing.T) {
	wantOneText := func(s string) {
		r, ok := impl.ParseRex(s)
		if ok && (!impl.RexOk(r) || impl.RexText(r) != s) || !ok && (r.K != 0 || r.S != "" || r.L != nil) {
			t.Errorf("ParseRex(%q) = %v, %v", s, r, ok)
		}
	}
	for _, r := range someRexes() {
		s := impl.RexText(r)
		for i := range len(s) + 1 {
			for _, c := range []string{"a", "z", "0", ".", "[", "]", "(", ")", "()", "|", "*", "+", "?", "^", "$", "/", "\x00", "\xff"} {
				wantOneText(s[:i] + c + s[i:])
				if i < len(s) {
					wantOneText(s[:i] + c + s[i+1:])
				}
			}
			wantOneText(s[:i])
			wantOneText(s[i:])
			if i < len(s) {
				wantOneText(s[:i] + s[i+1:])
			}
		}
	}
}
