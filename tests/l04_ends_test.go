package tests

import (
	"math"
	"regexp"
	"slices"
	"strconv"
	"strings"
	"testing"
	"time"

	"loop.example/g00288/impl"
)

// aMoment is far more than any call needs, so that a busy machine fails none.
const aMoment = 5 * time.Second

func wantEnds(t *testing.T, r impl.Rex, s string, at int, want ...int) {
	t.Helper()
	if got := impl.EndsOf(r, s, at); !slices.Equal(got, want) {
		t.Errorf("EndsOf(%q, %q, %d) = %v, want %v", impl.RexText(r), s, at, got, want)
	}
}

func wantLongest(t *testing.T, r impl.Rex, s string, from int, end int, ok bool) {
	t.Helper()
	gotFrom, gotEnd, gotOk := impl.Longest(r, s)
	if gotFrom != from || gotEnd != end || gotOk != ok {
		t.Errorf("Longest(%q, %q) = %d, %d, %v, want %d, %d, %v", impl.RexText(r), s, gotFrom, gotEnd, gotOk, from, end, ok)
	}
	if got := impl.Matches(r, s); got != ok {
		t.Errorf("Matches(%q, %q) = %v, want %v", impl.RexText(r), s, got, ok)
	}
}

// toldEnds answers whether each place is an end, by the chapter's words and nothing else.
func toldEnds(r impl.Rex, s string, at int) [impl.MaxText + 1]bool {
	var ends [impl.MaxText + 1]bool
	switch r.K {
	case impl.RLit, impl.RAny, impl.RSet:
		if at < len(s) && (r.K == impl.RAny || strings.Contains(r.S, s[at:at+1])) {
			ends[at+1] = true
		}
	case impl.RCat:
		ends[at] = true
		for _, part := range r.L {
			ends = toldBehind(part, s, ends)
		}
	case impl.RAlt:
		for _, part := range r.L {
			ends = both(ends, toldEnds(part, s, at))
		}
	case impl.RStar:
		ends[at] = true
		ends = toldAgain(r.L[0], s, ends)
	case impl.RPlus:
		ends = toldAgain(r.L[0], s, toldEnds(r.L[0], s, at))
	case impl.ROpt:
		ends = toldEnds(r.L[0], s, at)
		ends[at] = true
	case impl.REmpty:
		ends[at] = true
	case impl.RBegin:
		ends[at] = at == 0
	case impl.REnd:
		ends[at] = at == len(s)
	}
	return ends
}

func toldBehind(r impl.Rex, s string, from [impl.MaxText + 1]bool) [impl.MaxText + 1]bool {
	var ends [impl.MaxText + 1]bool
	for at, ok := range from {
		if ok {
			ends = both(ends, toldEnds(r, s, at))
		}
	}
	return ends
}

func toldAgain(r impl.Rex, s string, ends [impl.MaxText + 1]bool) [impl.MaxText + 1]bool {
	for {
		more := both(ends, toldBehind(r, s, ends))
		if more == ends {
			return ends
		}
		ends = more
	}
}

func both(a, b [impl.MaxText + 1]bool) [impl.MaxText + 1]bool {
	for i := range b {
		a[i] = a[i] || b[i]
	}
	return a
}

// wantAsTold asks all three functions, at every place of s and beside it, with these ends of each.
func wantAsTold(t *testing.T, r impl.Rex, s string, ends [][]int) {
	t.Helper()
	from, end, ok := 0, 0, false
	for at := len(s); at >= 0; at-- {
		wantEnds(t, r, s, at, ends[at]...)
		if n := len(ends[at]); n > 0 {
			from, end, ok = at, ends[at][n-1], true
		}
	}
	wantEnds(t, r, s, -1)
	wantEnds(t, r, s, len(s)+1)
	wantLongest(t, r, s, from, end, ok)
}

func toldEverywhere(r impl.Rex, s string) [][]int {
	ends := make([][]int, len(s)+1)
	for at := range ends {
		for end, ok := range toldEnds(r, s, at) {
			if ok {
				ends[at] = append(ends[at], end)
			}
		}
	}
	return ends
}

// shortTexts are all texts of these bytes up to this size.
func shortTexts(alphabet string, size int) []string {
	l := []string{""}
	for from := 0; len(l[from]) < size; from++ {
		for i := range len(alphabet) {
			l = append(l, l[from]+alphabet[i:i+1])
		}
	}
	return l
}

func TestEndsOfWhatTakesOneByte(t *testing.T) {
	any := kind(impl.RAny)
	for _, s := range []string{"b", "bab", "xbz"} {
		at := strings.IndexByte(s, 'b')
		wantEnds(t, lit("b"), s, at, at+1)
		wantEnds(t, any, s, at, at+1)
		wantEnds(t, set("b"), s, at, at+1)
		wantEnds(t, set("abc"), s, at, at+1)
		wantEnds(t, set("abcdefghij"), s, at, at+1)
		wantEnds(t, lit("a"), s, at)
		wantEnds(t, lit("B"), s, at)
		wantEnds(t, set("a"), s, at)
		wantEnds(t, set("0Bac"), s, at)
	}
	for _, s := range []string{"", "b", "ab", strings.Repeat("b", impl.MaxText)} {
		for _, r := range []impl.Rex{lit("b"), any, set("b"), set("ab")} {
			wantEnds(t, r, s, len(s))
		}
	}
}

func TestEndsOfEachByte(t *testing.T) {
	for c := range 256 {
		s := "-" + string([]byte{byte(c)}) + "-"
		wantEnds(t, kind(impl.RAny), s, 1, 2)
		for i := range len(rexBytes) {
			b := rexBytes[i : i+1]
			for _, r := range []impl.Rex{lit(b), set(b)} {
				if b == s[1:2] {
					wantEnds(t, r, s, 1, 2)
				} else {
					wantEnds(t, r, s, 1)
				}
			}
		}
	}
}

// A place is one of a byte: what is more than one byte in another's eyes has ends within.
func TestEndsCountBytes(t *testing.T) {
	wantEnds(t, star(kind(impl.RAny)), "aé€", 0, 0, 1, 2, 3, 4, 5, 6)
	wantEnds(t, kind(impl.RAny), "é", 1, 2)
	wantEnds(t, star(kind(impl.RAny)), "a\nb\x00\xff", 0, 0, 1, 2, 3, 4, 5)
	wantEnds(t, kind(impl.REnd), "é\n", 3, 3)
	wantEnds(t, kind(impl.REnd), "a\n", 1)
	wantEnds(t, kind(impl.RBegin), "a\nb", 2)
}

func TestEndsOfOneBehindTheOther(t *testing.T) {
	a, b, c, aOrAb := lit("a"), lit("b"), lit("c"), alt(lit("a"), cat(lit("a"), lit("b")))
	wantEnds(t, cat(a, b), "abab", 0, 2)
	wantEnds(t, cat(a, b), "abab", 2, 4)
	wantEnds(t, cat(a, b), "abab", 1)
	wantEnds(t, cat(a, b), "a", 0)
	wantEnds(t, cat(a, b, c), "abc", 0, 3)
	wantEnds(t, cat(a, b, c), "abd", 0)
	wantEnds(t, cat(lits("abcdefgh")...), "abcdefgh", 0, 8)
	wantEnds(t, cat(lits("abcdefgh")...), "abcdefgx", 0)
	wantEnds(t, cat(aOrAb, alt(c, cat(b, c))), "abc", 0, 3)
	wantEnds(t, cat(aOrAb, opt(b), opt(c)), "abc", 0, 1, 2, 3)
	wantEnds(t, cat(star(a), a), "aaa", 0, 1, 2, 3)
	wantEnds(t, cat(star(a), star(a)), "aaa", 1, 1, 2, 3)
	wantEnds(t, cat(opt(a), opt(a), opt(a)), "aaaa", 0, 0, 1, 2, 3)
	wantEnds(t, cat(star(a), b), "aaa", 0)
	wantEnds(t, cat(b, star(a)), "aaa", 0)
	wantEnds(t, cat(star(a), kind(impl.RBegin)), "aa", 0, 0)
	wantEnds(t, cat(star(a), kind(impl.REnd)), "aab", 0)
	wantEnds(t, cat(star(a), kind(impl.REnd)), "aaa", 0, 3)
	wantEnds(t, cat(kind(impl.REnd), a), "a", 0)
	wantEnds(t, cat(kind(impl.REnd), kind(impl.RBegin)), "", 0, 0)
	wantEnds(t, cat(kind(impl.REmpty), a, kind(impl.REmpty)), "a", 0, 1)
}

func TestEndsOfOneOrTheOther(t *testing.T) {
	a, ab, abc := lit("a"), cat(lits("ab")...), cat(lits("abc")...)
	wantEnds(t, alt(a, lit("b")), "ab", 0, 1)
	wantEnds(t, alt(a, lit("b")), "ab", 1, 2)
	wantEnds(t, alt(a, lit("b")), "c", 0)
	wantEnds(t, alt(a, a), "a", 0, 1)
	wantEnds(t, alt(a, kind(impl.RAny), set("ab")), "a", 0, 1)
	wantEnds(t, alt(abc, a, ab), "abc", 0, 1, 2, 3)
	wantEnds(t, alt(abc, a, ab, kind(impl.REmpty)), "abc", 0, 0, 1, 2, 3)
	wantEnds(t, alt(abc, kind(impl.REmpty)), "abd", 0, 0)
	wantEnds(t, alt(abc, a), "abd", 0, 1)
	wantEnds(t, alt(kind(impl.RBegin), kind(impl.REnd)), "ab", 0, 0)
	wantEnds(t, alt(kind(impl.RBegin), kind(impl.REnd)), "ab", 1)
	wantEnds(t, alt(kind(impl.RBegin), kind(impl.REnd)), "ab", 2, 2)
	wantEnds(t, alt(lits("hgfedcba")...), "a", 0, 1)
}

func TestEndsOfRepeats(t *testing.T) {
	a, ab, aOrBa := lit("a"), cat(lits("ab")...), alt(lit("a"), cat(lits("ba")...))
	for _, z := range []struct {
		r    impl.Rex
		s    string
		star []int
		plus []int
		opt  []int
	}{
		{a, "aaa", []int{0, 1, 2, 3}, []int{1, 2, 3}, []int{0, 1}},
		{a, "aab", []int{0, 1, 2}, []int{1, 2}, []int{0, 1}},
		{a, "b", []int{0}, nil, []int{0}},
		{a, "", []int{0}, nil, []int{0}},
		{ab, "ababa", []int{0, 2, 4}, []int{2, 4}, []int{0, 2}},
		{ab, "ba", []int{0}, nil, []int{0}},
		{aOrBa, "abaab", []int{0, 1, 3, 4}, []int{1, 3, 4}, []int{0, 1}},
		{alt(ab, cat(lits("aba")...)), "abaab", []int{0, 2, 3, 5}, []int{2, 3, 5}, []int{0, 2, 3}},
		{set("ab"), "abc", []int{0, 1, 2}, []int{1, 2}, []int{0, 1}},
		{kind(impl.RAny), "xy", []int{0, 1, 2}, []int{1, 2}, []int{0, 1}},
	} {
		wantEnds(t, star(z.r), z.s, 0, z.star...)
		wantEnds(t, plus(z.r), z.s, 0, z.plus...)
		wantEnds(t, opt(z.r), z.s, 0, z.opt...)
	}
}

func TestEndsOfRepeatsOfWhatMayBeNothing(t *testing.T) {
	a, b, empty, begin, end := lit("a"), lit("b"), kind(impl.REmpty), kind(impl.RBegin), kind(impl.REnd)
	for at := range 3 {
		wantEnds(t, star(empty), "aa", at, at)
		wantEnds(t, plus(empty), "aa", at, at)
		wantEnds(t, opt(empty), "aa", at, at)
		wantEnds(t, star(begin), "aa", at, at)
		wantEnds(t, star(end), "aa", at, at)
		wantEnds(t, opt(begin), "aa", at, at)
		wantEnds(t, opt(end), "aa", at, at)
	}
	wantEnds(t, plus(begin), "aa", 0, 0)
	wantEnds(t, plus(begin), "aa", 1)
	wantEnds(t, plus(end), "aa", 2, 2)
	wantEnds(t, plus(end), "aa", 1)
	for _, maybe := range []impl.Rex{alt(a, empty), alt(empty, a), cat(opt(a), opt(b)), cat(star(a), empty), cat(star(a), star(a)), cat(empty, opt(a)), alt(star(a), b), alt(plus(a), begin, end)} {
		wantEnds(t, star(maybe), "aac", 0, 0, 1, 2)
		wantEnds(t, plus(maybe), "aac", 0, 0, 1, 2)
		wantEnds(t, star(maybe), "aac", 1, 1, 2)
		wantEnds(t, star(maybe), "aac", 3, 3)
	}
	wantEnds(t, plus(alt(a, begin)), "aac", 1, 2)
	wantEnds(t, plus(alt(a, begin)), "aac", 2)
	wantEnds(t, plus(cat(begin, a)), "aac", 0, 1)
	wantEnds(t, plus(alt(a, cat(begin, b))), "baa", 0, 1, 2, 3)
	wantEnds(t, star(cat(a, opt(end))), "aa", 0, 0, 1, 2)
	wantEnds(t, star(cat(a, end)), "aa", 0, 0)
	wantEnds(t, star(cat(a, end)), "aa", 1, 1, 2)
}

func TestEndsOfTheBeginningAndTheEnd(t *testing.T) {
	begin, end, empty := kind(impl.RBegin), kind(impl.REnd), kind(impl.REmpty)
	for _, s := range []string{"", "a", "ab", "\n\n", strings.Repeat("x", impl.MaxText)} {
		for at := range len(s) + 1 {
			wantEnds(t, empty, s, at, at)
			if at == 0 {
				wantEnds(t, begin, s, at, at)
			} else {
				wantEnds(t, begin, s, at)
			}
			if at == len(s) {
				wantEnds(t, end, s, at, at)
			} else {
				wantEnds(t, end, s, at)
			}
		}
	}
}

func TestEndsOfWhatIsNoPlace(t *testing.T) {
	for _, s := range []string{"", "a", "aaaa", strings.Repeat("a", impl.MaxText)} {
		for _, at := range noPlaces(len(s)) {
			if at >= 0 && at <= len(s) {
				continue
			}
			for _, r := range []impl.Rex{lit("a"), star(lit("a")), kind(impl.REmpty), kind(impl.RBegin), kind(impl.REnd), opt(kind(impl.RAny))} {
				wantEnds(t, r, s, at)
			}
		}
	}
	for _, at := range []int{64, 128, 192, 201, 255, 256, 4294967296, math.MinInt + 1} {
		wantEnds(t, star(lit("a")), "aaaa", at)
		wantEnds(t, kind(impl.REmpty), "aaaa", -at)
	}
}

func TestLongest(t *testing.T) {
	a, ab, abc := lit("a"), cat(lits("ab")...), cat(lits("abc")...)
	for _, z := range []struct {
		r    impl.Rex
		s    string
		from int
		end  int
		ok   bool
	}{
		{a, "a", 0, 1, true}, {a, "ba", 1, 2, true}, {a, "bab", 1, 2, true}, {a, "b", 0, 0, false}, {a, "", 0, 0, false},
		{plus(a), "baacaaaa", 1, 3, true}, {alt(a, ab, abc), "xabc", 1, 4, true}, {alt(abc, a), "xabcabc", 1, 4, true}, {alt(ab, a), "aab", 0, 1, true},
		{star(a), "baa", 0, 0, true}, {star(a), "", 0, 0, true}, {opt(a), "b", 0, 0, true}, {star(a), "aab", 0, 2, true},
		{kind(impl.REmpty), "abc", 0, 0, true}, {kind(impl.REmpty), "", 0, 0, true}, {kind(impl.RBegin), "ab", 0, 0, true}, {kind(impl.REnd), "ab", 2, 2, true}, {kind(impl.REnd), "", 0, 0, true},
		{cat(a, kind(impl.REnd)), "aba", 2, 3, true}, {cat(kind(impl.RBegin), a), "ba", 0, 0, false}, {cat(kind(impl.RBegin), a), "ab", 0, 1, true}, {cat(a, kind(impl.RBegin)), "aa", 0, 0, false},
		{cat(star(a), kind(impl.REnd)), "aab", 3, 3, true}, {cat(star(a), kind(impl.REnd)), "aabaa", 3, 5, true}, {alt(cat(a, kind(impl.REnd)), lit("b")), "aba", 1, 2, true},
		{kind(impl.RAny), "", 0, 0, false}, {plus(kind(impl.RAny)), "a\nb", 0, 3, true}, {set("xyz"), "abcz", 3, 4, true},
	} {
		wantLongest(t, z.r, z.s, z.from, z.end, z.ok)
	}
}

func TestAllShortExpressionsEndAsTold(t *testing.T) {
	g := grammarUpTo(5)
	texts := shortTexts("abc", 3)
	asked := 0
	for n := range g.branch {
		for _, row := range append(g.branch[n], g.alts[n]...) {
			for _, s := range texts {
				asked++
				wantAsTold(t, row.r, s, toldEverywhere(row.r, s))
			}
		}
	}
	if asked < 10000 {
		t.Errorf("%d were asked alone", asked)
	}
}

func TestSomeExpressionsEndAsTold(t *testing.T) {
	texts := append(shortTexts("ab", 4), "abcdefgh", "abcabc", "ab12", "a b,c:-_", "cab*", "\x00\xff", "bcacaba", strings.Repeat("abc", 21)+"d", strings.Repeat("abcdef", 11))
	for _, r := range someRexes() {
		for _, s := range texts {
			wantAsTold(t, r, s, toldEverywhere(r, s))
		}
	}
}

// kindsWithinKinds tells what two kinds make of each other: every one of them with every one within.
func kindsWithinKinds() []impl.Rex {
	inner := []impl.Rex{lit("a"), kind(impl.RAny), set("ab"), kind(impl.REmpty), kind(impl.RBegin), kind(impl.REnd)}
	var middle, l []impl.Rex
	for _, x := range inner {
		middle = append(middle, x, star(x), plus(x), opt(x))
		for _, y := range inner {
			middle = append(middle, cat(x, y), alt(x, y), cat(star(x), y), alt(x, plus(y)))
		}
	}
	for _, x := range middle {
		for _, r := range []impl.Rex{x, star(x), plus(x), opt(x), cat(x, lit("b")), cat(lit("b"), x), alt(x, lit("b")), alt(lit("b"), x, lit("a")), cat(opt(lit("b")), x), cat(x, star(lit("a")))} {
			if impl.RexOk(r) {
				l = append(l, r)
			}
		}
	}
	return l
}

func TestEachKindWithinEachEndsAsTold(t *testing.T) {
	t.Parallel()
	for _, r := range kindsWithinKinds() {
		for _, s := range shortTexts("ab", 4) {
			wantAsTold(t, r, s, toldEverywhere(r, s))
		}
	}
}

// The library's expressions are another's word for the same; a set with `-` within would be a range there.
func TestEndsAreThoseOfTheLibrary(t *testing.T) {
	for _, row := range rexRows() {
		if strings.Contains(row.text, "[") && strings.Contains(row.text, "-") {
			continue
		}
		for _, s := range append(shortTexts("abc", 3), "ab12", "a b,c", "abcdefgh", "bcacaba") {
			ends := make([][]int, len(s)+1)
			for at := range ends {
				for end := at; end <= len(s); end++ {
					ahead, behind := "^(?s:.{"+strconv.Itoa(at)+"})", "(?s:.{"+strconv.Itoa(len(s)-end)+"})$"
					if regexp.MustCompile(ahead + "(?s:" + row.text + ")" + behind).MatchString(s) {
						ends[at] = append(ends[at], end)
					}
				}
			}
			wantAsTold(t, row.r, s, ends)
		}
	}
}

// Places beside every multiple of what a machine word may hold.
func TestEndsFarIntoLongTexts(t *testing.T) {
	a := lit("a")
	s := strings.Repeat("b", 190) + "aaaaaaaaaa"
	wantLongest(t, a, s, 190, 191, true)
	wantLongest(t, plus(a), s, 190, 200, true)
	wantLongest(t, kind(impl.REnd), s, 200, 200, true)
	wantEnds(t, plus(a), s, 195, 196, 197, 198, 199, 200)
	for size := range impl.MaxText + 1 {
		s := strings.Repeat("a", size)
		var all []int
		for at := range size + 1 {
			all = append(all, at)
		}
		wantEnds(t, star(a), s, 0, all...)
		wantEnds(t, plus(a), s, 0, all[1:]...)
		wantEnds(t, star(a), s, size, size)
		wantLongest(t, star(a), s, 0, size, true)
		wantLongest(t, cat(kind(impl.RAny), kind(impl.REnd)), s, max(size-1, 0), size, size > 0)
		if size < impl.MaxText {
			wantLongest(t, lit("b"), s+"b", size, size+1, true)
		}
	}
}

func TestTextsThatAreTooLongHaveNoEnds(t *testing.T) {
	for _, r := range []impl.Rex{lit("a"), star(lit("a")), kind(impl.REmpty), kind(impl.RBegin), kind(impl.REnd), kind(impl.RAny)} {
		longest := strings.Repeat("a", impl.MaxText)
		if !impl.Matches(r, longest) {
			t.Errorf("%q does not match a text of MaxText bytes", impl.RexText(r))
		}
		for _, more := range []int{1, 2, 55, 56, 57, 1000, 1000000} {
			s := longest + strings.Repeat("a", more)
			wantLongest(t, r, s, 0, 0, false)
			for _, at := range []int{-1, 0, 1, impl.MaxText, impl.MaxText + 1, len(s), len(s) + 1} {
				wantEnds(t, r, s, at)
			}
		}
	}
}

func TestWrongExpressionsHaveNoEnds(t *testing.T) {
	holdsItself := star(lit("a"))
	holdsItself.L[0] = cat(lit("a"), holdsItself)
	round := alt(lit("a"), lit("a"))
	round.L[1] = cat(lit("a"), round)
	for _, r := range append(wrongRexes(), holdsItself, round) {
		for _, s := range []string{"", "a", "ab", "aab", "*", strings.Repeat("ab", 100), strings.Repeat("a", 201)} {
			if got := impl.EndsOf(r, s, 0); len(got) != 0 {
				t.Errorf("EndsOf(%v, %q, 0) = %v", r.K, s, got)
			}
			if got := impl.EndsOf(r, s, len(s)); len(got) != 0 {
				t.Errorf("EndsOf(%v, %q, %d) = %v", r.K, s, len(s), got)
			}
			if from, end, ok := impl.Longest(r, s); from != 0 || end != 0 || ok || impl.Matches(r, s) {
				t.Errorf("Longest(%v, %q) = %d, %d, %v", r.K, s, from, end, ok)
			}
		}
	}
}

// What is longest begins at the first place that has an end, ends at its last one, and is there just if there is some end.
func TestWhatIsLongestBeginsAtTheFirstPlaceWithAnEnd(t *testing.T) {
	t.Parallel()
	texts := append(shortTexts("abc", 4), "xxabcabc", strings.Repeat("x", 99)+"abcdef", strings.Repeat("x", impl.MaxText), "  a, b: c-d_0 Z")
	for _, r := range someRexes() {
		for _, s := range texts {
			from, end, ok := 0, 0, false
			for at := 0; at <= len(s) && !ok; at++ {
				if ends := impl.EndsOf(r, s, at); len(ends) > 0 {
					from, end, ok = at, ends[len(ends)-1], true
				}
			}
			wantLongest(t, r, s, from, end, ok)
		}
	}
}

// heavyRexes have as many repeats within each other, and parts, as may be; some of them end nowhere in a text of one byte.
func heavyRexes() []impl.Rex {
	a, never := lit("a"), lit("b")
	within, options, stars := alt(), cat(), cat()
	for range 7 {
		within.L = append(within.L, cat(opt(a), star(a), opt(a)))
		options.L = append(options.L, opt(alt(a, kind(impl.REmpty), cat(a, a))))
		stars.L = append(stars.L, star(a))
	}
	six := cat(lits("aaaaaa")...)
	return []impl.Rex{
		cat(a, star(within)), cat(plus(within), never),
		cat(options.L...), cat(append(options.L, never)...),
		plus(stars), cat(append(stars.L, never)...), star(cat(append(stars.L, never)...)),
		star(cat(star(cat(star(a), star(a), star(a))), star(a), star(a))), star(cat(a, star(cat(a, star(a), never)))), plus(cat(a, plus(cat(a, plus(a))))),
		cat(a, plus(alt(star(six), plus(six), six, six, six, six, six))), wideRex(60), deepRex(6),
	}
}

func TestNoneTakesMoreThanAMoment(t *testing.T) {
	for _, r := range heavyRexes() {
		if !impl.RexOk(r) {
			t.Fatalf("%v is not right", r)
		}
		for _, s := range []string{strings.Repeat("a", impl.MaxText), strings.Repeat("a", impl.MaxText-1) + "c", "c" + strings.Repeat("a", impl.MaxText-1), strings.Repeat("ac", impl.MaxText/2), strings.Repeat("c", impl.MaxText)} {
			began := time.Now()
			impl.EndsOf(r, s, 0)
			impl.Matches(r, s)
			impl.Longest(r, s)
			if took := time.Since(began); took > aMoment {
				t.Errorf("%q at %q took %v", impl.RexText(r), s, took)
			}
		}
	}
}

func TestHeavyExpressionsEndAsTold(t *testing.T) {
	for _, r := range heavyRexes() {
		for _, s := range []string{"", "a", "aaaaaaaaab", "baaaa", "abab"} {
			wantAsTold(t, r, s, toldEverywhere(r, s))
		}
	}
}

func TestEndsLeaveTheExpressionAndAreNewMemory(t *testing.T) {
	for _, r := range append(someRexes(), wrongRexes()...) {
		for _, s := range []string{"", "abcdefgh", "aab"} {
			argument, before := roomyRex(r), copyRex(r)
			first, second := impl.EndsOf(argument, s, 0), impl.EndsOf(argument, s, 0)
			matches := impl.Matches(argument, s)
			from, end, ok := impl.Longest(argument, s)
			if !untouchedRex(argument, before) {
				t.Errorf("an expression was written into: %q", impl.RexText(before))
			}
			told := slices.Clone(second)
			whole := first[:cap(first)]
			for i := range whole {
				whole[i] = -7
			}
			if !slices.Equal(second, told) || !slices.Equal(impl.EndsOf(r, s, 0), told) {
				t.Errorf("the ends of %q share memory", impl.RexText(before))
			}
			if gotFrom, gotEnd, gotOk := impl.Longest(r, s); gotFrom != from || gotEnd != end || gotOk != ok || impl.Matches(r, s) != matches || matches != ok {
				t.Errorf("what lies behind a list's length counts: %q", impl.RexText(before))
			}
		}
	}
}
