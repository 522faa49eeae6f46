package tests

import (
	"math"
	"regexp"
	"slices"
	"strings"
	"testing"
	"time"
	"unsafe"

	"loop.example/g00288/impl"
)

// A text that is no right UTF-8: ends without a beginning, beginnings without an end, what is too long, what is no letter.
const brokenText = "a\x80b\xc3c\xe2\x82d\xf0\x9f\x98e\xc0\xaff\xed\xa0\x80g\xff\xfeh\xf5\x90\x80\x80z\xe2\x82"

// bytesOfAllKinds are texts with bytes from 128 on, in right letters and outside of them.
func bytesOfAllKinds() []string {
	each := make([]byte, 256)
	for c := range each {
		each[c] = byte(c)
	}
	return []string{"é", "aéb", "€", "x€y€z", "😀", "\xff", "\x80", "\xc3", "\xe2\x82", "a\xffb", "\xffa\xff", "\ufffd", "a\ufffd\xef\xbf", brokenText, string(each), "\u0085 \u00a0 \u2003"}
}

func wantIndex(t *testing.T, s, u string, want int) {
	t.Helper()
	if got := impl.IndexOf(s, u); got != want {
		t.Errorf("IndexOf(%q, %q) = %d, want %d", s, u, got, want)
	}
}

func toldIndex(s, u string) int {
	for at := 0; at+len(u) <= len(s); at++ {
		if s[at:at+len(u)] == u {
			return at + 1
		}
	}
	return 0
}

func TestIndexOf(t *testing.T) {
	for _, z := range []struct {
		s    string
		u    string
		want int
	}{
		{"abcab", "ab", 1}, {"abcab", "ca", 3}, {"abcab", "cab", 3}, {"abcab", "b", 2}, {"abcabd", "abd", 4}, {"abcabc", "bc", 2}, {"abc", "abc", 1}, {"abc", "c", 3}, {"aab", "ab", 2},
		{"aaa", "aa", 1}, {"baaa", "aa", 2}, {"ababac", "abac", 3}, {"abababab", "baba", 2},
		{"abc", "x", 0}, {"abc", "ac", 0}, {"abc", "abd", 0}, {"abc", "C", 0}, {"a", "ab", 0}, {"", "a", 0}, {"abc", "abcabc", 0}, {"abc", "abc ", 0}, {"a\x00b", "\x00", 2}, {"ab", "\x00", 0},
		{"", "", 1}, {"a", "", 1}, {"abc", "", 1}, {"\xff", "", 1},
		{"aéb", "é", 2}, {"aéb", "b", 4}, {"aéb", "\xa9", 3}, {"aéb", "\xc3", 2}, {"€", "\x82", 2}, {"€", "\x82\xac", 2}, {"€é", "\xac\xc3", 3}, {"€é", "é", 4},
		{"a\xff\xfe", "\xfe", 3}, {"\xff", "\xfe", 0}, {"\xff", "\ufffd", 0}, {"\ufffd", "\xff", 0}, {"\x80\x81", "\x81", 2}, {"\xe2\x82", "€", 0}, {"\xe2\x82\xe2\x82\xac", "€", 3}, {"\xffab", "ab", 2}, {"ÄÖ", "Ö", 3}, {"é", "e", 0},
	} {
		wantIndex(t, z.s, z.u, z.want)
	}
}

func TestTheIndexIsTheFirstPlace(t *testing.T) {
	texts := append(shortTexts("ab", 5), bytesOfAllKinds()...)
	texts = append(texts, someTexts()...)
	for _, s := range texts {
		for _, u := range texts {
			wantIndex(t, s, u, toldIndex(s, u))
		}
		for from := range len(s) {
			for behind := from + 1; behind <= min(from+3, len(s)); behind++ {
				wantIndex(t, s, s[from:behind], toldIndex(s, s[from:behind]))
			}
		}
	}
}

func TestTheIndexIsThereInLongTextsToo(t *testing.T) {
	for _, ahead := range []int{0, 1, 62, 63, 64, 65, impl.MaxText - 1, impl.MaxText, impl.MaxText + 1, 1000000} {
		s := strings.Repeat("a", ahead)
		wantIndex(t, s+"b", "b", ahead+1)
		wantIndex(t, s+"\xff", "\xff", ahead+1)
		wantIndex(t, s+"b", s+"b", 1)
		wantIndex(t, s, s+"b", 0)
		wantIndex(t, s+"ab", "aab", ahead)
	}
}

func wantSub(t *testing.T, s string, from, n int, want string) {
	t.Helper()
	if got := impl.SubText(s, from, n); got != want {
		t.Errorf("SubText(%q, %d, %d) = %q, want %q", s, from, n, got, want)
	}
}

// toldSub asks each byte's number, as the chapter does.
func toldSub(s string, from, n int) string {
	nearer := func(n int) int {
		if n < -1000000 {
			return -1000000
		}
		if n > 1000000 {
			return 1000000
		}
		return n
	}
	from, n = nearer(from), nearer(n)
	var out []byte
	for i := range len(s) {
		if number := i + 1; number >= from && number < from+n {
			out = append(out, s[i])
		}
	}
	return string(out)
}

func TestSubText(t *testing.T) {
	for _, z := range []struct {
		from int
		n    int
		want string
	}{
		{1, 1, "a"}, {1, 2, "ab"}, {2, 1, "b"}, {2, 2, "bc"}, {4, 1, "d"}, {1, 4, "abcd"}, {1, 5, "abcd"}, {2, 9, "bcd"}, {4, 2, "d"}, {3, 2, "cd"}, {3, 3, "cd"},
		{5, 1, ""}, {5, 9, ""}, {6, 1, ""}, {1000, 1000, ""}, {1, 0, ""}, {4, 0, ""}, {5, 0, ""}, {2, -1, ""}, {4, -4, ""}, {5, -1, ""}, {5, -4, ""}, {0, 0, ""}, {-1, 0, ""},
		{0, 1, ""}, {0, 2, "a"}, {0, 5, "abcd"}, {0, 6, "abcd"}, {-1, 1, ""}, {-1, 2, ""}, {-1, 3, "a"}, {-1, 5, "abc"}, {-1, 6, "abcd"}, {-5, 6, ""}, {-5, 7, "a"}, {-999999, 1000000, ""}, {-999998, 1000000, "a"},
		{-1000000, 1000000, ""}, {-1000000, 1000001, ""}, {-1000001, 1000000, ""}, {-1000000, 1000005, ""}, {1, 1000000, "abcd"}, {1, 1000001, "abcd"}, {2, 1000000, "bcd"}, {1000000, 1000000, ""}, {1000001, 1, ""}, {1000000, -1000000, ""}, {1000001, -1000000, ""}, {0, -1000000, ""}, {0, -1000001, ""},
		{1, math.MaxInt, "abcd"}, {2, math.MaxInt, "bcd"}, {0, math.MaxInt, "abcd"}, {-1, math.MaxInt, "abcd"}, {math.MaxInt, math.MaxInt, ""}, {math.MaxInt, 1, ""}, {math.MaxInt, math.MinInt, ""}, {math.MinInt, math.MaxInt, ""}, {math.MinInt, math.MinInt, ""}, {math.MinInt, 1, ""}, {1, math.MinInt, ""}, {-5, math.MaxInt, "abcd"},
	} {
		wantSub(t, "abcd", z.from, z.n, z.want)
		wantSub(t, "", z.from, z.n, "")
	}
	wantSub(t, "aé€", 2, 1, "\xc3")
	wantSub(t, "aé€", 3, 2, "\xa9\xe2")
	wantSub(t, "aé€", 4, 3, "€")
	wantSub(t, "\xff\xfe\x80", 2, 2, "\xfe\x80")
}

func TestEachByteOfASubTextHasItsNumber(t *testing.T) {
	reach := []int{-1000001, -1000000, -999999, -999998, -999995, 999999, 1000000, 1000001, math.MinInt, math.MinInt + 1, math.MaxInt - 1, math.MaxInt}
	for n := -12; n <= 12; n++ {
		reach = append(reach, n)
	}
	for _, s := range append(bytesOfAllKinds(), "", "a", "ab", "abcdefgh", strings.Repeat("abc", 100)) {
		for _, from := range append(reach, len(s)-1, len(s), len(s)+1, -len(s)) {
			for _, n := range append(reach, len(s)-1, len(s), len(s)+1, -len(s)) {
				wantSub(t, s, from, n, toldSub(s, from, n))
			}
		}
	}
}

// The limits are of from and n, not of the text: behind a longer text's millionth byte they show.
func TestSubTextsOfTextsBeyondTheLimit(t *testing.T) {
	s := strings.Repeat("x", 999998) + "abcd" + strings.Repeat("y", 1000000)
	for _, z := range []struct {
		from int
		n    int
		want string
	}{
		{999999, 2, "ab"}, {1000000, 2, "bc"}, {1000001, 2, "bc"}, {1000002, 2, "bc"}, {math.MaxInt, 2, "bc"}, {1000000, 1, "b"},
		{1, 1000000, s[:1000000]}, {1, 1000001, s[:1000000]}, {1, math.MaxInt, s[:1000000]}, {2, 1000000, s[1:1000001]}, {1000000, 1000000, s[999999:1999999]}, {1000001, math.MaxInt, s[999999:1999999]},
		{0, 1000000, s[:999999]}, {-999998, 1000000, "x"}, {-1000000, 1000000, ""}, {math.MinInt, 1000002, ""},
	} {
		if got := impl.SubText(s, z.from, z.n); got != z.want {
			t.Errorf("SubText(.., %d, %d) has %d bytes, want %d", z.from, z.n, len(got), len(z.want))
		}
	}
}

func wantUpper(t *testing.T, s, want string) {
	t.Helper()
	if got := impl.UpperOf(s); got != want {
		t.Errorf("UpperOf(%q) = %q, want %q", s, got, want)
	}
}

func toldUpper(s string) string {
	var out []byte
	for i := range len(s) {
		c := s[i]
		if c >= 'a' && c <= 'z' {
			c -= 32
		}
		out = append(out, c)
	}
	return string(out)
}

func TestUpperOf(t *testing.T) {
	wantUpper(t, "", "")
	wantUpper(t, "abcdefghijklmnopqrstuvwxyz", "ABCDEFGHIJKLMNOPQRSTUVWXYZ")
	wantUpper(t, "ABCXYZ", "ABCXYZ")
	wantUpper(t, "`az{", "`AZ{")
	wantUpper(t, "@AZ[ 0129 _-,:", "@AZ[ 0129 _-,:")
	wantUpper(t, "aB cD\n\tz\x00", "AB CD\n\tZ\x00")
	wantUpper(t, "éaéàßÿı", "éAéàßÿı")
	wantUpper(t, "a\xffb\x80c\xe2\x82d", "A\xffB\x80C\xe2\x82D")
	wantUpper(t, "ſaK", "ſAK")
	wantUpper(t, "ａaａ", "ａAａ")
	wantUpper(t, "\xe1a\xe1\x81a", "\xe1A\xe1\x81A")
	for c := range 256 {
		s := string([]byte{byte(c)})
		want := s
		if c >= 'a' && c <= 'z' {
			want = string([]byte{byte(c - 'a' + 'A')})
		}
		wantUpper(t, s, want)
		wantUpper(t, "x"+s+"y", "X"+want+"Y")
	}
}

func TestOnlySmallLettersTurn(t *testing.T) {
	for _, s := range append(append(bytesOfAllKinds(), someTexts()...), strings.Repeat("aé\xff", 100000)) {
		got := impl.UpperOf(s)
		if got != toldUpper(s) {
			t.Errorf("UpperOf(%q) = %q", s, got)
		}
		if impl.UpperOf(got) != got {
			t.Errorf("UpperOf turns capitals: %q", got)
		}
	}
	for first := range 256 {
		for second := range 256 {
			s := string([]byte{byte(first), byte(second), 'a'})
			wantUpper(t, s, toldUpper(s))
		}
	}
}

func wantReplaced(t *testing.T, r impl.Rex, s, u string, all bool, want string, times int) {
	t.Helper()
	if got, n := impl.Replace(r, s, u, all); got != want || n != times {
		t.Errorf("Replace(%q, %q, %q, %v) = %q, %d, want %q, %d", impl.RexText(r), s, u, all, got, n, want, times)
	}
}

// toldReplace goes from place to place, by the chapter's words and nothing else.
func toldReplace(ends [][]int, s, u string, all bool) (string, int) {
	out, times, at := "", 0, 0
	for at <= len(s) {
		end := at
		if n := len(ends[at]); n > 0 {
			end = ends[at][n-1]
			out += u
			times++
		}
		if end > at {
			at = end
		} else {
			if at < len(s) {
				out += s[at : at+1]
			}
			at++
		}
		if times == 1 && !all {
			break
		}
	}
	if at < len(s) {
		out += s[at:]
	}
	return out, times
}

func wantReplacedAsTold(t *testing.T, r impl.Rex, s string, ends [][]int, by ...string) {
	t.Helper()
	for _, u := range by {
		for _, all := range []bool{false, true} {
			want, times := toldReplace(ends, s, u, all)
			wantReplaced(t, r, s, u, all, want, times)
		}
	}
}

type replaceRow struct {
	r     string
	s     string
	u     string
	first string
	once  int
	all   string
	times int
}

func wantReplaceRows(t *testing.T, rows []replaceRow) {
	t.Helper()
	for _, z := range rows {
		r, ok := impl.ParseRex(z.r)
		if !ok {
			t.Fatalf("%q is none", z.r)
		}
		wantReplaced(t, r, z.s, z.u, false, z.first, z.once)
		wantReplaced(t, r, z.s, z.u, true, z.all, z.times)
	}
}

func TestReplaceWhatMatches(t *testing.T) {
	wantReplaceRows(t, []replaceRow{
		{"a", "banana", "x", "bxnana", 1, "bxnxnx", 3}, {"a", "abc", "x", "xbc", 1, "xbc", 1}, {"c", "abc", "x", "abx", 1, "abx", 1}, {"b", "abc", "x", "axc", 1, "axc", 1},
		{".", "abc", "x", "xbc", 1, "xxx", 3}, {"z", "abc", "x", "abc", 0, "abc", 0}, {"a", "", "x", "", 0, "", 0}, {"abc", "abc", "x", "x", 1, "x", 1}, {"[ab]", "abcab", "-", "-bcab", 1, "--c--", 4},
		{"aa", "aaaaa", "x", "xaaa", 1, "xxa", 2}, {"aba", "ababa", "x", "xba", 1, "xba", 1}, {"ab", "aab", "x", "ax", 1, "ax", 1},
		{"a+", "baab", "-", "b-b", 1, "b-b", 1}, {"a+", "aabaaa", "-", "-baaa", 1, "-b-", 2}, {"a|ab|abc", "abcab", "-", "-ab", 1, "--", 2}, {"ab|a", "aab", "-", "-ab", 1, "--", 2}, {"ab?", "abaab", "-", "-aab", 1, "---", 3}, {".+", "a\nb", "x", "x", 1, "x", 1},
		{"^a", "aa", "b", "ba", 1, "ba", 1}, {"^a", "ba", "x", "ba", 0, "ba", 0}, {"a$", "aa", "b", "ab", 1, "ab", 1}, {"^.*$", "ab", "x", "x", 1, "x", 1}, {"^a|b$", "abab", "x", "xbab", 1, "xbax", 2},
		{" +", "a  b c", " ", "a b c", 1, "a b c", 2}, {"-", "a-b-c", "--", "a--b-c", 1, "a--b--c", 2},
	})
}

func TestReplaceByNothing(t *testing.T) {
	wantReplaceRows(t, []replaceRow{
		{"a", "banana", "", "bnana", 1, "bnn", 3}, {"[ab]", "abc", "", "bc", 1, "c", 2}, {".", "abc", "", "bc", 1, "", 3}, {".+", "abc", "", "", 1, "", 1}, {".*", "abc", "", "", 1, "", 2},
		{"ab", "aabb", "", "ab", 1, "ab", 1}, {"x*", "ab", "", "ab", 1, "ab", 3}, {"a*", "baab", "", "baab", 1, "bb", 4}, {"()", "ab", "", "ab", 1, "ab", 3}, {"$", "ab", "", "ab", 1, "ab", 1}, {"^", "ab", "", "ab", 1, "ab", 1}, {"a*", "", "", "", 1, "", 1}, {"z", "ab", "", "ab", 0, "ab", 0},
		{"^a", "aaa", "", "aa", 1, "aa", 1}, {"a$", "aaa", "", "aa", 1, "aa", 1},
	})
}

func TestReplaceWhatMayBeNothing(t *testing.T) {
	wantReplaceRows(t, []replaceRow{
		{"x*", "ab", "-", "-ab", 1, "-a-b-", 3}, {"x*", "", "-", "-", 1, "-", 1}, {"()", "", "-", "-", 1, "-", 1}, {"()", "ab", "-", "-ab", 1, "-a-b-", 3}, {"^", "", "-", "-", 1, "-", 1}, {"^", "ab", "-", "-ab", 1, "-ab", 1}, {"$", "", "!", "!", 1, "!", 1}, {"$", "ab", "!", "ab!", 1, "ab!", 1}, {"^|$", "ab", "-", "-ab", 1, "-ab-", 2}, {"^|$", "", "-", "-", 1, "-", 1}, {"^$", "", "-", "-", 1, "-", 1}, {"^$", "a", "-", "a", 0, "a", 0}, {"$^", "", "-", "-", 1, "-", 1},
		// Behind what matched it goes on at its end, where nothing may match once more.
		{"a*", "aa", "-", "-", 1, "--", 2}, {"a*", "aab", "-", "-b", 1, "--b-", 3}, {"a*", "baa", "-", "-baa", 1, "-b--", 3}, {"a*", "baab", "-", "-baab", 1, "-b--b-", 4}, {"a?", "aab", "-", "-ab", 1, "---b-", 4}, {"a|()", "ba", "-", "-ba", 1, "-b--", 3}, {".*", "ab", "-", "-", 1, "--", 2}, {".*", "", "-", "-", 1, "-", 1},
		{"a+|$", "baa", "-", "b-", 1, "b--", 2}, {"a+|$", "aab", "-", "-b", 1, "-b-", 2}, {"a+|^", "baa", "-", "-baa", 1, "-b-", 2}, {"a+|^", "aab", "-", "-b", 1, "-b", 1}, {"a*$", "aab", "-", "aab-", 1, "aab-", 1}, {"a*$", "baa", "-", "b-", 1, "b--", 2}, {"^a*", "aab", "-", "-b", 1, "-b", 1}, {"^a*", "baa", "-", "-baa", 1, "-baa", 1},
	})
}

func TestWhatIsPutInThePlaceIsNotLookedAtAgain(t *testing.T) {
	wantReplaceRows(t, []replaceRow{
		{"a", "aba", "aa", "aaba", 1, "aabaa", 2}, {"a", "aba", "a", "aba", 1, "aba", 2}, {"ab", "aab", "a", "aa", 1, "aa", 1}, {"ab", "aabb", "", "ab", 1, "ab", 1}, {"ab", "abb", "a", "ab", 1, "ab", 1}, {"^a", "aa", "", "a", 1, "a", 1}, {"a$", "aa", "", "a", 1, "a", 1}, {"()", "a", "a", "aa", 1, "aaa", 2}, {"a*", "b", "a", "ab", 1, "aba", 2}, {"a", "a", "$1&\\1", "$1&\\1", 1, "$1&\\1", 1},
	})
}

func TestReplaceInTextsWithAllBytes(t *testing.T) {
	wantReplaceRows(t, []replaceRow{
		{".", "é", "-", "-\xa9", 1, "--", 2}, {".", "€", "ü", "ü\x82\xac", 1, "üüü", 3}, {"a", "éaé", "\xff", "é\xffé", 1, "é\xffé", 1}, {"a", "\xffa\x80a\xe2", "\xc3", "\xff\xc3\x80a\xe2", 1, "\xff\xc3\x80\xc3\xe2", 2}, {"x*", "é", "-", "-é", 1, "-\xc3-\xa9-", 3}, {"()", "\xff", "\xfe", "\xfe\xff", 1, "\xfe\xff\xfe", 2}, {"z", brokenText, "", strings.Replace(brokenText, "z", "", 1), 1, strings.Replace(brokenText, "z", "", 1), 1}, {"_", brokenText, "x", brokenText, 0, brokenText, 0}, {"$", brokenText, "\x82", brokenText + "\x82", 1, brokenText + "\x82", 1}, {".+", brokenText, brokenText, brokenText, 1, brokenText, 1},
	})
}

func TestAllIsReplacedAsTold(t *testing.T) {
	t.Parallel()
	for _, r := range allRexes() {
		for _, s := range append(shortTexts("ab", 3), "bcacaba", "\xffa\x80é") {
			wantReplacedAsTold(t, r, s, toldEverywhere(r, s), "", "-", "a", "aé\xff")
		}
	}
	for _, r := range someRexes() {
		for _, s := range append(shortTexts("abc", 4), "abcdefgh", "a b,c:-_", "ab12 Z_0", strings.Repeat("abc", 21)+"d", strings.Repeat("b", impl.MaxText)) {
			wantReplacedAsTold(t, r, s, toldEverywhere(r, s), "", "ab")
		}
	}
}

// Of what is never nothing the library replaces the same, when it is asked for what is longest; a set with `-` within would be a range there.
func TestReplaceIsThatOfTheLibrary(t *testing.T) {
	asked := 0
	for _, row := range rexRows() {
		library := regexp.MustCompile("(?s:" + row.text + ")")
		library.Longest()
		if strings.Contains(row.text, "[") && strings.Contains(row.text, "-") || library.MatchString("") || strings.Contains(row.text, "^") || strings.Contains(row.text, "$") {
			continue
		}
		for _, s := range append(shortTexts("abc", 5), "ab12", "a b,c", "abcdefghabcdefgh", "bcacaba") {
			asked++
			wantReplaced(t, row.r, s, "<$1>", true, library.ReplaceAllLiteralString(s, "<$1>"), len(library.FindAllStringIndex(s, -1)))
		}
	}
	if asked < 1000 {
		t.Errorf("%d were asked alone", asked)
	}
}

// What matches first is what is longest; all that is replaced by itself stands as it stood.
func TestReplaceBeginsWhereTheLongestDoes(t *testing.T) {
	for _, r := range allRexes() {
		for _, s := range append(shortTexts("ab", 3), "xxabcabc") {
			from, end, ok := impl.Longest(r, s)
			if ok {
				wantReplaced(t, r, s, "<>", false, s[:from]+"<>"+s[end:], 1)
				wantReplaced(t, r, s, s[from:end], false, s, 1)
			} else {
				wantReplaced(t, r, s, "<>", false, s, 0)
			}
			if _, n := impl.Replace(r, s, "<>", true); n > 0 != ok {
				t.Errorf("%q in %q is replaced %d times", impl.RexText(r), s, n)
			}
		}
	}
}

func TestReplaceAtTheLimits(t *testing.T) {
	most, more := strings.Repeat("a", impl.MaxText), strings.Repeat("a", impl.MaxText+1)
	a, never, nothing := lit("a"), lit("b"), star(lit("b"))
	for _, all := range []bool{false, true} {
		wantReplaced(t, never, most, most, all, most, 0)
		wantReplaced(t, plus(a), most, most, all, most, 1)
		wantReplaced(t, plus(a), most, "", all, "", 1)
		for _, s := range []string{more, more + "b", strings.Repeat("b", 1000), strings.Repeat("\xff", 1000000)} {
			for _, r := range []impl.Rex{a, nothing, kind(impl.RAny), kind(impl.REnd), kind(impl.REmpty), plus(kind(impl.RAny))} {
				wantReplaced(t, r, s, "x", all, s, 0)
				wantReplaced(t, r, s, "", all, s, 0)
				wantReplaced(t, r, "ab", s, all, "ab", 0)
				wantReplaced(t, r, "", s, all, "", 0)
				wantReplaced(t, r, s, s, all, s, 0)
			}
		}
	}
	wantReplaced(t, a, most, most, false, most+most[1:], 1)
	wantReplaced(t, a, most, most, true, strings.Repeat("a", impl.MaxText*impl.MaxText), impl.MaxText)
	wantReplaced(t, a, "aa", most, true, most+most, 2)
	wantReplaced(t, a, most, "bc", true, strings.Repeat("bc", impl.MaxText), impl.MaxText)
	wantReplaced(t, kind(impl.REmpty), most, most, true, strings.Repeat(most+"a", impl.MaxText)+most, impl.MaxText+1)
	wantReplaced(t, kind(impl.REnd), most, most, true, most+most, 1)
	wantReplaced(t, cat(a, kind(impl.REnd)), most, "xyz", true, most[1:]+"xyz", 1)
	wantReplaced(t, a, most[1:]+"b", "", true, "b", impl.MaxText-1)
}

func TestWrongExpressionsReplaceNothing(t *testing.T) {
	holdsItself := star(lit("a"))
	holdsItself.L[0] = cat(lit("a"), holdsItself)
	for i, r := range append(wrongRexes(), holdsItself, deepRex(7), wideRex(61)) {
		for _, s := range []string{"", "a", "ab", "aab", "*", brokenText, strings.Repeat("a", impl.MaxText), strings.Repeat("a", impl.MaxText+1)} {
			for _, u := range []string{"", "x", strings.Repeat("x", impl.MaxText+1)} {
				for _, all := range []bool{false, true} {
					if got, n := impl.Replace(r, s, u, all); got != s || n != 0 {
						t.Errorf("the wrong one %d: Replace of %q by %q, %v = %q, %d", i, s, u, all, got, n)
					}
				}
			}
		}
	}
}

func TestReplaceTakesNoMoreThanAMoment(t *testing.T) {
	for _, r := range append(heavyRexes(), mostNodes()) {
		for _, s := range []string{strings.Repeat("a", impl.MaxText), strings.Repeat("a", impl.MaxText-1) + "c", strings.Repeat("ac", impl.MaxText/2), strings.Repeat("c", impl.MaxText)} {
			began := time.Now()
			impl.Replace(r, s, s, true)
			if took := time.Since(began); took > aMoment {
				t.Errorf("%q in %q took %v", impl.RexText(r), s, took)
			}
		}
	}
}

func wantSplit(t *testing.T, s string, want ...string) {
	t.Helper()
	if got := impl.SplitText(s); !slices.Equal(got, want) {
		t.Errorf("SplitText(%q) = %q, want %q", s, got, want)
	}
}

func toldSplit(s string) []string {
	var l []string
	word := ""
	for i := range len(s) {
		if s[i] != 32 && s[i] != 9 {
			word += s[i : i+1]
		} else if word != "" {
			l = append(l, word)
			word = ""
		}
	}
	if word != "" {
		l = append(l, word)
	}
	return l
}

func TestSplitText(t *testing.T) {
	for _, s := range []string{"", " ", "\t", "   ", "\t\t", " \t ", strings.Repeat(" ", 1000)} {
		wantSplit(t, s)
	}
	for _, s := range []string{"a", " a", "a ", "\ta", "a\t", "  a  ", "\t \ta \t", "   a"} {
		wantSplit(t, s, "a")
	}
	for _, s := range []string{"a bc d", "a  bc   d", "a\tbc\td", " a \tbc\t d ", "\t\ta bc d\t\t", "a\t\tbc \t d"} {
		wantSplit(t, s, "a", "bc", "d")
	}
	for c := range 256 {
		between := string([]byte{byte(c)})
		if c == 32 || c == 9 {
			wantSplit(t, "a"+between+"b", "a", "b")
			wantSplit(t, between)
			continue
		}
		wantSplit(t, "a"+between+"b", "a"+between+"b")
		wantSplit(t, " "+between+"\t"+between+between, between, between+between)
		wantSplit(t, between, between)
	}
	wantSplit(t, "a\nb\rc\vd\fe\x00f", "a\nb\rc\vd\fe\x00f")
	wantSplit(t, "é \xff\t\xe2\x82 €", "é", "\xff", "\xe2\x82", "€")
	wantSplit(t, "a\u00a0b\u2003c\u3000d\u0085e", "a\u00a0b\u2003c\u3000d\u0085e")
	wantSplit(t, "\xe2 \x82\t\xac", "\xe2", "\x82", "\xac")
	wantSplit(t, "\xc4\xa0\xc4\x89", "\xc4\xa0\xc4\x89")
}

func TestAllTextsAreSplitAsTold(t *testing.T) {
	texts := append(shortTexts("a \t", 6), shortTexts("é \xff", 5)...)
	texts = append(append(texts, bytesOfAllKinds()...), someTexts()...)
	for _, s := range texts {
		wantSplit(t, s, toldSplit(s)...)
	}
	long := strings.Repeat("ab \t", 100000)
	if l := impl.SplitText(long); len(l) != 100000 || slices.Max(l) != "ab" || slices.Min(l) != "ab" {
		t.Errorf("a long text is split into %d", len(l))
	}
}

func wantJoined(t *testing.T, want string, l ...string) {
	t.Helper()
	if got := impl.JoinTexts(l); got != want {
		t.Errorf("JoinTexts(%q) = %q, want %q", l, got, want)
	}
}

func TestJoinTexts(t *testing.T) {
	wantJoined(t, "")
	wantJoined(t, "", []string{}...)
	wantJoined(t, "", "")
	wantJoined(t, "a", "a")
	wantJoined(t, "a b", "a", "b")
	wantJoined(t, "a bc d", "a", "bc", "d")
	wantJoined(t, " ", "", "")
	wantJoined(t, "  ", "", "", "")
	wantJoined(t, " a", "", "a")
	wantJoined(t, "a ", "a", "")
	wantJoined(t, "a  b", "a", "", "b")
	wantJoined(t, "a b c", "a b", "c")
	wantJoined(t, "   \t \t", " ", " \t", "\t")
	wantJoined(t, "é \xff \xe2\x82 \xac", "é", "\xff", "\xe2\x82", "\xac")
	wantJoined(t, brokenText+" "+brokenText, brokenText, brokenText)
	long := strings.Repeat("q", impl.MaxText+1)
	wantJoined(t, long+" "+long, long, long)
	wantJoined(t, "a", []string{"a", "b", "c"}[:1]...)
	wantJoined(t, strings.Repeat("ab ", 100000)+"ab", slices.Repeat([]string{"ab"}, 100001)...)
}

func TestWhatIsJoinedIsSplitAgainTheSame(t *testing.T) {
	texts := append(shortTexts("a \t", 6), shortTexts("b \xff\n", 4)...)
	texts = append(append(texts, bytesOfAllKinds()...), someTexts()...)
	for _, s := range texts {
		words := impl.SplitText(s)
		joined := impl.JoinTexts(words)
		if again := impl.SplitText(joined); !slices.Equal(again, words) {
			t.Errorf("%q is split to %q, and joined to %q, and split to %q", s, words, joined, again)
		}
		if impl.JoinTexts(impl.SplitText(joined)) != joined {
			t.Errorf("%q is joined to something else", joined)
		}
	}
	for _, words := range [][]string{{}, {"a"}, {"a", "b"}, {"\n", "\x00", "\xff", "é"}, slices.Repeat([]string{"x"}, 500)} {
		wantSplit(t, impl.JoinTexts(words), words...)
	}
}

// textOver is a text that lies in these bytes themselves, so that a write into it shows, and what shares its memory turns with it.
func textOver(b []byte) string { return unsafe.String(unsafe.SliceData(b), len(b)) }

// textCalls are all that answer texts of two texts.
func textCalls() map[string]func(s, u string) []string {
	one := func(s string) []string { return []string{s} }
	replaced := func(r impl.Rex, all bool) func(s, u string) []string {
		return func(s, u string) []string {
			got, _ := impl.Replace(r, s, u, all)
			return one(got)
		}
	}
	return map[string]func(s, u string) []string{
		"IndexOf":                 func(s, u string) []string { impl.IndexOf(s, u); impl.IndexOf(u, s); return nil },
		"SubText":                 func(s, u string) []string { return one(impl.SubText(s, 2, 3)) },
		"SubText of all":          func(s, u string) []string { return one(impl.SubText(s, 1, 1000)) },
		"SubText of a beginning":  func(s, u string) []string { return one(impl.SubText(s, -1, 4)) },
		"UpperOf":                 func(s, u string) []string { return one(impl.UpperOf(s)) },
		"Replace":                 replaced(lit("b"), true),
		"Replace the first":       replaced(lit("b"), false),
		"Replace nothing":         replaced(lit("z"), true),
		"Replace all by one":      replaced(plus(kind(impl.RAny)), true),
		"Replace at each":         replaced(kind(impl.REmpty), true),
		"Replace at the end":      replaced(kind(impl.REnd), false),
		"Replace by a wrong one":  replaced(impl.Rex{}, true),
		"SplitText":               func(s, u string) []string { return impl.SplitText(s) },
		"JoinTexts of one":        func(s, u string) []string { return one(impl.JoinTexts([]string{s})) },
		"JoinTexts of two":        func(s, u string) []string { return one(impl.JoinTexts([]string{s, u})) },
		"JoinTexts with an empty": func(s, u string) []string { return one(impl.JoinTexts([]string{"", s})) },
	}
}

func TestTextsThatAreAnsweredAreNewMemory(t *testing.T) {
	texts := []string{"", "a", "abc", "ABC", "abcab", " ab\tc ", "ab cd ef", "\xffb\x80", "éb€", brokenText, strings.Repeat("ab ", 66), strings.Repeat("b", impl.MaxText+1)}
	for name, call := range textCalls() {
		for _, s := range texts {
			for _, u := range texts {
				first, second := roomy(s, 16), roomy(u, 16)
				answer := call(textOver(first), textOver(second))
				wantUntouched(t, name, first, s)
				wantUntouched(t, name, second, u)
				told := strings.Clone(strings.Join(answer, "\x00"))
				overwrite(first)
				overwrite(second)
				if got := strings.Join(answer, "\x00"); got != told {
					t.Errorf("%s of %q and %q shares memory: %q, which was %q", name, s, u, got, told)
				}
			}
		}
	}
}

func TestWordsShareNoMemoryWithEachOther(t *testing.T) {
	words := impl.SplitText("ab ab cd e")
	others := impl.SplitText("ab ab cd e")
	seen := map[*byte]int{}
	for _, word := range append(words, others...) {
		for i := range len(word) {
			seen[unsafe.StringData(word[i:])]++
		}
	}
	if len(seen) != 14 {
		t.Errorf("the words lie in %d bytes", len(seen))
	}
	whole := words[:cap(words)]
	for i := range whole {
		whole[i] = "overwritten"
	}
	if !slices.Equal(others, []string{"ab", "ab", "cd", "e"}) {
		t.Errorf("two answers share their list: %q", others)
	}
}

func TestJoinTextsLeavesTheList(t *testing.T) {
	for _, size := range []int{0, 1, 2, 5} {
		whole := []string{"a", "", "b c", "\xff", "e", "spare", "room"}
		before := slices.Clone(whole)
		want := strings.Join(before[:size], " ")
		wantJoined(t, want, whole[:size]...)
		if !slices.Equal(whole, before) {
			t.Errorf("JoinTexts wrote into its list: %q", whole)
		}
	}
}

func TestReplaceLeavesTheExpression(t *testing.T) {
	for _, r := range append(someRexes(), wrongRexes()...) {
		for _, all := range []bool{false, true} {
			argument, before := roomyRex(r), copyRex(r)
			got, n := impl.Replace(argument, "aab abc", "x", all)
			if !untouchedRex(argument, before) {
				t.Errorf("Replace wrote into an expression: %q", impl.RexText(before))
			}
			if again, m := impl.Replace(r, "aab abc", "x", all); again != got || m != n {
				t.Errorf("what lies behind a list's length counts: %q, %q", got, again)
			}
		}
	}
}
