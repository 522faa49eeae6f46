package tests

import (
	"math"
	"regexp"
	"slices"
	"strconv"
	"strings"
	"testing"
	"time"
	"unsafe"

	"loop.example/g00288/impl"
)

func intToken(n int) impl.Token           { return impl.Token{K: impl.KInt, N: n} }
func nameToken(s string) impl.Token       { return impl.Token{K: impl.KName, S: s} }
func quoteToken(s string) impl.Token      { return impl.Token{K: impl.KText, S: s} }
func rexToken(s string) impl.Token        { return impl.Token{K: impl.KRex, S: s} }
func markToken(s string) impl.Token       { return impl.Token{K: impl.KMark, S: s} }
func tokens(l ...impl.Token) []impl.Token { return l }

func allMarks() []string {
	return []string{"{", "}", "(", ")", "[", "]", ",", ";", "$", "+", "-", "*", "/", "%", ".", "<", "<=", "==", "!=", ">", ">=", "&&", "||", "!", "~", "="}
}

func marks(l ...string) []impl.Token {
	var out []impl.Token
	for _, s := range l {
		out = append(out, markToken(s))
	}
	return out
}

func shortened(s string) string {
	if len(s) > 300 {
		return s[:150] + " .. " + s[len(s)-150:]
	}
	return s
}

func wantLex(t *testing.T, s string, want ...impl.Token) {
	t.Helper()
	if got, place := impl.Lex(s); place != -1 || !slices.Equal(got, want) {
		t.Errorf("Lex(%q) = %v, %d, want %v", shortened(s), got, place, want)
	}
}

func wantNoLex(t *testing.T, s string, place int) {
	t.Helper()
	if got, at := impl.Lex(s); at != place || len(got) != 0 {
		t.Errorf("Lex(%q) = %v, %d, want nothing, %d", shortened(s), got, at, place)
	}
}

var (
	toldGap    = regexp.MustCompile(`^(?:[ \t\n\r]|#[^\n]*)*`)
	toldNumber = regexp.MustCompile(`^[0-9]+`)
	toldPlain  = regexp.MustCompile(`^(?:0|[1-9][0-9]{0,9})$`)
	toldName   = regexp.MustCompile(`^[a-z][a-z0-9]*`)
	toldText   = regexp.MustCompile(`^'[ -&(-~]*'`)
	toldRex    = regexp.MustCompile(`^/[ -.0-~]+/`)
	toldMark   = regexp.MustCompile(`^(?:<=|==|!=|>=|&&|\|\||[{}()\[\],;$+\-*/%.<>!~=])`)
)

// toldToken is the token at the front of s by the chapter's words, and how many bytes it takes: 0 where there is none.
func toldToken(s string, behindTilde bool) (impl.Token, int) {
	if behindTilde && s[0] == '/' {
		l := len(toldRex.FindString(s))
		if l == 0 || l > 202 {
			return impl.Token{}, 0
		}
		return rexToken(s[1 : l-1]), l
	}
	if d := toldNumber.FindString(s); d != "" {
		n, err := strconv.ParseInt(d, 10, 32)
		if err != nil || !toldPlain.MatchString(d) {
			return impl.Token{}, 0
		}
		return intToken(int(n)), len(d)
	}
	if n := toldName.FindString(s); n != "" {
		if len(n) > 8 {
			return impl.Token{}, 0
		}
		return nameToken(n), len(n)
	}
	if q := toldText.FindString(s); q != "" {
		if len(q) > 202 {
			return impl.Token{}, 0
		}
		return quoteToken(q[1 : len(q)-1]), len(q)
	}
	m := toldMark.FindString(s)
	return markToken(m), len(m)
}

func toldLex(s string) ([]impl.Token, int) {
	var l []impl.Token
	at, behindTilde := 0, false
	for {
		// The library's texts are runes: a byte that is no right UTF-8 is still none of the bytes that are asked for.
		at += len(toldGap.FindString(s[at:]))
		if at == len(s) {
			return l, -1
		}
		token, size := toldToken(s[at:], behindTilde)
		if size == 0 || len(l) == 2000 {
			return nil, at
		}
		l = append(l, token)
		behindTilde = token == markToken("~")
		at += size
	}
}

func wantLexAsTold(t *testing.T, s string) {
	t.Helper()
	want, place := toldLex(s)
	if place < 0 {
		wantLex(t, s, want...)
	} else {
		wantNoLex(t, s, place)
	}
}

func TestTheConstantsOfTokens(t *testing.T) {
	if got := [...]int{impl.KInt, impl.KName, impl.KText, impl.KRex, impl.KMark, impl.MaxTokens}; got != [...]int{1, 2, 3, 4, 5, 2000} {
		t.Errorf("the constants are %v", got)
	}
}

func TestLex(t *testing.T) {
	wantLex(t, "x", nameToken("x"))
	wantLex(t, "print $1, 'a b';", nameToken("print"), markToken("$"), intToken(1), markToken(","), quoteToken("a b"), markToken(";"))
	wantLex(t, "x1=x1+1", nameToken("x1"), markToken("="), nameToken("x1"), markToken("+"), intToken(1))
	wantLex(t, "(a ~ /b|c/) { t[nr] = -3; }", markToken("("), nameToken("a"), markToken("~"), rexToken("b|c"), markToken(")"), markToken("{"), nameToken("t"), markToken("["), nameToken("nr"), markToken("]"), markToken("="), markToken("-"), intToken(3), markToken(";"), markToken("}"))
	wantLex(t, "func f(a, b) { return a / b; }\n", nameToken("func"), nameToken("f"), markToken("("), nameToken("a"), markToken(","), nameToken("b"), markToken(")"), markToken("{"), nameToken("return"), nameToken("a"), markToken("/"), nameToken("b"), markToken(";"), markToken("}"))
}

func TestBlanksAndRemarksArePassedOver(t *testing.T) {
	for _, s := range []string{"", " ", "\t", "\n", "\r", " \t\n\r", "\r\n\r\n", "   \n\n", "#", "#\n", "# no", "# no\n", "#\n#\n#", "##", "# '\n", "# /\n#~\n", "#\xff\x00\x80", "#\r", " # a\n\t# b\r\n", "#'", "# é\n "} {
		wantLex(t, s)
		wantLex(t, s+"\na", nameToken("a"))
		wantLex(t, "a"+s, nameToken("a"))
		wantLex(t, "a "+s+"\n b", nameToken("a"), nameToken("b"))
		wantNoLex(t, s+"\n&", len(s)+1)
		wantNoLex(t, "a"+s+"\n&", len(s)+2)
	}
	for _, gap := range []string{" ", "\t", "\n", "\r", "  ", "\r\n", " \t ", "#\n", "# a b\n", "#\n#\n", " # ' \n ", "#\r\n"} {
		wantLex(t, "a"+gap+"b", nameToken("a"), nameToken("b"))
		wantLex(t, "1"+gap+"2", intToken(1), intToken(2))
		wantLex(t, "0"+gap+"1", intToken(0), intToken(1))
		wantLex(t, "a"+gap+"1", nameToken("a"), intToken(1))
		wantLex(t, "<"+gap+"=", markToken("<"), markToken("="))
		wantLex(t, "="+gap+"=", markToken("="), markToken("="))
		wantLex(t, "!"+gap+"=", markToken("!"), markToken("="))
		wantNoLex(t, "&"+gap+"&", 0)
		wantNoLex(t, "a|"+gap+"|", 1)
		wantLex(t, gap+"a"+gap, nameToken("a"))
	}
	wantLex(t, "a#b", nameToken("a"))
	wantLex(t, "a#b\rc", nameToken("a"))
	wantLex(t, "a#b\n\rc", nameToken("a"), nameToken("c"))
	wantLex(t, "1#2\n3", intToken(1), intToken(3))
	wantNoLex(t, "a #\xff\n \xff", 6)
	for c := range 256 {
		s := string([]byte{byte(c)})
		if strings.Contains(" \t\n\r#", s) {
			wantLex(t, s)
		} else if got, place := impl.Lex("a " + s + "\n"); place == -1 && len(got) < 2 {
			t.Errorf("%q is passed over", s)
		}
	}
}

func TestLexNumbers(t *testing.T) {
	for _, n := range []int{0, 1, 9, 10, 42, 99, 100, 101, 1000, 65536, 999999999, 1000000000, 1999999999, 2147483639, 2147483640, 2147483646, 2147483647} {
		s := strconv.Itoa(n)
		wantLex(t, s, intToken(n))
		wantLex(t, " "+s+" ", intToken(n))
		wantLex(t, s+"a", intToken(n), nameToken("a"))
		wantLex(t, s+"z9", intToken(n), nameToken("z9"))
		wantLex(t, "-"+s, markToken("-"), intToken(n))
		wantLex(t, s+"."+s, intToken(n), markToken("."), intToken(n))
		wantLex(t, s+"'"+s+"'", intToken(n), quoteToken(s))
		for _, ahead := range []string{"0", "00", "0000000000"} {
			wantNoLex(t, ahead+s, 0)
			wantNoLex(t, "a ("+ahead+s+")", 3)
			wantNoLex(t, "\n "+ahead+s+"a", 2)
		}
	}
	for _, s := range []string{"2147483648", "2147483649", "2147483650", "2147483657", "3000000000", "4294967295", "4294967296", "4294967297", "9999999999", "10000000000", "9223372036854775807", "9223372036854775808", "18446744073709551615", "18446744073709551616", "18446744073709551617", "36893488147419103233", "00", "01", "000", "007", "0123456789", strings.Repeat("0", 100), strings.Repeat("9", 100), "1" + strings.Repeat("0", 300), strings.Repeat("7", 1000000)} {
		wantNoLex(t, s, 0)
		wantNoLex(t, "a "+s, 2)
		wantNoLex(t, "a 1 "+s+" b", 4)
		wantNoLex(t, s+"b", 0)
		wantNoLex(t, "-"+s, 1)
		wantLex(t, "a"+s[:2]+" '"+s[:2]+"' #"+s, nameToken("a"+s[:2]), quoteToken(s[:2]))
	}
	wantLex(t, "0a", intToken(0), nameToken("a"))
	wantLex(t, "9a", intToken(9), nameToken("a"))
	wantLex(t, "1a2b", intToken(1), nameToken("a2b"))
	wantLex(t, "12abcdefgh", intToken(12), nameToken("abcdefgh"))
	wantNoLex(t, "12abcdefghi", 2)
	wantNoLex(t, "1_0", 1)
	wantNoLex(t, "1A", 1)
	wantNoLex(t, "0x1F", 3)
	wantLex(t, "1+1", intToken(1), markToken("+"), intToken(1))
	wantLex(t, "0.5", intToken(0), markToken("."), intToken(5))
	wantNoLex(t, "0.05", 2)
}

func TestLexNames(t *testing.T) {
	for _, s := range []string{"a", "z", "m", "ab", "a1", "z0", "a9", "x1y2", "abcdefgh", "zzzzzzzz", "a1234567", "a0000000", "nr", "begin", "print", "length", "a01"} {
		wantLex(t, s, nameToken(s))
		wantLex(t, "("+s+")", markToken("("), nameToken(s), markToken(")"))
		wantLex(t, s+" "+s, nameToken(s), nameToken(s))
		wantLex(t, s+"'"+s+"'"+s, nameToken(s), quoteToken(s), nameToken(s))
		wantNoLex(t, s+"A", len(s))
		wantNoLex(t, s+"_", len(s))
		wantNoLex(t, "A"+s, 0)
	}
	for _, s := range []string{"ninelette", "abcdefghi", "a12345678", "abcdefgh0", "z00000000", strings.Repeat("a", 10), strings.Repeat("a", 255), strings.Repeat("a", 1000000), "a" + strings.Repeat("0", 1000000)} {
		wantNoLex(t, s, 0)
		wantNoLex(t, "1 "+s, 2)
		wantNoLex(t, "1"+s, 1)
		wantNoLex(t, "x "+s+" y", 2)
		wantNoLex(t, "x\n#\n"+s, 4)
	}
	wantLex(t, "abcdefgh i", nameToken("abcdefgh"), nameToken("i"))
	wantLex(t, "abcdefgh#\ni", nameToken("abcdefgh"), nameToken("i"))
	for _, s := range []string{"A", "Z", "Abc", "aBc", "abcD", "a_b", "_", "_a", "é", "aé", "a\xff"} {
		place := strings.IndexFunc(s, func(c rune) bool { return c < 'a' || c > 'z' })
		wantNoLex(t, s, place)
	}
}

func TestLexTexts(t *testing.T) {
	for _, s := range []string{"", " ", "a", "it", "a b", "  a  b  ", "/", "//", "/a/", "#", "# no", "a#b", "~", "~ /", "~/a/", "\"", "\\", "\\n", "`", "0", "00", "2147483648", "A", "ninelette", "&", "|", "a|b", "!\"#$%&()*+,-./09:;<=>?@AZ[\\]^_`az{|}~", strings.Repeat("a", impl.MaxText-1), strings.Repeat("a", impl.MaxText), strings.Repeat(" ", impl.MaxText), strings.Repeat("#", impl.MaxText), strings.Repeat("/", impl.MaxText)} {
		wantLex(t, "'"+s+"'", quoteToken(s))
		wantLex(t, "x'"+s+"'y", nameToken("x"), quoteToken(s), nameToken("y"))
		wantLex(t, "'"+s+"''"+s+"'", quoteToken(s), quoteToken(s))
		wantLex(t, "'"+s+"'#", quoteToken(s))
		wantNoLex(t, "'"+s, 0)
		wantNoLex(t, "x '"+s+" ", 2)
		wantNoLex(t, "'"+s+"' '", len(s)+3)
	}
	for _, size := range []int{impl.MaxText + 1, impl.MaxText + 2, 256, 1000, 1000000} {
		s := strings.Repeat("a", size)
		wantNoLex(t, "'"+s+"'", 0)
		wantNoLex(t, "x '"+s+"' y", 2)
		wantNoLex(t, "'"+s, 0)
	}
	wantLex(t, "''", quoteToken(""))
	wantLex(t, "''''", quoteToken(""), quoteToken(""))
	wantNoLex(t, "'''", 2)
	wantNoLex(t, "'", 0)
	wantNoLex(t, "x'", 1)
}

func TestBytesThatMayNotBeInATextOrAnExpression(t *testing.T) {
	for c := range 256 {
		s := string([]byte{byte(c)})
		for _, content := range []string{s, "a" + s, s + "b", "a" + s + "b", strings.Repeat("a", impl.MaxText-1) + s} {
			quoted, slashed := "x '"+content+"'", "x ~ /"+content+"/"
			switch {
			case c >= 32 && c <= 126 && s != "'":
				wantLex(t, quoted, nameToken("x"), quoteToken(content))
			case s != "'":
				wantNoLex(t, quoted, 2)
			}
			switch {
			case c >= 32 && c <= 126 && s != "/":
				wantLex(t, slashed, nameToken("x"), markToken("~"), rexToken(content))
			case s != "/":
				wantNoLex(t, slashed, 4)
			}
		}
	}
	for _, s := range append(bytesOfAllKinds(), "a\nb", "\t", "a\r") {
		wantNoLex(t, "'"+strings.ReplaceAll(s, "'", "")+"'", 0)
		wantNoLex(t, "~ /"+strings.ReplaceAll(s, "/", "")+"/", 2)
	}
}

func TestLexBehindATilde(t *testing.T) {
	gaps := []string{"", " ", "\t", "\n", "\r", "  \n ", "#\n", "# /\n", " # ~ /a/\n ", "#a\n#/b/\n"}
	contents := []string{"a", " ", "a b", "#", "a#b", "'", "it's", "~", "~a~", "a|b", "(a|b)*c", "^a+$", "[ab]?", ".", "()", "\\", "0", "00", "A", "\"", strings.Repeat("a", 199), strings.Repeat("a", 200), strings.Repeat("#", 200)}
	for _, gap := range gaps {
		for _, s := range contents {
			wantLex(t, "~"+gap+"/"+s+"/", markToken("~"), rexToken(s))
			wantLex(t, "x~"+gap+"/"+s+"/y", nameToken("x"), markToken("~"), rexToken(s), nameToken("y"))
			wantLex(t, "~"+gap+"/"+s+"//", markToken("~"), rexToken(s), markToken("/"))
			wantLex(t, "~"+gap+"/"+s+"/"+gap+"/"+gap+"b/", markToken("~"), rexToken(s), markToken("/"), nameToken("b"), markToken("/"))
			wantLex(t, "~~"+gap+"/"+s+"/", markToken("~"), markToken("~"), rexToken(s))
			wantLex(t, "~"+gap+"~"+gap+"/"+s+"/", markToken("~"), markToken("~"), rexToken(s))
			wantLex(t, "~"+gap+"/"+s+"/~"+gap+"/"+s+"/", markToken("~"), rexToken(s), markToken("~"), rexToken(s))
			wantNoLex(t, "~"+gap+"/"+s, 1+len(gap))
			wantNoLex(t, "a ~"+gap+"/"+s+" ", 3+len(gap))
		}
		for _, s := range []string{"//", "//a/", "// a", "/", "/a", "/ ", "/'a'", "/" + strings.Repeat("a", 201) + "/", "/" + strings.Repeat("a", 1000000) + "/", "/" + strings.Repeat("a", 1000000), "/a\n/", "/\t/", "/\x7f/", "/\x1f/", "/\x80/", "/é/"} {
			wantNoLex(t, "~"+gap+s, 1+len(gap))
			wantNoLex(t, "b\n~"+gap+s, 3+len(gap))
			wantNoLex(t, "~~"+gap+s, 2+len(gap))
		}
		for _, other := range []impl.Token{nameToken("a"), intToken(7), intToken(0), quoteToken("a"), quoteToken("/a/"), quoteToken("")} {
			s := impl.TokenText(other)
			wantLex(t, "~"+gap+s, markToken("~"), other)
			wantLex(t, "~"+gap+s+"/a/", markToken("~"), other, markToken("/"), nameToken("a"), markToken("/"))
		}
		for _, mark := range allMarks() {
			if mark != "/" {
				wantLex(t, "~"+gap+mark, markToken("~"), markToken(mark))
			}
		}
	}
	wantLex(t, "~", markToken("~"))
	wantNoLex(t, "~&", 1)
	wantNoLex(t, "~ A", 2)
	wantNoLex(t, "~ 01", 2)
	wantNoLex(t, "~ 'a", 2)
}

func TestASlashBehindAnotherTokenIsAMark(t *testing.T) {
	wantLex(t, "/", markToken("/"))
	wantLex(t, "//", marks("/", "/")...)
	wantLex(t, "/a/", markToken("/"), nameToken("a"), markToken("/"))
	wantLex(t, "/'~'/a/", markToken("/"), quoteToken("~"), markToken("/"), nameToken("a"), markToken("/"))
	wantLex(t, "'~' /a/", quoteToken("~"), markToken("/"), nameToken("a"), markToken("/"))
	wantLex(t, "#~\n/a/", markToken("/"), nameToken("a"), markToken("/"))
	wantLex(t, "~ /~/ /a/", markToken("~"), rexToken("~"), markToken("/"), nameToken("a"), markToken("/"))
	wantNoLex(t, "a /A/", 3)
	for _, mark := range allMarks() {
		if mark != "~" {
			wantLex(t, mark+"/a/", markToken(mark), markToken("/"), nameToken("a"), markToken("/"))
			wantLex(t, mark+" //", markToken(mark), markToken("/"), markToken("/"))
			wantLex(t, "~"+"/b/"+mark+"/a/", markToken("~"), rexToken("b"), markToken(mark), markToken("/"), nameToken("a"), markToken("/"))
		}
	}
	for _, s := range []string{"a", "7", "'a'", "''"} {
		want, _ := toldLex(s)
		wantLex(t, s+"/2", append(want, markToken("/"), intToken(2))...)
		wantLex(t, s+" / b / c", append(want, markToken("/"), nameToken("b"), markToken("/"), nameToken("c"))...)
	}
}

func TestLexMarks(t *testing.T) {
	for _, first := range allMarks() {
		wantLex(t, first, markToken(first))
		wantLex(t, " "+first+" ", markToken(first))
		wantLex(t, "a"+first+"0", nameToken("a"), markToken(first), intToken(0))
		for _, second := range allMarks() {
			if first == "~" && second == "/" {
				wantNoLex(t, first+" "+second, 2)
				continue
			}
			wantLex(t, first+" "+second, markToken(first), markToken(second))
			wantLexAsTold(t, first+second)
			for _, third := range allMarks() {
				wantLexAsTold(t, first+second+third)
			}
		}
	}
	for s, want := range map[string][]string{
		"<=": {"<="}, "< =": {"<", "="}, "<==": {"<=", "="}, "< ==": {"<", "=="}, "===": {"==", "="}, "====": {"==", "=="}, "!==": {"!=", "="}, "!= =": {"!=", "="}, "!===": {"!=", "=="}, ">==": {">=", "="}, ">>=": {">", ">="}, "<<": {"<", "<"}, "<>": {"<", ">"}, "=<": {"=", "<"}, "=>": {"=", ">"}, "=!": {"=", "!"}, "!!": {"!", "!"}, "!!=": {"!", "!="}, "&&": {"&&"}, "&&&&": {"&&", "&&"}, "||": {"||"}, "||||": {"||", "||"}, "&&||": {"&&", "||"}, "=~": {"=", "~"}, "!~": {"!", "~"}, "--": {"-", "-"}, "++": {"+", "+"}, "+=": {"+", "="}, "**": {"*", "*"}, "..": {".", "."}, "=====": {"==", "==", "="}, "<=<": {"<=", "<"}, "{}()[]": {"{", "}", "(", ")", "[", "]"},
	} {
		wantLex(t, s, marks(want...)...)
	}
	for s, place := range map[string]int{"&": 0, "|": 0, "a &": 2, "a|": 1, "&&&": 2, "|||": 2, "& &": 0, "| |": 0, "&|": 0, "|&": 0, "&&|": 2, "&=": 0, "|=": 0, "a & b": 2, "a&b": 1, "<&": 1, "=|": 1, "&a&": 0} {
		wantNoLex(t, s, place)
	}
}

func TestBytesThatBeginNoToken(t *testing.T) {
	for c := range 256 {
		s := string([]byte{byte(c)})
		wantLexAsTold(t, s)
		begins := c >= 'a' && c <= 'z' || c >= '0' && c <= '9' || strings.Contains(" \t\n\r#{}()[],;$+-*/%.<>!~=", s)
		if begins {
			continue
		}
		wantNoLex(t, s, 0)
		wantNoLex(t, "  "+s, 2)
		wantNoLex(t, "a "+s, 2)
		wantNoLex(t, "a"+s, 1)
		wantNoLex(t, "12"+s, 2)
		wantNoLex(t, "'' "+s, 3)
		wantNoLex(t, "~"+s, 1)
		wantNoLex(t, "#"+s+"\n="+s, 4)
	}
	for _, s := range bytesOfAllKinds() {
		wantLexAsTold(t, s)
		wantLexAsTold(t, "#"+s)
		wantLexAsTold(t, "a '' "+s)
	}
}

func TestAllShortTextsAreReadAsTold(t *testing.T) {
	t.Parallel()
	for first := range 256 {
		for second := range 256 {
			s := string([]byte{byte(first), byte(second)})
			wantLexAsTold(t, s)
			wantLexAsTold(t, "~"+s+"/")
		}
	}
	for _, s := range shortTexts("~/'#\na0&=", 6) {
		wantLexAsTold(t, s)
	}
	for _, s := range shortTexts("~/ b", 9) {
		wantLexAsTold(t, s)
	}
	for _, s := range shortTexts("<=!>|", 6) {
		wantLexAsTold(t, s)
	}
	for _, s := range shortTexts("01a ", 8) {
		wantLexAsTold(t, s)
	}
}

func TestNoMoreThanMaxTokens(t *testing.T) {
	for _, piece := range []string{"a ", "7 ", "'' ", "'a'", "{", "~", "<= ", "~/a/", "a=", "\n\t#x\n;", "a#\n"} {
		one, _ := impl.Lex(piece)
		full := strings.Repeat(piece, impl.MaxTokens/len(one))
		want := slices.Repeat(one, impl.MaxTokens/len(one))
		wantLex(t, full, want...)
		wantLex(t, full+" # and a remark", want...)
		wantLex(t, full+" \n\n", want...)
		for _, more := range []string{"a", "1", "''", "{", "<=", "'", "&", "\xff", "01", "a b c", "ninelette"} {
			wantNoLex(t, full+" "+more, len(full)+1)
			wantNoLex(t, full+"\n#\n "+more, len(full)+4)
		}
		wantNoLex(t, full+piece, len(full)+len(toldGap.FindString(piece)))
		wantNoLex(t, full+" "+full, len(full)+1+len(toldGap.FindString(piece)))
	}
	almost := strings.Repeat("a ", impl.MaxTokens-1)
	wantLex(t, almost, slices.Repeat(tokens(nameToken("a")), impl.MaxTokens-1)...)
	wantLex(t, almost+"~", append(slices.Repeat(tokens(nameToken("a")), impl.MaxTokens-1), markToken("~"))...)
	wantNoLex(t, almost+"~ /a/", len(almost)+2)
	wantNoLex(t, almost+"&", len(almost))
	wantNoLex(t, "& "+almost+almost, 0)
	wantNoLex(t, strings.Repeat("a ", 1000000), 2*impl.MaxTokens)
}

func rightTokens() []impl.Token {
	l := tokens(intToken(0), intToken(1), intToken(42), intToken(2147483646), intToken(2147483647))
	for _, s := range []string{"a", "z", "ab", "a1", "z0", "x1y2", "abcdefgh", "a1234567", "begin", "nr"} {
		l = append(l, nameToken(s))
	}
	for _, s := range []string{"", " ", "a", "it", "  a b ", "/", "#", "~ /a/", "~", "&", "A", "01", "\"\\`", "!", "&(", strings.Repeat("a", 199), strings.Repeat(" ", 200), strings.Repeat("~", 200)} {
		l = append(l, quoteToken(s))
	}
	for _, s := range []string{"a", " ", "#", "'", "'a'", "~", "it's", "a b", "(a|b)*", "^$", ".0", "\\", "A", strings.Repeat("a", 199), strings.Repeat("~", 200), strings.Repeat("'", 200)} {
		l = append(l, rexToken(s))
	}
	return append(l, marks(allMarks()...)...)
}

func wrongTokens() []impl.Token {
	l := tokens(impl.Token{}, intToken(-1), intToken(2147483648), intToken(4294967296), intToken(-2147483648), intToken(math.MaxInt), intToken(math.MinInt))
	for _, s := range []string{"0", "7", "a", " ", "\x00"} {
		l = append(l, impl.Token{K: impl.KInt, S: s}, impl.Token{K: impl.KInt, N: 7, S: s})
	}
	for _, s := range []string{"", "1", "1a", "A", "Ab", "aB", "a_", "_", " ", " a", "a ", "a b", "-", "'a'", "a\n", "a\x00", "\xff", "é", "aé", "abcdefghi", "a12345678", strings.Repeat("a", 100)} {
		l = append(l, nameToken(s))
	}
	for _, s := range []string{"'", "a'", "'a", "'a'", "\n", "a\tb", "\x00", "\x1f", "a\x1f", "\x7f", "\x80", "\xff", "é", "a\r", brokenText, strings.Repeat("a", 201), strings.Repeat("a", 100000), strings.Repeat("a", 199) + "\x7f"} {
		l = append(l, quoteToken(s))
	}
	for _, s := range []string{"", "/", "a/", "/a", "/a/", "\n", "a\tb", "\x00", "\x1f", "\x7f", "a\x7f", "\x80", "\xff", "é", "a\r", brokenText, strings.Repeat("a", 201), strings.Repeat("a", 100000), strings.Repeat("a", 199) + "\x1f"} {
		l = append(l, rexToken(s))
	}
	l = append(l, marks("", "&", "|", "a", "1", "A", "'", "#", "_", ":", "?", "@", "\\", "^", "`", "\"", " ", "\n", "\x00", "\x7f", "\xff", "é", "=<", "=>", "=!", "<<", ">>", "<>", "&|", "!!", "~~", "=~", "!~", "--", "++", "//", "..", "===", "!==", "<==", "&&&", "|||", "==x", " =", "= ", "{}", "[]", "()")...)
	for _, token := range rightTokens() {
		for _, n := range []int{-1, 1, 2147483648, math.MaxInt, math.MinInt} {
			if token.K != impl.KInt {
				l = append(l, impl.Token{K: token.K, N: n, S: token.S})
			}
		}
		for _, k := range []int{0, -1, 6, 7, 255, 256 + token.K, -token.K, math.MaxInt, math.MinInt} {
			l = append(l, impl.Token{K: k, N: token.N, S: token.S})
		}
	}
	return l
}

func TestTokenOk(t *testing.T) {
	for _, token := range rightTokens() {
		if !impl.TokenOk(token) {
			t.Errorf("TokenOk(%#v) = false", token)
		}
	}
	for _, token := range wrongTokens() {
		if impl.TokenOk(token) {
			t.Errorf("TokenOk(%#v) = true", token)
		}
	}
}

// toldTokenOk asks each field by the chapter's words, by means of the library.
func toldTokenOk(token impl.Token) bool {
	switch token.K {
	case impl.KInt:
		return int(int32(token.N)) == token.N && token.N >= 0 && token.S == ""
	case impl.KName:
		return token.N == 0 && len(token.S) <= 8 && token.S != "" && toldName.FindString(token.S) == token.S
	case impl.KText:
		return token.N == 0 && len(token.S) <= 200 && toldText.FindString("'"+token.S+"'") == "'"+token.S+"'"
	case impl.KRex:
		return token.N == 0 && len(token.S) <= 200 && toldRex.FindString("/"+token.S+"/") == "/"+token.S+"/"
	case impl.KMark:
		return token.N == 0 && slices.Contains(allMarks(), token.S)
	}
	return false
}

func TestTokensAreRightAsTold(t *testing.T) {
	texts := append(shortTexts("a0'/&=\x7f", 3), someTexts()...)
	texts = append(texts, bytesOfAllKinds()...)
	for c := range 256 {
		b := string([]byte{byte(c)})
		texts = append(texts, b, "a"+b, b+"a", "a"+b+"a", b+b, "="+b, "<"+b, "!"+b)
	}
	for size := range 12 {
		texts = append(texts, strings.Repeat("b", size))
	}
	for size := 195; size < 206; size++ {
		texts = append(texts, strings.Repeat("b", size))
	}
	for kind := -2; kind < 9; kind++ {
		for _, n := range append(edges(), someNumbers()...) {
			for _, s := range texts[:60] {
				wantTokenOkAsTold(t, impl.Token{K: kind, N: n, S: s})
			}
		}
		for _, s := range texts {
			wantTokenOkAsTold(t, impl.Token{K: kind, S: s})
			wantTokenOkAsTold(t, impl.Token{K: kind, N: 1, S: s})
		}
	}
}

func wantTokenOkAsTold(t *testing.T, token impl.Token) {
	t.Helper()
	want := toldTokenOk(token)
	if impl.TokenOk(token) != want {
		t.Errorf("TokenOk(%#v) = %v", token, !want)
	}
	if (impl.TokenText(token) != "") != want {
		t.Errorf("TokenText(%#v) = %q", token, impl.TokenText(token))
	}
}

func TestTokenText(t *testing.T) {
	for _, z := range []struct {
		token impl.Token
		want  string
	}{
		{intToken(0), "0"}, {intToken(7), "7"}, {intToken(10), "10"}, {intToken(2147483647), "2147483647"}, {nameToken("a"), "a"}, {nameToken("x1"), "x1"}, {nameToken("abcdefgh"), "abcdefgh"},
		{quoteToken(""), "''"}, {quoteToken("it"), "'it'"}, {quoteToken(" a b "), "' a b '"}, {quoteToken("/#~"), "'/#~'"}, {quoteToken("\\"), "'\\'"}, {rexToken("a"), "/a/"}, {rexToken("a b"), "/a b/"}, {rexToken("'"), "/'/"}, {rexToken("#"), "/#/"}, {markToken("<="), "<="}, {markToken("/"), "/"}, {markToken("~"), "~"},
	} {
		if got := impl.TokenText(z.token); got != z.want {
			t.Errorf("TokenText(%#v) = %q, want %q", z.token, got, z.want)
		}
	}
	for _, mark := range allMarks() {
		if got := impl.TokenText(markToken(mark)); got != mark {
			t.Errorf("TokenText of %q = %q", mark, got)
		}
	}
	for _, token := range wrongTokens() {
		if got := impl.TokenText(token); got != "" {
			t.Errorf("TokenText(%#v) = %q", token, got)
		}
	}
}

func TestEachTokenComesBackOfItsText(t *testing.T) {
	for _, token := range rightTokens() {
		if token.K == impl.KRex {
			wantLex(t, "~"+impl.TokenText(token), markToken("~"), token)
		} else {
			wantLex(t, impl.TokenText(token), token)
		}
	}
}

func wantJoin(t *testing.T, want string, l ...impl.Token) {
	t.Helper()
	if got := impl.JoinTokens(l); got != want {
		t.Errorf("JoinTokens(%v) = %q, want %q", l, got, want)
	}
}

func TestJoinTokens(t *testing.T) {
	wantJoin(t, "")
	wantJoin(t, "a", nameToken("a"))
	wantJoin(t, "''", quoteToken(""))
	wantJoin(t, "a b", nameToken("a"), nameToken("b"))
	wantJoin(t, "0 '' / ~ /a b/ <= =", intToken(0), quoteToken(""), markToken("/"), markToken("~"), rexToken("a b"), markToken("<="), markToken("="))
	wantJoin(t, "{ print $ 1 ; }", markToken("{"), nameToken("print"), markToken("$"), intToken(1), markToken(";"), markToken("}"))
	if got := impl.JoinTokens(nil); got != "" {
		t.Errorf("JoinTokens(nil) = %q", got)
	}
}

// Of what is no Token the text is nothing; the blanks around it stay.
func TestJoinTokensOfWhatIsNone(t *testing.T) {
	for _, wrong := range wrongTokens() {
		wantJoin(t, "", wrong)
		wantJoin(t, " ", wrong, wrong)
		wantJoin(t, " a", wrong, nameToken("a"))
		wantJoin(t, "a ", nameToken("a"), wrong)
		wantJoin(t, "a  7", nameToken("a"), wrong, intToken(7))
		wantJoin(t, "a   7", nameToken("a"), wrong, wrong, intToken(7))
	}
}

func TestJoinTokensHasNoLimit(t *testing.T) {
	for _, size := range []int{impl.MaxTokens, impl.MaxTokens + 1, 100000} {
		want := strings.Repeat("ab ", size)
		wantJoin(t, want[:len(want)-1], slices.Repeat(tokens(nameToken("ab")), size)...)
	}
}

// fits tells whether a token may stand behind another, if a KRex, and no mark /, is to stand behind a ~.
func fits(ahead, token impl.Token) bool {
	if ahead == markToken("~") {
		return token != markToken("/")
	}
	return token.K != impl.KRex
}

func allFit(l []impl.Token) bool {
	ahead := impl.Token{}
	for _, token := range l {
		if !fits(ahead, token) {
			return false
		}
		ahead = token
	}
	return true
}

func TestTokensThatAreJoinedComeBack(t *testing.T) {
	wantLex(t, impl.JoinTokens(nil))
	all := rightTokens()
	for _, first := range all {
		for _, second := range all {
			for _, l := range [][]impl.Token{{first}, {first, second}, {markToken("~"), first, second}, {first, markToken("~"), second}, {quoteToken("~"), first, second, nameToken("a")}, {markToken("~"), rexToken("a"), first, second}, {markToken("~"), markToken("~"), first, second}} {
				if allFit(l) {
					wantLex(t, impl.JoinTokens(l), l...)
				}
			}
		}
	}
}

func TestLongListsOfTokensComeBack(t *testing.T) {
	all := rightTokens()
	for step := 1; step < len(all); step++ {
		l := tokens(nameToken("first"))
		for i := 0; len(l) < impl.MaxTokens; i += step {
			token := all[(i+i/len(all))%len(all)]
			if token.K == impl.KRex && len(l)+1 < impl.MaxTokens {
				l = append(l, markToken("~"))
			}
			if !fits(l[len(l)-1], token) {
				token = nameToken("other")
			}
			l = append(l, token)
		}
		wantLex(t, impl.JoinTokens(l), l...)
		wantNoLex(t, impl.JoinTokens(append(l, nameToken("b"))), len(impl.JoinTokens(l))+1)
	}
}

// Lists of which the chapter does not say so come as what their text is.
func TestTokensThatNeedNotComeBack(t *testing.T) {
	wantLex(t, impl.JoinTokens(tokens(rexToken("a"))), markToken("/"), nameToken("a"), markToken("/"))
	wantLex(t, impl.JoinTokens(tokens(nameToken("b"), rexToken("a b"))), nameToken("b"), markToken("/"), nameToken("a"), nameToken("b"), markToken("/"))
	wantNoLex(t, impl.JoinTokens(tokens(markToken("~"), markToken("/"))), 2)
	wantNoLex(t, impl.JoinTokens(tokens(markToken("~"), markToken("/"), nameToken("a"))), 2)
	wantLex(t, impl.JoinTokens(tokens(markToken("~"), markToken("/"), nameToken("a"), markToken("/"))), markToken("~"), rexToken(" a "))
	wantLex(t, impl.JoinTokens(tokens(markToken("~"), impl.Token{}, rexToken("a"), impl.Token{})), markToken("~"), rexToken("a"))
}

// What is read has a text that is read the same again.
func TestWhatIsReadIsRight(t *testing.T) {
	for _, s := range append(shortTexts("~/'#\na0=", 5), shortTexts("~/ b<", 6)...) {
		l, place := impl.Lex(s)
		for _, token := range l {
			if !impl.TokenOk(token) {
				t.Errorf("Lex(%q) has %#v", s, token)
			}
		}
		if place == -1 {
			wantLex(t, impl.JoinTokens(l), l...)
		}
	}
}

func TestLexTakesNoMoreThanAMoment(t *testing.T) {
	const size = 3000000
	start := time.Now()
	for _, piece := range []string{" ", "#", "#\n", "'", "''", "~", "/", "~/", "a", "9", "0", "<", "=", "&", "\xff", "\n#"} {
		long := strings.Repeat(piece, size)
		impl.Lex(long)
		impl.Lex("'" + long)
		impl.Lex("~/" + long)
		impl.Lex("#" + long)
		for kind := range 7 {
			impl.TokenOk(impl.Token{K: kind, S: long})
			impl.TokenText(impl.Token{K: kind, S: long})
		}
	}
	if took := time.Since(start); took > 20*time.Second {
		t.Errorf("it took %v", took)
	}
}

func tokenContents(l []impl.Token) string {
	var out strings.Builder
	for _, token := range l {
		out.WriteString(strconv.Itoa(token.K) + "," + strconv.Itoa(token.N) + "," + token.S + "\n")
	}
	return out.String()
}

func TestTokensThatAreReadAreNewMemory(t *testing.T) {
	for _, s := range []string{"", "a", "abc", "'it'", "''", "~/ab/", "<= == ; {", "a1 = 'x y' ~ /b*/ # no\n . 12", "a &", "'a", strings.Repeat("ab ", impl.MaxTokens), strings.Repeat("'ab'", impl.MaxTokens+1), "'" + strings.Repeat("a", impl.MaxText) + "'"} {
		b := roomy(s, 16)
		l, _ := impl.Lex(textOver(b))
		wantUntouched(t, "Lex", b, s)
		told := tokenContents(l)
		overwrite(b)
		if got := tokenContents(l); got != told {
			t.Errorf("the tokens of %q share memory with it: %q", shortened(s), shortened(got))
		}
	}
}

func TestTokensShareNoMemoryWithEachOther(t *testing.T) {
	const s = "ab ab 'ab' ~ /ab/ <= <= ("
	first, _ := impl.Lex(s)
	second, _ := impl.Lex(s)
	seen, size := map[*byte]int{}, 0
	for _, token := range append(slices.Clone(first), second...) {
		size += len(token.S)
		for i := range len(token.S) {
			seen[unsafe.StringData(token.S[i:])]++
		}
	}
	if len(seen) != size {
		t.Errorf("%d bytes of tokens lie in %d bytes", size, len(seen))
	}
	told := tokenContents(second)
	whole := first[:cap(first)]
	for i := range whole {
		whole[i] = impl.Token{K: 9, N: 9, S: "overwritten"}
	}
	if tokenContents(second) != told {
		t.Errorf("two answers share their list: %v", second)
	}
}

func TestTextsOfTokensAreNewMemory(t *testing.T) {
	for _, kind := range []int{impl.KInt, impl.KName, impl.KText, impl.KRex, impl.KMark, 0, 6} {
		for _, s := range []string{"", "a", "abc", "a b", "=", "<=", "'", "/", "\xff", strings.Repeat("a", impl.MaxText)} {
			for name, call := range map[string]func(impl.Token) string{
				"TokenOk":              func(token impl.Token) string { impl.TokenOk(token); return "" },
				"TokenText":            impl.TokenText,
				"JoinTokens of one":    func(token impl.Token) string { return impl.JoinTokens(tokens(token)) },
				"JoinTokens of two":    func(token impl.Token) string { return impl.JoinTokens(tokens(token, token)) },
				"JoinTokens with none": func(token impl.Token) string { return impl.JoinTokens(tokens(impl.Token{}, token)) },
			} {
				b := roomy(s, 16)
				answer := call(impl.Token{K: kind, S: textOver(b)})
				wantUntouched(t, name, b, s)
				told := strings.Clone(answer)
				overwrite(b)
				if answer != told {
					t.Errorf("%s of kind %d of %q shares memory: %q", name, kind, s, answer)
				}
			}
		}
	}
}

func TestJoinTokensLeavesTheList(t *testing.T) {
	for size := range 6 {
		whole := tokens(nameToken("a"), impl.Token{}, intToken(5), quoteToken("b"), markToken("&"), nameToken("spare"), nameToken("room"))
		before := slices.Clone(whole)
		got := impl.JoinTokens(whole[:size])
		if !slices.Equal(whole, before) {
			t.Errorf("JoinTokens wrote into its list: %v", whole)
		}
		if want := impl.JoinTokens(slices.Clip(before[:size])); got != want || strings.Contains(got, "spare") {
			t.Errorf("what lies behind a list's length counts: %q, %q", got, want)
		}
	}
}
