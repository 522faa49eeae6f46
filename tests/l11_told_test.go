package tests

import (
	"slices"
	"strings"
	"testing"

	"loop.example/g00288/impl"
)

// grammarRules are the texts of what is right, by the chapters 8 to 10: the ways of each part, with blanks between its tokens and its own parts. What has a limit of its own (depth, how many parts) is not told here.
func grammarRules() map[string][]string {
	return map[string][]string{
		"Term": {
			"Num", "Text", "Name", "nr", "nf", "Name [ Term ]", "$ Term", "! Term", "- Term", "Call",
			"( Term Sign Term )", "( Term in Name )", "( Term ~ Rex )",
			"length ( Term )", "upper ( Term )", "index ( Term , Term )", "substr ( Term , Term , Term )", "gsub ( Term ~ Rex , Term )",
		},
		"Call":  {"Name ( )", "Name ( Term )", "Name ( Term , Term )", "Name ( Term , Term , Term )", "Name ( Term , Term , Term , Term )"},
		"Sign":  {"+", "-", "*", "/", "%", ".", "<", "<=", "==", "!=", ">", ">=", "&&", "||"},
		"Terms": {"Term", "Term , Term", "Term , Term , Term", "Term , Term , Term , Term", "Term , Term , Term , Term , Term"},
		"Stmt": {
			"print Terms ;", "Name = Term ;", "Name [ Term ] = Term ;", "$ Term = Term ;",
			"if ( Term ) Block", "if ( Term ) Block else { Stmt Stmts }", "while ( Term ) Block", "for ( Name in Name ) Block",
			"next ;", "exit Term ;", "return Term ;", "delete Name [ Term ] ;", "Call ;",
		},
		"Stmts": {"", "Stmt Stmts"},
		"Block": {"{ Stmts }"},
		"Names": {"", "Name", "Name , Name", "Name , Name , Name", "Name , Name , Name , Name"},
		"Fn":    {"func Name ( Names ) Block"},
		"Rule":  {"begin Block", "end Block", "Block", "Term Block"},
		"Fns":   {"", "Fn Fns"},
		"Rules": {"", "Rule Rules"},
		"Prog":  {"Fns Rules"},
	}
}

// grammarWays are the rules with their symbols cut apart, once for all tests.
var grammarWays = func() map[string][][]string {
	ways := map[string][][]string{}
	for symbol, texts := range grammarRules() {
		for _, text := range texts {
			ways[symbol] = append(ways[symbol], strings.Fields(text))
		}
	}
	return ways
}()

// A toldReader knows where each symbol may end that begins at a place.
type toldReader struct {
	tokens []impl.Token
	known  map[symbolPlace][]int
}

type symbolPlace struct {
	symbol string
	at     int
}

func isToldSymbol(symbol string, token impl.Token) bool {
	switch symbol {
	case "Num":
		return token.K == impl.KInt
	case "Text":
		return token.K == impl.KText
	case "Name":
		return token.K == impl.KName && toldNameOk(token.S)
	case "Rex":
		return token.K == impl.KRex && toldSOk(sRex, token.S)
	}
	return (token.K == impl.KName || token.K == impl.KMark) && token.S == symbol
}

func (in *toldReader) ends(symbol string, at int) []int {
	ways, ok := grammarWays[symbol]
	if !ok {
		if at < len(in.tokens) && isToldSymbol(symbol, in.tokens[at]) {
			return []int{at + 1}
		}
		return nil
	}
	place := symbolPlace{symbol, at}
	if ends, ok := in.known[place]; ok {
		return ends
	}
	var ends []int
	for _, way := range ways {
		reached := []int{at}
		for _, part := range way {
			var further []int
			for _, from := range reached {
				further = append(further, in.ends(part, from)...)
			}
			slices.Sort(further)
			reached = slices.Compact(further)
			if len(reached) == 0 {
				break
			}
		}
		ends = append(ends, reached...)
	}
	slices.Sort(ends)
	ends = slices.Compact(ends)
	in.known[place] = ends
	return ends
}

// toldNamesApart asks that no two functions and no two Params of one have one name, of tokens that are a program.
func toldNamesApart(l []impl.Token) bool {
	var names []string
	for i := 0; i < len(l); i++ {
		if l[i] != nameToken("func") {
			continue
		}
		names = append(names, l[i+1].S)
		var params []string
		for i += 3; l[i] != markToken(")"); i++ {
			if l[i] != markToken(",") {
				params = append(params, l[i].S)
			}
		}
		if !toldNamesOk(params, 4) {
			return false
		}
	}
	return toldNamesOk(names, 6)
}

// toldRead is whether these tokens are those of a tree that is right but for its limits.
func toldRead(symbol string, l []impl.Token) bool {
	in := &toldReader{tokens: l, known: map[symbolPlace][]int{}}
	return slices.Contains(in.ends(symbol, 0), len(l)) && (symbol != "Prog" || toldNamesApart(l))
}

func isZeroExpr(e impl.Expr) bool { return e.K == 0 && e.N == 0 && e.S == "" && len(e.L) == 0 }

func isZeroProg(p impl.Prog) bool { return len(p.Rules) == 0 && len(p.Fns) == 0 }

func wantReadExpr(t *testing.T, s string, want impl.Expr) {
	t.Helper()
	if got, ok := impl.ParseExpr(s); !ok || !toldSameExpr(got, want) {
		t.Errorf("ParseExpr(%q) = %v, %v", shortened(s), got, ok)
	}
}

func wantReadBlock(t *testing.T, s string, want ...impl.Stmt) {
	t.Helper()
	if got, ok := impl.ParseBlock(s); !ok || !slices.EqualFunc(got, want, toldSameStmt) {
		t.Errorf("ParseBlock(%q) = %v, %v", shortened(s), got, ok)
	}
}

func wantReadProg(t *testing.T, s string, want impl.Prog) {
	t.Helper()
	if got, ok := impl.ParseProg(s); !ok || !toldSameProg(got, want) {
		t.Errorf("ParseProg(%q) = %v, %v", shortened(s), got, ok)
	}
}

func wantNoReadExpr(t *testing.T, s string) {
	t.Helper()
	if got, ok := impl.ParseExpr(s); ok || !isZeroExpr(got) {
		t.Errorf("ParseExpr(%q) = %v, %v, want none", shortened(s), got, ok)
	}
}

func wantNoReadBlock(t *testing.T, s string) {
	t.Helper()
	if got, ok := impl.ParseBlock(s); ok || len(got) != 0 {
		t.Errorf("ParseBlock(%q) = %v, %v, want none", shortened(s), got, ok)
	}
}

func wantNoReadProg(t *testing.T, s string) {
	t.Helper()
	if got, ok := impl.ParseProg(s); ok || !isZeroProg(got) {
		t.Errorf("ParseProg(%q) = %v, %v, want none", shortened(s), got, ok)
	}
}

func wantNothingRead(t *testing.T, s string) {
	t.Helper()
	wantNoReadExpr(t, s)
	wantNoReadBlock(t, s)
	wantNoReadProg(t, s)
}

// wantNoTerm is for what is no term: it is none in any place where one may stand.
func wantNoTerm(t *testing.T, s string) {
	t.Helper()
	wantNoReadExpr(t, s)
	wantNoReadExpr(t, "f(1, "+s+")")
	wantNoReadExpr(t, "((x + "+s+") . 'a')")
	wantNoReadBlock(t, "{ next; x = "+s+"; }")
	wantNoReadBlock(t, "{ if ("+s+") { } }")
	wantNoReadBlock(t, "{ print 1, "+s+"; next; }")
	wantNoReadProg(t, "begin { t["+s+"] = 1; }")
	wantNoReadProg(t, "{ }\n"+s+" { next; }")
}

// wantNoStatements is for what is no list of statements.
func wantNoStatements(t *testing.T, s string) {
	t.Helper()
	wantNoReadBlock(t, "{ "+s+" }")
	wantNoReadBlock(t, "{ next; "+s+" next; }")
	wantNoReadBlock(t, "{ while (x) { "+s+" } }")
	wantNoReadBlock(t, "{ if (x) { } else { next; "+s+" } }")
	wantNoReadProg(t, "begin { "+s+" }")
	wantNoReadProg(t, "x { next; "+s+" }")
	wantNoReadProg(t, "func f(a) { "+s+" }")
}

func hasTextOf(tokens []impl.Token, s string) bool {
	got, place := impl.Lex(s)
	return place == -1 && slices.Equal(got, tokens)
}

// wantExprAsRead, and those of blocks and programs, ask by the grammar whether the text is read; what was read must be right and have the tokens of the text.
func wantExprAsRead(t *testing.T, s string) bool {
	t.Helper()
	l, place := impl.Lex(s)
	want := place == -1 && toldRead("Term", l)
	got, ok := impl.ParseExpr(s)
	if ok != want || ok && !(toldExprOk(got) && hasTextOf(l, toldExprText(got))) || !ok && !isZeroExpr(got) {
		t.Errorf("ParseExpr(%q) = %v, %v, want %v", s, got, ok, want)
	}
	return want
}

func wantBlockAsRead(t *testing.T, s string) bool {
	t.Helper()
	l, place := impl.Lex(s)
	want := place == -1 && toldRead("Block", l)
	got, ok := impl.ParseBlock(s)
	if ok != want || ok && !(toldBlockOk(got) && hasTextOf(l, toldBlockText(got))) || !ok && len(got) != 0 {
		t.Errorf("ParseBlock(%q) = %v, %v, want %v", s, got, ok, want)
	}
	return want
}

func wantProgAsRead(t *testing.T, s string) bool {
	t.Helper()
	l, place := impl.Lex(s)
	want := place == -1 && toldRead("Prog", l)
	got, ok := impl.ParseProg(s)
	if ok != want || ok && !(toldProgOk(got) && hasTextOf(l, toldProgText(got))) || !ok && !isZeroProg(got) {
		t.Errorf("ParseProg(%q) = %v, %v, want %v", s, got, ok, want)
	}
	return want
}
