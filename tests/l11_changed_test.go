package tests

import (
	"math/rand"
	"slices"
	"strings"
	"testing"

	"loop.example/g00288/impl"
)

// eachSequence hands on all lists of these words up to this length, with blanks between.
func eachSequence(words []string, size int, use func(string)) {
	level := []string{""}
	for range size {
		var next []string
		for _, s := range level {
			for _, word := range words {
				next = append(next, s+word+" ")
				use(s + word)
			}
		}
		level = next
	}
}

func TestAllShortTerms(t *testing.T) {
	t.Parallel()
	read := 0
	for _, z := range []struct {
		words string
		size  int
	}{
		{"x 1 'a' nr length substr index upper gsub ( ) [ ] , - ! $ + in ~ /a/ ~/a/ = == ; print { }", 3},
		{"x ( ) , - 1", 6},
		{"f ( ) , x", 7},
		{"x [ ] $ ! (", 6},
		{"( x + ) - in", 6},
		{"( x ~/a/ ) gsub ,", 6},
		{"length ( x ) ,", 6},
		{"index substr ( ) x,", 6},
		{"substr( x , )", 7},
		{"( x in nr 't' )", 6},
	} {
		eachSequence(strings.Fields(z.words), z.size, func(s string) {
			if wantExprAsRead(t, s) {
				read++
			}
		})
	}
	if read < 100 {
		t.Errorf("only %d of them were read", read)
	}
}

func TestAllShortBlocks(t *testing.T) {
	t.Parallel()
	read := 0
	for _, z := range []struct {
		words string
		size  int
	}{
		{"x 1 = ; f( ) t[ ] $ next print exit return delete , { } if( while( else in for(", 3},
		{"x = 1 ; ( ) next", 6},
		{"x [ ] = ; delete", 6},
		{"$ x = ; -", 6},
		{"print x , ;", 7},
		{"if ( x ) { } else", 6},
		{"if(x){ } else{ next;", 6},
		{"while (x) {} {next;} ;", 5},
		{"for( x in ) {}", 6},
		{"exit return next x ; 'a'", 5},
		{"f ( ) x ; ,", 6},
	} {
		eachSequence(strings.Fields(z.words), z.size, func(s string) {
			if wantBlockAsRead(t, "{ "+s+" }") {
				read++
			}
		})
	}
	if read < 100 {
		t.Errorf("only %d of them were read", read)
	}
}

func TestAllShortPrograms(t *testing.T) {
	t.Parallel()
	read := 0
	for _, z := range []struct {
		words string
		size  int
	}{
		{"x 1 'a' - ( ) { } begin end func f() , ; next print else if in", 3},
		{"begin end { } x func", 6},
		{"func f ( ) {} ,", 6},
		{"func f(x , x ){}", 6},
		{"func f(x) g() {} begin", 6},
		{"begin end x {} {next;} 'end'", 5},
		{"- x {} (x) $ !", 5},
	} {
		eachSequence(strings.Fields(z.words), z.size, func(s string) {
			if wantProgAsRead(t, s) {
				read++
			}
		})
	}
	if read < 100 {
		t.Errorf("only %d of them were read", read)
	}
}

// otherTokens are what may come in a token's place.
func otherTokens() []impl.Token {
	l := marks(allMarks()...)
	for _, word := range noNames() {
		l = append(l, nameToken(word))
	}
	return append(l, nameToken("x"), nameToken("f"), nameToken("t"), nameToken("prints"), intToken(0), intToken(1), quoteToken(""), quoteToken("x"), quoteToken(","), rexToken("a"), rexToken("(a)"))
}

// changedTexts are the texts of these tokens with one less, one more, another in its place, and two that changed places.
func changedTexts(l []impl.Token, others []impl.Token) []string {
	var texts []string
	for i := range len(l) + 1 {
		for _, other := range others {
			texts = append(texts, impl.JoinTokens(slices.Insert(slices.Clone(l), i, other)))
			if i < len(l) {
				changed := slices.Clone(l)
				changed[i] = other
				texts = append(texts, impl.JoinTokens(changed))
			}
		}
		if i == len(l) {
			break
		}
		texts = append(texts, impl.JoinTokens(slices.Delete(slices.Clone(l), i, i+1)), impl.JoinTokens(slices.Insert(slices.Clone(l), i, l[i])), impl.JoinTokens(l[:i]), impl.JoinTokens(l[i:]))
		for j := range i {
			changed := slices.Clone(l)
			changed[i], changed[j] = changed[j], changed[i]
			texts = append(texts, impl.JoinTokens(changed))
		}
	}
	return texts
}

func TestOneTokenThatIsOtherInATerm(t *testing.T) {
	read := 0
	for _, row := range exprRows() {
		l, _ := toldLex(row.text)
		for _, s := range changedTexts(l, otherTokens()) {
			if wantExprAsRead(t, s) {
				read++
			}
		}
	}
	if read < 1000 {
		t.Errorf("only %d of them were read", read)
	}
}

func TestOneTokenThatIsOtherInABlock(t *testing.T) {
	t.Parallel()
	read := 0
	for _, row := range stmtRows() {
		l, _ := toldLex("{ " + row.text + " }")
		for _, s := range changedTexts(l, otherTokens()) {
			if wantBlockAsRead(t, s) {
				read++
			}
		}
	}
	if read < 1000 {
		t.Errorf("only %d of them were read", read)
	}
}

func TestOneTokenThatIsOtherInAProgram(t *testing.T) {
	t.Parallel()
	read := 0
	for _, row := range progRows() {
		l, _ := toldLex(row.text)
		others := otherTokens()
		if len(l) > 20 {
			others = append(marks("{", "}", "(", ")", ",", ";", "-", "="), nameToken("begin"), nameToken("func"), nameToken("in"), nameToken("f"), nameToken("g"), nameToken("x"), intToken(1))
		}
		for _, s := range changedTexts(l, others) {
			if wantProgAsRead(t, s) {
				read++
			}
		}
	}
	if read < 1000 {
		t.Errorf("only %d of them were read", read)
	}
}

// Whatever the text is, it is read as told, or not at all.
func TestTextsOfAllSorts(t *testing.T) {
	t.Parallel()
	r := rand.New(rand.NewSource(7))
	all := otherTokens()
	for range 15000 {
		var l []impl.Token
		for range r.Intn(12) {
			l = append(l, someOf(r, all))
		}
		s := impl.JoinTokens(l)
		wantExprAsRead(t, s)
		wantBlockAsRead(t, "{ "+s+" }")
		wantProgAsRead(t, s)
	}
	const signs = " \n#'x1nrf(){}[],;$+-~/=!<&|.%*A\x00\xff"
	for range 30000 {
		b := make([]byte, r.Intn(16))
		for i := range b {
			b[i] = signs[r.Intn(len(signs))]
		}
		s := string(b)
		wantExprAsRead(t, s)
		wantBlockAsRead(t, s)
		wantBlockAsRead(t, "{"+s+"}")
		wantProgAsRead(t, s)
	}
	for _, s := range slices.Concat(someTexts(), bytesOfAllKinds(), shortTexts("x(){;", 5), shortTexts("-1'#\n", 5)) {
		wantExprAsRead(t, s)
		wantBlockAsRead(t, s)
		wantProgAsRead(t, s)
	}
	for c := range 256 {
		b := string([]byte{byte(c)})
		for _, s := range []string{b, "x" + b, b + "x", "(x" + b + "1)", "f(x" + b + "1)", "'" + b + "'"} {
			wantExprAsRead(t, s)
			wantProgAsRead(t, s+"{}")
			wantBlockAsRead(t, "{x="+s+";}")
		}
	}
}

// What was asked ahead, right or wrong, turns no answer.
func TestReadingHangsOnTheTextAlone(t *testing.T) {
	wrong := []string{"", "(", "f(1, 2", "{ next; ", "func f(a, a) { }", "{ } func f() { }", "'a", "begin { if (x) { } else { } }", "x { print 1; } y"}
	for _, row := range exprRows() {
		for _, s := range wrong {
			wantNoReadExpr(t, s)
			impl.ParseBlock(s)
			impl.ParseProg(s)
			wantReadExpr(t, row.text, row.e)
		}
	}
	for _, row := range progRows() {
		for _, s := range wrong {
			impl.ParseExpr(s)
			wantNoReadBlock(t, s)
			impl.ParseProg(s)
			wantReadProg(t, row.text, row.p)
		}
	}
}
