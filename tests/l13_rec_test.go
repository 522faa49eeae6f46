package tests

import (
	"math"
	"math/rand"
	"slices"
	"strings"
	"testing"

	"loop.example/g00288/impl"
)

func TestTheLimitOfFields(t *testing.T) {
	if impl.MaxFields != 20 || impl.MaxText != 200 {
		t.Errorf("the limits are %d and %d", impl.MaxFields, impl.MaxText)
	}
}

func TestRecOf(t *testing.T) {
	for _, s := range []string{"", " ", "\t", "   ", " \t ", "\t\t\t", strings.Repeat(" ", 200)} {
		wantRec(t, s, s)
	}
	for _, s := range []string{"a", " a", "a ", "\ta", "a\t", "  a  ", " \t a \t "} {
		wantRec(t, s, s, "a")
	}
	for _, s := range []string{"a bc", "a  bc", "a\tbc", "a \t bc", " a bc", "a bc ", "  a   bc  ", "\ta\tbc\t"} {
		wantRec(t, s, s, "a", "bc")
	}
	wantRec(t, " a  bc\td ", " a  bc\td ", "a", "bc", "d")
	wantRec(t, "a a a", "a a a", "a", "a", "a")
	wantRec(t, "a,b;c {d}\n\r\v\f'e", "a,b;c {d}\n\r\v\f'e", "a,b;c", "{d}\n\r\v\f'e")
	wantRec(t, "a\n b", "a\n b", "a\n", "b")
	wantRec(t, "\x00 \x00\x00", "\x00 \x00\x00", "\x00", "\x00\x00")
	wantRec(t, "0 -1 007", "0 -1 007", "0", "-1", "007")
}

func TestRecOfHasTheFirstFields(t *testing.T) {
	for count := 0; count <= 100; count++ {
		words := wordsOf(count)
		for _, blank := range []string{" ", "\t"} {
			for _, s := range []string{strings.Join(words, blank), blank + strings.Join(words, blank)} {
				if len(s) <= 200 {
					wantRec(t, s, s, words[:min(count, 20)]...)
				}
			}
		}
	}
	words := strings.Join(wordsOf(20), " ")
	wantRec(t, words+" ", words+" ", wordsOf(20)...)
	wantRec(t, words+"\t\t ", words+"\t\t ", wordsOf(20)...)
	wantRec(t, words+" ux", words+" ux", wordsOf(20)...)
	wantRec(t, " "+words+"  u  v", " "+words+"  u  v", wordsOf(20)...)
	wantRec(t, words+"tt u", words+"tt u", append(wordsOf(19), "ttt")...)
	wantRec(t, words+strings.Repeat(" ", 161)+"uv", words+strings.Repeat(" ", 161), wordsOf(20)...)
}

func TestRecOfHasTheFirstBytes(t *testing.T) {
	q := strings.Repeat("q", 1000)
	for _, size := range []int{0, 1, 2, 100, 198, 199, 200} {
		if size > 0 {
			wantRec(t, q[:size], q[:size], q[:size])
		}
		wantRec(t, strings.Repeat(" ", size), strings.Repeat(" ", size))
	}
	for _, size := range []int{201, 202, 255, 256, 257, 300, 400, 1000} {
		wantRec(t, q[:size], q[:200], q[:200])
		wantRec(t, strings.Repeat(" ", size), strings.Repeat(" ", 200))
		wantRec(t, "a "+q[:size], "a "+q[:198], "a", q[:198])
	}
	// The 200th byte is within a word, a word's last one, a blank, behind one, and a word of its own.
	wantRec(t, "a "+q[:198]+"b", "a "+q[:198], "a", q[:198])
	wantRec(t, "a "+q[:197]+"b", "a "+q[:197]+"b", "a", q[:197]+"b")
	wantRec(t, "a "+q[:198]+" b", "a "+q[:198], "a", q[:198])
	wantRec(t, "a "+q[:197]+" b", "a "+q[:197]+" ", "a", q[:197])
	wantRec(t, "a "+q[:197]+"\tb", "a "+q[:197]+"\t", "a", q[:197])
	wantRec(t, "a "+q[:196]+" b", "a "+q[:196]+" b", "a", q[:196], "b")
	wantRec(t, "a "+q[:196]+" bc", "a "+q[:196]+" b", "a", q[:196], "b")
	wantRec(t, "a "+q[:195]+" bc", "a "+q[:195]+" bc", "a", q[:195], "bc")
	wantRec(t, "a "+q[:195]+" bc d", "a "+q[:195]+" bc", "a", q[:195], "bc")
	wantRec(t, q[:199]+" b", q[:199]+" ", q[:199])
	wantRec(t, q[:200]+" b", q[:200], q[:200])
	wantRec(t, q[:198]+" b c", q[:198]+" b", q[:198], "b")
	wantRec(t, strings.Repeat(" ", 199)+"bc", strings.Repeat(" ", 199)+"b", "b")
	wantRec(t, strings.Repeat(" ", 200)+"bc", strings.Repeat(" ", 200))
	wantRec(t, strings.Repeat(" ", 201)+"bc", strings.Repeat(" ", 200))
	wantRec(t, strings.Repeat("ab ", 1000000), strings.Repeat("ab ", 66)+"ab", slices.Repeat([]string{"ab"}, 20)...)
	wantRec(t, strings.Repeat("x", 1000000), strings.Repeat("x", 200), strings.Repeat("x", 200))
}

// The 200 are bytes, not letters, and other blanks than 32 and 9 are none.
func TestRecOfWhatIsNoUTF8(t *testing.T) {
	wantRec(t, "\xff \x80", "\xff \x80", "\xff", "\x80")
	wantRec(t, "\xe2\x82 \xac", "\xe2\x82 \xac", "\xe2\x82", "\xac")
	wantRec(t, "é €\t😀", "é €\t😀", "é", "€", "😀")
	wantRec(t, "a\u00a0b\u2003c\u0085d e", "a\u00a0b\u2003c\u0085d e", "a\u00a0b\u2003c\u0085d", "e")
	wantRec(t, brokenText+" "+brokenText, brokenText+" "+brokenText, brokenText, brokenText)
	wantRec(t, strings.Repeat("é", 101), strings.Repeat("é", 100), strings.Repeat("é", 100))
	wantRec(t, "a"+strings.Repeat("é", 100), "a"+strings.Repeat("é", 99)+"\xc3", "a"+strings.Repeat("é", 99)+"\xc3")
	wantRec(t, "ab"+strings.Repeat("€", 67), "ab"+strings.Repeat("€", 66), "ab"+strings.Repeat("€", 66))
	wantRec(t, strings.Repeat("€", 67), strings.Repeat("€", 66)+"\xe2\x82", strings.Repeat("€", 66)+"\xe2\x82")
	wantRec(t, strings.Repeat("\xff", 201), strings.Repeat("\xff", 200), strings.Repeat("\xff", 200))
	for _, s := range bytesOfAllKinds() {
		for _, ahead := range []int{0, 1, 190, 196, 197, 198, 199, 200, 201} {
			wantRecAsTold(t, strings.Repeat("a", ahead)+s)
			wantRecAsTold(t, strings.Repeat("a ", ahead/2)+s)
			wantRecAsTold(t, s+strings.Repeat(" b", ahead))
		}
	}
}

func TestRecOfAsTold(t *testing.T) {
	for _, s := range slices.Concat(shortTexts("a \t", 7), shortTexts("b \xff\n", 4), someTexts()) {
		wantRecAsTold(t, s)
	}
	for _, part := range shortTexts("a \t", 4)[1:] {
		for size := 190; size <= 210; size++ {
			wantRecAsTold(t, strings.Repeat(part, size)[:size])
			wantRecAsTold(t, strings.Repeat("z", size-len(part))+part)
			wantRecAsTold(t, strings.Repeat("z", size-len(part))+part+part+"y")
		}
	}
	r := rand.New(rand.NewSource(13))
	for range 3000 {
		b := make([]byte, r.Intn(260))
		for i := range b {
			b[i] = someOf(r, []byte("abc  \t\n\xff\xe2\x80"))
		}
		wantRecAsTold(t, string(b))
	}
}

func TestRecOk(t *testing.T) {
	q := strings.Repeat("q", 201)
	wantRecOk(t, "none", impl.Rec{}, true)
	wantRecOk(t, "an empty list", rec("", []string{}...), true)
	wantRecOk(t, "no fields", rec("a b"), true)
	wantRecOk(t, "an empty list of a line", rec("a b", []string{}...), true)
	wantRecOk(t, "its words", rec("a b", "a", "b"), true)
	wantRecOk(t, "not its words", rec("a b", "c"), true)
	wantRecOk(t, "of an empty line", rec("", "a", "b"), true)
	wantRecOk(t, "in another order", rec("a b", "b", "a"), true)
	wantRecOk(t, "with a blank", rec("a b", "a b"), true)
	wantRecOk(t, "blanks alone", rec("", " ", "\t", "  "), true)
	wantRecOk(t, "an empty one", rec("a", "a", ""), true)
	wantRecOk(t, "all empty", rec("a", "", "", ""), true)
	wantRecOk(t, "no UTF-8", rec("\xff", "\xff\x80", "\x00"), true)
	wantRecOk(t, "a line of 199", rec(q[:199], "a"), true)
	wantRecOk(t, "a line of 200", rec(q[:200], "a"), true)
	wantRecOk(t, "a line of 201", rec(q, "a"), false)
	wantRecOk(t, "a line of 201 alone", rec(q), false)
	wantRecOk(t, "a line of 202 bytes, 101 letters", rec(strings.Repeat("é", 101)), false)
	wantRecOk(t, "a line of 200 bytes, 100 letters", rec(strings.Repeat("é", 100)), true)
	wantRecOk(t, "19 fields", rec("", wordsOf(19)...), true)
	wantRecOk(t, "20 fields", rec("", wordsOf(20)...), true)
	wantRecOk(t, "21 fields", rec("", wordsOf(21)...), false)
	wantRecOk(t, "20 empty fields", rec("", make([]string, 20)...), true)
	wantRecOk(t, "21 empty fields", rec("", make([]string, 21)...), false)
	wantRecOk(t, "many fields", rec("", make([]string, 1000000)...), false)
	wantRecOk(t, "each of 200 bytes", rec(q[:200], slices.Repeat([]string{q[:200]}, 20)...), true)
	for at := range 20 {
		for size, want := range map[int]bool{199: true, 200: true, 201: false} {
			fields := wordsOf(20)
			fields[at] = q[:size]
			wantRecOk(t, "one long field", rec("a", fields...), want)
			wantRecOk(t, "one long field, the last", rec("a", fields[:at+1]...), want)
		}
	}
	for _, s := range slices.Concat(bytesOfAllKinds(), someTexts(), []string{q, strings.Repeat("a ", 1000)}) {
		wantRecOk(t, "of a text", impl.RecOf(s), true)
	}
	for _, r := range rightRecs() {
		wantRecOk(t, "a right one", r, true)
	}
	for _, r := range wrongRecs() {
		wantRecOk(t, "a wrong one", r, false)
	}
}

func TestFieldOf(t *testing.T) {
	r := impl.RecOf(" a  bc\td ")
	for n, want := range map[int]string{0: " a  bc\td ", 1: "a", 2: "bc", 3: "d", 4: "", 5: "", 19: "", 20: "", 21: "", 22: "", 1000000: "", -1: "", -2: "", -3: "", -20: "", math.MinInt: "", math.MinInt + 1: "", math.MaxInt: "", math.MaxInt - 1: ""} {
		wantField(t, r, n, want)
	}
	for count := 0; count <= 20; count++ {
		r := impl.RecOf(strings.Join(wordsOf(count), " "))
		for i, word := range wordsOf(count) {
			wantField(t, r, i+1, word)
		}
		wantField(t, r, count+1, "")
		wantField(t, r, -count, toldField(r, -count))
	}
	wantField(t, rec("a b c", "", "x y"), 0, "a b c")
	wantField(t, rec("a b c", "", "x y"), 1, "")
	wantField(t, rec("a b c", "", "x y"), 2, "x y")
	wantField(t, rec("a b c", "", "x y"), 3, "")
	wantField(t, rec("a b c"), 1, "")
	wantField(t, impl.Rec{}, 0, "")
	wantField(t, impl.Rec{}, 1, "")
}

// How many fields there are counts, not how many there may be.
func TestFieldOfWhatIsNotRight(t *testing.T) {
	q := strings.Repeat("q", 1000)
	wantField(t, rec(q, "a"), 0, q)
	wantField(t, rec(q, "a"), 1, "a")
	wantField(t, rec("a", q), 1, q)
	many := rec("", wordsOf(26)...)
	wantField(t, many, 20, "t")
	wantField(t, many, 21, "u")
	wantField(t, many, 26, "z")
	wantField(t, many, 27, "")
	wantField(t, many, -1, "")
}

// setTexts are right and wrong ones, with blanks, without, and as long as may be.
func setTexts() []string {
	q := strings.Repeat("q", 201)
	return []string{"", "e", "ef", " ", "\t", "p q", " p  q ", "\xff\x80", "é", "\x00\n", q[:100], q[:158], q[:159], q[:160], q[:161], q[:162], q[:163], q[:180], q[:181], q[:197], q[:198], q[:199], q[:200], q, strings.Repeat(" ", 200), strings.Repeat(" ", 201), strings.Repeat("a ", 100)}
}

func TestSetTheLine(t *testing.T) {
	r := impl.RecOf("a b c")
	wantSet(t, r, 0, "p q", rec("p q", "p", "q"))
	wantSet(t, r, 0, " p\t q ", rec(" p\t q ", "p", "q"))
	wantSet(t, r, 0, "", impl.Rec{})
	wantSet(t, r, 0, "  ", rec("  "))
	wantSet(t, r, 0, "a b c", r)
	q := strings.Repeat("q", 201)
	wantSet(t, r, 0, q[:199], rec(q[:199], q[:199]))
	wantSet(t, r, 0, q[:200], rec(q[:200], q[:200]))
	wantNotSet(t, r, 0, q)
	wantNotSet(t, r, 0, strings.Repeat(" ", 201))
	twenty := strings.Join(wordsOf(20), " ")
	wantSet(t, r, 0, twenty, rec(twenty, wordsOf(20)...))
	wantSet(t, r, 0, twenty+" u", rec(twenty+" u", wordsOf(20)...))
	wantSet(t, r, 0, strings.Repeat("a ", 100), rec(strings.Repeat("a ", 100), slices.Repeat([]string{"a"}, 20)...))
	for _, r := range rightRecs() {
		for _, s := range setTexts() {
			wantSetAsTold(t, r, 0, s)
		}
		wantSet(t, r, 0, "x  y", rec("x  y", "x", "y"))
	}
}

func TestSetAFieldThatIsThere(t *testing.T) {
	r := impl.RecOf(" a  bc\td ")
	wantSet(t, r, 1, "e", rec("e bc d", "e", "bc", "d"))
	wantSet(t, r, 2, "e", rec("a e d", "a", "e", "d"))
	wantSet(t, r, 3, "e", rec("a bc e", "a", "bc", "e"))
	wantSet(t, r, 2, "bc", rec("a bc d", "a", "bc", "d"))
	wantSet(t, r, 1, "", rec(" bc d", "", "bc", "d"))
	wantSet(t, r, 2, "", rec("a  d", "a", "", "d"))
	wantSet(t, r, 3, "", rec("a bc ", "a", "bc", ""))
	wantSet(t, r, 2, "p q", rec("a p q d", "a", "p q", "d"))
	wantSet(t, r, 2, " ", rec("a   d", "a", " ", "d"))
	wantSet(t, r, 3, "\t", rec("a bc \t", "a", "bc", "\t"))
	wantSet(t, impl.RecOf("a"), 1, "", rec("", ""))
	wantSet(t, impl.RecOf("  a"), 1, "\xff", rec("\xff", "\xff"))
	for n := 1; n <= 20; n++ {
		fields := wordsOf(20)
		fields[n-1] = "set"
		wantSet(t, rec("", wordsOf(20)...), n, "set", rec(strings.Join(fields, " "), fields...))
		fields[n-1] = ""
		wantSet(t, rec("", wordsOf(20)...), n, "", rec(strings.Join(fields, " "), fields...))
	}
}

// The Line is made of the fields alone, whatever it was.
func TestTheLineIsOfTheFields(t *testing.T) {
	wantSet(t, rec("other words", "a", "b"), 1, "c", rec("c b", "c", "b"))
	wantSet(t, rec("other words"), 1, "c", rec("c", "c"))
	wantSet(t, rec("other words"), 3, "c", rec("  c", "", "", "c"))
	wantSet(t, rec("a", "", "b c", ""), 1, "", rec(" b c ", "", "b c", ""))
	wantSet(t, rec(strings.Join(wordsOf(26), " "), wordsOf(20)...), 20, "x", rec(strings.Join(wordsOf(19), " ")+" x", append(wordsOf(19), "x")...))
	wantSet(t, rec(strings.Repeat("q", 200)), 2, "c", rec(" c", "", "c"))
}

func TestSetAFieldThatIsNotThereYet(t *testing.T) {
	r := impl.RecOf(" a  bc\td ")
	wantSet(t, r, 4, "e", rec("a bc d e", "a", "bc", "d", "e"))
	wantSet(t, r, 5, "e", rec("a bc d  e", "a", "bc", "d", "", "e"))
	wantSet(t, r, 6, "e", rec("a bc d   e", "a", "bc", "d", "", "", "e"))
	wantSet(t, r, 4, "", rec("a bc d ", "a", "bc", "d", ""))
	wantSet(t, r, 5, "", rec("a bc d  ", "a", "bc", "d", "", ""))
	wantSet(t, r, 5, "p q", rec("a bc d  p q", "a", "bc", "d", "", "p q"))
	wantSet(t, impl.Rec{}, 1, "e", rec("e", "e"))
	wantSet(t, impl.Rec{}, 1, "", rec("", ""))
	wantSet(t, impl.Rec{}, 2, "e", rec(" e", "", "e"))
	wantSet(t, impl.RecOf("  "), 2, "", rec(" ", "", ""))
	for count := 0; count <= 20; count++ {
		for n := count + 1; n <= 20; n++ {
			fields := append(append(wordsOf(count), make([]string, n-1-count)...), "e")
			wantSet(t, rec("", wordsOf(count)...), n, "e", rec(strings.Join(fields, " "), fields...))
			got, _ := impl.SetField(rec("", wordsOf(count)...), n, "e")
			for between := count + 1; between < n; between++ {
				wantField(t, got, between, "")
			}
			wantField(t, got, n+1, "")
		}
	}
	wantSet(t, impl.Rec{}, 20, "e", rec(strings.Repeat(" ", 19)+"e", append(make([]string, 19), "e")...))
	wantSet(t, impl.Rec{}, 20, "", rec(strings.Repeat(" ", 19), make([]string, 20)...))
}

func TestNumbersThatAreNoFields(t *testing.T) {
	for _, r := range slices.Concat(rightRecs(), wrongRecs()) {
		for _, n := range []int{21, 22, 23, 40, 256, 1000, 1000000, -1, -2, -19, -20, -21, math.MinInt, math.MinInt + 1, math.MaxInt, math.MaxInt - 1, math.MaxInt32, math.MinInt32, 1 << 32, 1<<32 + 1, -1 << 32} {
			for _, s := range []string{"", "e", "p q", strings.Repeat("q", 201)} {
				wantNotSet(t, r, n, s)
			}
		}
	}
}

func TestTheTextThatIsSetHasItsLimit(t *testing.T) {
	q := strings.Repeat("q", 300)
	for _, r := range []impl.Rec{{}, impl.RecOf("a"), rec("other", ""), rec(q[:200], q[:200])} {
		wantSet(t, r, 1, q[:199], rec(q[:199], q[:199]))
		wantSet(t, r, 1, q[:200], rec(q[:200], q[:200]))
		wantNotSet(t, r, 1, q[:201])
		wantNotSet(t, r, 1, q)
		wantNotSet(t, r, 1, strings.Repeat("é", 101))
		wantSet(t, r, 1, strings.Repeat("é", 100), rec(strings.Repeat("é", 100), strings.Repeat("é", 100)))
		wantSet(t, r, 1, strings.Repeat(" ", 200), rec(strings.Repeat(" ", 200), strings.Repeat(" ", 200)))
		wantNotSet(t, r, 1, strings.Repeat(" ", 201))
	}
}

func TestTheNewLineHasItsLimit(t *testing.T) {
	q := strings.Repeat("q", 200)
	r := impl.RecOf("a bc d")
	for n := 1; n <= 20; n++ {
		fields := append(wordsOf(0), "a", "bc", "d")
		for len(fields) < n {
			fields = append(fields, "")
		}
		fields[n-1] = ""
		room := 200 - len(strings.Join(fields, " "))
		fields[n-1] = q[:room]
		wantSet(t, r, n, q[:room], rec(strings.Join(fields, " "), fields...))
		wantSetAsTold(t, r, n, q[:room-1])
		wantNotSet(t, r, n, q[:room+1])
		wantNotSet(t, r, n, q)
	}
	wantSet(t, impl.Rec{}, 2, q[:199], rec(" "+q[:199], "", q[:199]))
	wantNotSet(t, impl.Rec{}, 2, q[:200])
	wantSet(t, impl.Rec{}, 20, q[:181], rec(strings.Repeat(" ", 19)+q[:181], append(make([]string, 19), q[:181])...))
	wantNotSet(t, impl.Rec{}, 20, q[:182])
	// Blanks alone may be what is too much.
	wantSet(t, rec("", q[:199]), 2, "", rec(q[:199]+" ", q[:199], ""))
	wantNotSet(t, rec("", q), 2, "")
	wantNotSet(t, rec("", q[:199]), 3, "")
	wantSet(t, rec("", q[:181]), 20, "", rec(q[:181]+strings.Repeat(" ", 19), append([]string{q[:181]}, make([]string, 19)...)...))
	wantNotSet(t, rec("", q[:182]), 20, "")
	// Fields that are too much together become right just by one that is short enough.
	wantSet(t, rec("", q, q[:150]), 1, "b", rec("b "+q[:150], "b", q[:150]))
	wantSet(t, rec("", q, q[:150]), 1, q[:49], rec(q[:49]+" "+q[:150], q[:49], q[:150]))
	wantNotSet(t, rec("", q, q[:150]), 1, q[:50])
	wantNotSet(t, rec("", q, q[:150]), 2, "")
	wantNotSet(t, rec("", q, q[:150], q[:150]), 1, "")
	wantNotSet(t, rec("", slices.Repeat([]string{q}, 20)...), 20, "")
}

func TestWhatIsNotRightStaysAsItIs(t *testing.T) {
	for _, r := range wrongRecs() {
		for n := range 22 {
			for _, s := range []string{"", "e", "p q", strings.Repeat("q", 200), strings.Repeat("q", 201)} {
				wantNotSet(t, r, n, s)
			}
		}
	}
	// Not even what would mend it is set.
	wantNotSet(t, rec("a", "a", strings.Repeat("q", 201)), 2, "b")
	wantNotSet(t, rec("a", "a", strings.Repeat("q", 201)), 0, "b")
	wantNotSet(t, rec(strings.Repeat("q", 201), "a"), 1, "b")
	wantNotSet(t, rec(strings.Repeat("q", 201), "a"), 0, "b")
	wantNotSet(t, rec("", make([]string, 21)...), 1, "")
}

// wantOthersStay wants the set one to be got, and all others as they were; those that were not there have nothing.
func wantOthersStay(t *testing.T, r, set impl.Rec, n int, s string) {
	t.Helper()
	wantField(t, set, n, s)
	for other := 1; other <= 21; other++ {
		if other != n {
			wantField(t, set, other, impl.FieldOf(r, other))
		}
	}
	wantField(t, set, 0, strings.Join(set.Fields, " "))
	if len(set.Fields) != max(n, len(r.Fields)) {
		t.Errorf("%s has %d fields behind the %dth is set", asText(set), len(set.Fields), n)
	}
}

func TestAFieldThatIsSetIsGot(t *testing.T) {
	count := 0
	for _, r := range rightRecs() {
		for n := 1; n <= 20; n++ {
			for _, s := range setTexts() {
				if set, ok := impl.SetField(r, n, s); ok {
					count++
					wantOthersStay(t, r, set, n, s)
				}
				wantSetAsTold(t, r, n, s)
			}
		}
		for _, s := range setTexts() {
			if set, ok := impl.SetField(r, 0, s); ok {
				wantField(t, set, 0, s)
				wantField(t, set, 1, toldField(toldRec(s), 1))
			}
		}
	}
	if count < 5000 {
		t.Errorf("only %d were set", count)
	}
}

func TestFieldsThatAreSetTwice(t *testing.T) {
	for _, r := range rightRecs() {
		for n := 0; n <= 20; n++ {
			once, ok := impl.SetField(r, n, "once")
			if !ok {
				continue
			}
			wantSet(t, once, n, "once", once)
			wantSetAsTold(t, once, n, "twice or more")
			wantSetAsTold(t, once, n, "")
			if back, ok := impl.SetField(once, n, ""); n > 0 && ok {
				wantSet(t, back, n, "once", once)
			}
		}
	}
}

// In which order they come does not matter, once all of them are there.
func TestFieldsThatAreSetInAnyOrder(t *testing.T) {
	r := rand.New(rand.NewSource(131))
	for range 200 {
		count := 1 + r.Intn(20)
		words, set := wordsOf(count), impl.RecOf("a line of its own")
		set, _ = impl.SetField(set, 0, "")
		for _, i := range r.Perm(count) {
			var ok bool
			if set, ok = impl.SetField(set, i+1, words[i]); !ok {
				t.Fatalf("the field %d of %d is not set", i+1, count)
			}
		}
		if want := rec(strings.Join(words, " "), words...); !sameRec(set, want) {
			t.Errorf("what is set is %s, want %s", asText(set), asText(want))
		}
		wantRec(t, set.Line, set.Line, words...)
	}
}

// What is set stands in Fields as it is: it is split by reading Line anew alone.
func TestFieldsWithBlanksAreNotSplit(t *testing.T) {
	set, _ := impl.SetField(impl.RecOf("a b c"), 2, " x  y ")
	wantField(t, set, 2, " x  y ")
	wantField(t, set, 3, "c")
	wantField(t, set, 4, "")
	wantField(t, set, 0, "a  x  y  c")
	wantRec(t, set.Line, "a  x  y  c", "a", "x", "y", "c")
	set, _ = impl.SetField(impl.RecOf("a b c"), 2, "")
	wantField(t, set, 3, "c")
	wantRec(t, set.Line, "a  c", "a", "c")
}

func TestManyFieldsOneBehindTheOther(t *testing.T) {
	r := rand.New(rand.NewSource(132))
	texts := slices.Concat([]string{"", "a", "bc", " ", "x y", "\xff", "é"}, setTexts())
	for range 400 {
		told := toldRec(someOf(r, []string{"", "a b c", " a  bc\td ", strings.Repeat("ab ", 40)}))
		got := impl.RecOf(told.Line)
		for range 40 {
			n, s := r.Intn(24)-1, someOf(r, texts)
			if r.Intn(4) > 0 {
				n, s = r.Intn(8), someOf(r, texts[:7])
			}
			wantSetAsTold(t, got, n, s)
			got, _ = impl.SetField(got, n, s)
			told, _ = toldSet(told, n, s)
			if !sameRec(got, told) {
				t.Fatalf("the field %d set to %q: %s, want %s", n, s, asText(got), asText(told))
			}
		}
	}
}

func TestAllNumbersAndTextsOfLines(t *testing.T) {
	numbers := append(edges(), someNumbers()...)
	for n := -25; n <= 45; n++ {
		numbers = append(numbers, n)
	}
	texts := slices.Concat(bytesOfAllKinds(), someTexts(), setTexts(), []string{strings.Repeat("a ", 1000)})
	for i, r := range slices.Concat(rightRecs(), wrongRecs(), []impl.Rec{impl.RecOf(brokenText), rec(texts[0], texts...)}) {
		wantRecOk(t, "as told", r, toldRecOk(r))
		for k, n := range numbers {
			wantField(t, r, n, toldField(r, n))
			wantSetAsTold(t, r, n, texts[(i+k)%len(texts)])
		}
		for _, s := range texts {
			for _, n := range []int{0, 1, 2, 20} {
				wantSetAsTold(t, r, n, s)
			}
		}
	}
}
