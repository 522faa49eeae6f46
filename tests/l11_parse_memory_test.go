package tests

import (
	"slices"
	"testing"
	"unsafe"

	"loop.example/g00288/impl"
)

// A span is the memory of a list, its spare room too, or of a text.
type span struct{ from, end uintptr }

func listSpans[T any](l []T) []span {
	size := uintptr(cap(l)) * unsafe.Sizeof(*new(T))
	if size == 0 {
		return nil
	}
	from := uintptr(unsafe.Pointer(unsafe.SliceData(l)))
	return []span{{from, from + size}}
}

func textSpans(s string) []span {
	if s == "" {
		return nil
	}
	from := uintptr(unsafe.Pointer(unsafe.StringData(s)))
	return []span{{from, from + uintptr(len(s))}}
}

func spansOfAll[T any](l []T, spansOf func(T) []span) []span {
	spans := listSpans(l)
	for _, x := range l {
		spans = append(spans, spansOf(x)...)
	}
	return spans
}

func exprSpans(e impl.Expr) []span { return append(textSpans(e.S), spansOfAll(e.L, exprSpans)...) }

func stmtSpans(x impl.Stmt) []span {
	return slices.Concat(textSpans(x.S), textSpans(x.T), spansOfAll(x.X, exprSpans), spansOfAll(x.A, stmtSpans), spansOfAll(x.B, stmtSpans))
}

func ruleSpans(r impl.Rule) []span {
	return append(exprSpans(r.P), spansOfAll(r.A, stmtSpans)...)
}

func fnSpans(f impl.Fn) []span {
	return slices.Concat(textSpans(f.Name), spansOfAll(f.Params, textSpans), spansOfAll(f.A, stmtSpans))
}

func progSpans(p impl.Prog) []span {
	return append(spansOfAll(p.Rules, ruleSpans), spansOfAll(p.Fns, fnSpans)...)
}

// wantApart asks that no two of them lie in one place.
func wantApart(t *testing.T, name string, spans []span) {
	t.Helper()
	slices.SortFunc(spans, func(a, b span) int { return int(a.from) - int(b.from) })
	for i := 1; i < len(spans); i++ {
		if spans[i].from < spans[i-1].end {
			t.Errorf("%s: two lists, or texts, share memory", shortened(name))
		}
	}
}

func programTexts() []string {
	var l []string
	for _, row := range progRows() {
		l = append(l, row.text)
	}
	for _, row := range stmtRows() {
		l = append(l, "func f(a, b, c, d) { "+row.text+" "+row.text+" }\nbegin { "+row.text+" next; }\n")
	}
	for _, row := range exprRows() {
		l = append(l, row.text+" { x = "+row.text+"; if ("+row.text+") { t["+row.text+"] = "+row.text+"; } else { print x, "+row.text+"; } }\n")
	}
	return append(l, toldProgText(rules(pWhen(exprOfParts(100, 4), stmtOfCount(60, 4), stmtOfCount(60, 59)))))
}

func TestListsOfOneAnswerAreApart(t *testing.T) {
	for _, s := range programTexts() {
		p, ok := impl.ParseProg(s)
		again, _ := impl.ParseProg(s)
		if !ok {
			t.Fatalf("ParseProg(%q) is false", shortened(s))
		}
		wantApart(t, s, append(progSpans(p), progSpans(again)...))
	}
	for _, row := range exprRows() {
		s := "f(" + row.text + ", " + row.text + ")"
		e, _ := impl.ParseExpr(s)
		again, _ := impl.ParseExpr(s)
		wantApart(t, s, append(exprSpans(e), exprSpans(again)...))
	}
	for _, row := range stmtRows() {
		s := "{ while (x) { " + row.text + " " + row.text + " } " + row.text + " }"
		l, _ := impl.ParseBlock(s)
		again, _ := impl.ParseBlock(s)
		wantApart(t, s, append(spansOfAll(l, stmtSpans), spansOfAll(again, stmtSpans)...))
	}
}

func TestTreesThatAreReadAreNewMemory(t *testing.T) {
	for _, s := range programTexts() {
		b := roomy(s, 16)
		p, _ := impl.ParseProg(textOver(b))
		told := copyProg(p)
		wantUntouched(t, "ParseProg", b, s)
		overwrite(b)
		if !toldSameProg(p, told) {
			t.Errorf("the program of %q shares memory with its text", shortened(s))
		}
	}
	for _, row := range exprRows() {
		b := roomy(row.text, 16)
		e, _ := impl.ParseExpr(textOver(b))
		wantUntouched(t, "ParseExpr", b, row.text)
		overwrite(b)
		if !toldSameExpr(e, row.e) {
			t.Errorf("the term of %q shares memory with its text", row.text)
		}
	}
	for _, row := range stmtRows() {
		s := "{ " + row.text + " }"
		b := roomy(s, 16)
		l, _ := impl.ParseBlock(textOver(b))
		wantUntouched(t, "ParseBlock", b, s)
		overwrite(b)
		if !slices.EqualFunc(l, stmts(row.x), toldSameStmt) {
			t.Errorf("the block of %q shares memory with its text", s)
		}
	}
}

// What the first answer becomes by another's hand is not in the second.
func TestAnswersOfReadingAreApart(t *testing.T) {
	for _, s := range programTexts() {
		first, _ := impl.ParseProg(s)
		second, _ := impl.ParseProg(s)
		told := copyProg(second)
		for i := range first.Rules {
			first.Rules[i] = impl.Rule{K: 9, P: xVar("other")}
		}
		for i := range first.Fns {
			for j := range first.Fns[i].A {
				first.Fns[i].A[j] = impl.Stmt{K: 99}
			}
			first.Fns[i] = impl.Fn{Name: "other"}
		}
		third, _ := impl.ParseProg(s)
		if !toldSameProg(second, told) || !toldSameProg(third, told) {
			t.Errorf("two answers of %q share memory", shortened(s))
		}
	}
}

// What lies in a text behind its length is not read.
func TestReadingStopsAtTheEndOfTheText(t *testing.T) {
	const whole = "{ next; } { next; }"
	for size := range len(whole) {
		wantProgAsRead(t, whole[:size])
		wantBlockAsRead(t, whole[:size])
	}
}
