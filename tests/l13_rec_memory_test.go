package tests

import (
	"slices"
	"strings"
	"testing"

	"loop.example/g00288/impl"
)

func (o *overStmt) layRec(r impl.Rec) impl.Rec {
	return impl.Rec{Line: o.layText(r.Line), Fields: layFilled(r.Fields, o.layText, spareName)}
}

func untouchedRec(roomy, r impl.Rec) bool {
	same := func(a, b string) bool { return a == b }
	return roomy.Line == r.Line && untouchedList(roomy.Fields, r.Fields, same, func(s string) bool { return s == spareName })
}

func recSpans(r impl.Rec) []span { return append(textSpans(r.Line), nameSpans(r.Fields)...) }

func someLines() []string {
	q := strings.Repeat("q", 201)
	return []string{"", " ", "a", " a  bc\td ", "ab ab ab", brokenText + " x", q[:199], q[:200], q, strings.Repeat("ab ", 100), strings.Join(wordsOf(20), " "), strings.Join(wordsOf(26), "\t")}
}

// A recCall answers a line, or a text in the place of its Line.
type recCall func(r impl.Rec, s string) impl.Rec

func recCalls() map[string]recCall {
	set := func(n int) recCall {
		return func(r impl.Rec, s string) impl.Rec {
			got, _ := impl.SetField(r, n, s)
			return got
		}
	}
	field := func(n int) recCall {
		return func(r impl.Rec, s string) impl.Rec { return impl.Rec{Line: impl.FieldOf(r, n)} }
	}
	return map[string]recCall{
		"RecOf":                    func(r impl.Rec, s string) impl.Rec { return impl.RecOf(s) },
		"RecOf of a Line":          func(r impl.Rec, s string) impl.Rec { return impl.RecOf(r.Line) },
		"RecOk":                    func(r impl.Rec, s string) impl.Rec { impl.RecOk(r); return impl.Rec{} },
		"FieldOf 0":                field(0),
		"FieldOf 1":                field(1),
		"FieldOf 2":                field(2),
		"FieldOf 21":               field(21),
		"SetField 0":               set(0),
		"SetField 1":               set(1),
		"SetField 2":               set(2),
		"SetField 3":               set(3),
		"SetField 19":              set(19),
		"SetField 20":              set(20),
		"SetField 21":              set(21),
		"SetField below 0":         set(-1),
		"SetField to its own":      func(r impl.Rec, s string) impl.Rec { got, _ := impl.SetField(r, 2, r.Line); return got },
		"SetField 0 to its own":    func(r impl.Rec, s string) impl.Rec { got, _ := impl.SetField(r, 0, r.Line); return got },
		"SetField to one of these": func(r impl.Rec, s string) impl.Rec { got, _ := impl.SetField(r, 1, impl.FieldOf(r, 2)); return got },
	}
}

func memoryRecs() []impl.Rec {
	return append(rightRecs(), wrongRecs()...)
}

// Fields have room behind them that is filled: it is neither read nor written.
func TestLinesThatAreHandedInAreLeft(t *testing.T) {
	for name, call := range recCalls() {
		for _, r := range memoryRecs() {
			for _, s := range someLines() {
				o := &overStmt{}
				laid, text := o.layRec(r), o.layText(s)
				got, want := call(laid, text), call(copyRec(r), s)
				for i, b := range o.texts {
					wantUntouched(t, name, b, o.said[i])
				}
				if !untouchedRec(laid, r) {
					t.Errorf("%s wrote into its argument, %s", name, asText(r))
				}
				if !sameRec(got, want) {
					t.Errorf("%s of %s: what lies behind the fields counts: %s, want %s", name, asText(r), asText(got), asText(want))
				}
			}
		}
	}
}

func TestLinesThatAreAnsweredAreNewMemory(t *testing.T) {
	for name, call := range recCalls() {
		for _, r := range memoryRecs() {
			for _, s := range someLines() {
				o := &overStmt{}
				laid, text := o.layRec(r), o.layText(s)
				got := call(laid, text)
				told := copyRec(got)
				for _, b := range o.texts {
					overwrite(b)
				}
				whole := laid.Fields[:cap(laid.Fields)]
				for i := range whole {
					whole[i] = "other"
				}
				if !sameRec(got, told) {
					t.Errorf("%s of %s and %q shares memory: %s, which was %s", name, asText(r), shortened(s), asText(got), asText(told))
				}
			}
		}
	}
}

// What is written into an answer, and into the room behind it, is in no argument and in no other answer.
func TestAnswersOfLinesAreApart(t *testing.T) {
	for name, call := range recCalls() {
		for _, r := range memoryRecs() {
			for _, s := range someLines() {
				laid := (&overStmt{}).layRec(r)
				first, second := call(laid, s), call(laid, s)
				wantApart(t, name, slices.Concat(recSpans(first), recSpans(second), recSpans(laid)))
				told := copyRec(second)
				whole := first.Fields[:cap(first.Fields)]
				for i := range whole {
					whole[i] = "overwritten"
				}
				if !sameRec(second, told) || !untouchedRec(laid, r) {
					t.Errorf("%s of %s: an answer shares its list", name, asText(r))
				}
			}
		}
	}
}

// The words that are no fields any more are not handed out behind those that are.
func TestNothingLiesBehindTheFields(t *testing.T) {
	for name, call := range recCalls() {
		for _, r := range memoryRecs() {
			for _, s := range someLines() {
				got := call(r, s)
				for _, spare := range got.Fields[len(got.Fields):cap(got.Fields)] {
					if spare != "" {
						t.Errorf("%s of %s and %q: %q lies behind the fields", name, asText(r), shortened(s), spare)
					}
				}
			}
		}
	}
	r := impl.RecOf(strings.Join(wordsOf(26), " "))
	if grown := append(r.Fields, "more"); len(grown) != 21 || cap(r.Fields) != 20 {
		t.Errorf("the fields have room for %d", cap(r.Fields))
	}
}

// What was set ahead, or refused, turns no answer.
func TestLinesHangOnThemselvesAlone(t *testing.T) {
	for _, call := range recCalls() {
		for _, r := range memoryRecs() {
			call(r, "some other words")
			call(r, strings.Repeat("q", 201))
		}
		wantRec(t, " a  bc\td ", " a  bc\td ", "a", "bc", "d")
		wantSet(t, impl.RecOf(" a  bc\td "), 5, "e", rec("a bc d  e", "a", "bc", "d", "", "e"))
		wantSet(t, impl.Rec{}, 1, "e", rec("e", "e"))
		wantField(t, impl.RecOf("a b"), 2, "b")
		wantField(t, impl.RecOf("a b"), 3, "")
	}
	r := impl.RecOf("a b c")
	set, _ := impl.SetField(r, 2, "x")
	r.Fields[0] = "turned"
	wantField(t, set, 1, "a")
	set.Fields[2] = "turned"
	wantField(t, r, 3, "c")
	wantSet(t, r, 3, "d", rec("turned b d", "turned", "b", "d"))
}
