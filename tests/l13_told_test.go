package tests

import (
	"fmt"
	"slices"
	"strings"
	"testing"

	"loop.example/g00288/impl"
)

func rec(line string, fields ...string) impl.Rec { return impl.Rec{Line: line, Fields: fields} }

// asText is for what is told of a line where it is wrong.
func asText(r impl.Rec) string {
	return shortened(fmt.Sprintf("line %q fields %q", r.Line, r.Fields))
}

func sameRec(a, b impl.Rec) bool { return a.Line == b.Line && slices.Equal(a.Fields, b.Fields) }

func copyRec(r impl.Rec) impl.Rec {
	return impl.Rec{Line: strings.Clone(r.Line), Fields: copyNames(r.Fields)}
}

// toldRec takes byte by byte, as long as there are not too many.
func toldRec(s string) impl.Rec {
	line := ""
	for i := 0; i < len(s) && i < 200; i++ {
		line += s[i : i+1]
	}
	var fields []string
	for _, word := range toldSplit(line) {
		if len(fields) < 20 {
			fields = append(fields, word)
		}
	}
	return impl.Rec{Line: line, Fields: fields}
}

func toldRecOk(r impl.Rec) bool {
	long := slices.ContainsFunc(r.Fields, func(s string) bool { return len(s) > 200 })
	return !long && len(r.Line) < 201 && len(r.Fields) < 21
}

func toldField(r impl.Rec, n int) string {
	for i, s := range append([]string{r.Line}, r.Fields...) {
		if i == n {
			return s
		}
	}
	return ""
}

func toldSet(r impl.Rec, n int, s string) (impl.Rec, bool) {
	if n < 0 || n > 20 || len(s) > 200 || !toldRecOk(r) {
		return r, false
	}
	if n == 0 {
		return toldRec(s), true
	}
	fields := slices.Clone(r.Fields)
	for len(fields) < n {
		fields = append(fields, "")
	}
	fields[n-1] = s
	line := fields[0]
	for _, field := range fields[1:] {
		line += " " + field
	}
	if len(line) > 200 {
		return r, false
	}
	return impl.Rec{Line: line, Fields: fields}, true
}

func wantRec(t *testing.T, s, line string, fields ...string) {
	t.Helper()
	got, want := impl.RecOf(s), rec(line, fields...)
	if !sameRec(got, want) {
		t.Errorf("RecOf(%q) = %s, want %s", shortened(s), asText(got), asText(want))
	}
	if !impl.RecOk(got) {
		t.Errorf("RecOf(%q) is not right", shortened(s))
	}
}

func wantRecAsTold(t *testing.T, s string) {
	t.Helper()
	told := toldRec(s)
	wantRec(t, s, told.Line, told.Fields...)
}

func wantRecOk(t *testing.T, name string, r impl.Rec, want bool) {
	t.Helper()
	if got := impl.RecOk(r); got != want {
		t.Errorf("%s: RecOk of %s = %v", name, asText(r), got)
	}
}

func wantField(t *testing.T, r impl.Rec, n int, want string) {
	t.Helper()
	if got := impl.FieldOf(r, n); got != want {
		t.Errorf("FieldOf(%s, %d) = %q, want %q", asText(r), n, shortened(got), shortened(want))
	}
}

func wantSet(t *testing.T, r impl.Rec, n int, s string, want impl.Rec) {
	t.Helper()
	got, ok := impl.SetField(r, n, s)
	if !ok || !sameRec(got, want) {
		t.Errorf("SetField(%s, %d, %q) = %s, %v, want %s", asText(r), n, shortened(s), asText(got), ok, asText(want))
	}
	wantRecOk(t, "set", got, true)
	wantField(t, got, n, s)
}

func wantNotSet(t *testing.T, r impl.Rec, n int, s string) {
	t.Helper()
	if got, ok := impl.SetField(r, n, s); ok || !sameRec(got, r) {
		t.Errorf("SetField(%s, %d, %q) = %s, %v, want it as it was, and false", asText(r), n, shortened(s), asText(got), ok)
	}
}

func wantSetAsTold(t *testing.T, r impl.Rec, n int, s string) {
	t.Helper()
	if want, ok := toldSet(r, n, s); ok {
		wantSet(t, r, n, s, want)
	} else {
		wantNotSet(t, r, n, s)
	}
}

// wordsOf has so many words of one byte each.
func wordsOf(count int) []string {
	l := []string{}
	for i := range count {
		l = append(l, "abcdefghijklmnopqrstuvwxyz"[i%26:i%26+1])
	}
	return l
}

func rightRecs() []impl.Rec {
	long := strings.Repeat("q", 200)
	l := []impl.Rec{
		{}, rec("", []string{}...), rec("a", "a"), rec(" a  bc\td ", "a", "bc", "d"), rec("x y"), rec("", "a", "b"), rec("other", "a", "b c", ""), rec("a", ""), rec("  ", "", "", ""), rec("\xff \x80", "\xff", "\x80"),
		rec(long), rec(long, long), rec("", long), rec("", long, long), rec(long[:199], "a", long[:197]), rec("", long[:100], long[:99]), rec("", long[:100], long[:100]), rec("", long[:98], "", long[:99]),
	}
	for _, count := range []int{1, 2, 10, 19, 20} {
		l = append(l, rec(strings.Join(wordsOf(count), " "), wordsOf(count)...), rec("", make([]string, count)...))
	}
	return append(l, rec(long, slices.Repeat([]string{long}, 20)...), rec("", append(wordsOf(19), long[:162])...), rec("", append(wordsOf(19), long[:163])...))
}

func wrongRecs() []impl.Rec {
	long := strings.Repeat("q", 201)
	return []impl.Rec{
		rec(long), rec(long, "a"), rec(long+long, long), rec(strings.Repeat(" ", 201)), rec("", long), rec("a b", "a", long), rec("a b", long, "b"), rec("", append(wordsOf(19), long)...), rec("", append(wordsOf(9), append([]string{long}, wordsOf(9)...)...)...),
		rec(strings.Join(wordsOf(21), " "), wordsOf(21)...), rec("", wordsOf(21)...), rec("", make([]string, 21)...), rec("", wordsOf(26)...), rec("a", make([]string, 1000)...), rec(long, slices.Repeat([]string{long}, 21)...), rec(strings.Repeat("é", 101)),
	}
}
