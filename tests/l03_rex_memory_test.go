package tests

import (
	"testing"

	"loop.example/g00288/impl"
)

var spareRex = impl.Rex{K: impl.RStar, S: "spare", L: []impl.Rex{{K: impl.RLit, S: "s"}}}

// roomyRex is r with spare room behind each of its lists, which is filled, so that a write there shows.
func roomyRex(r impl.Rex) impl.Rex {
	l := make([]impl.Rex, 0, len(r.L)+3)
	for _, part := range r.L {
		l = append(l, roomyRex(part))
	}
	whole := l[:cap(l)]
	for i := len(l); i < len(whole); i++ {
		whole[i] = spareRex
	}
	r.L = l
	return r
}

func untouchedRex(roomy, r impl.Rex) bool {
	if roomy.K != r.K || roomy.S != r.S || len(roomy.L) != len(r.L) {
		return false
	}
	for i := range r.L {
		if !untouchedRex(roomy.L[i], r.L[i]) {
			return false
		}
	}
	for _, spare := range roomy.L[len(roomy.L):cap(roomy.L)] {
		if !sameRex(spare, spareRex) {
			return false
		}
	}
	return true
}

func TestRegularExpressionsThatAreHandedInAreLeft(t *testing.T) {
	for _, r := range append(someRexes(), wrongRexes()...) {
		argument, before := roomyRex(r), copyRex(r)
		ok, text := impl.RexOk(argument), impl.RexText(argument)
		if !untouchedRex(argument, before) {
			t.Errorf("RexOk or RexText wrote into its argument: %v", before)
		}
		if ok != impl.RexOk(r) || text != impl.RexText(r) {
			t.Errorf("what lies behind a list's length counts: %v, %q", ok, text)
		}
	}
}

// listPlaces notes each place of each list, its spare room too, and answers false where one was noted ahead.
func listPlaces(r impl.Rex, seen map[*impl.Rex]int) bool {
	alone := true
	whole := r.L[:cap(r.L)]
	for i := range whole {
		seen[&whole[i]]++
		alone = alone && seen[&whole[i]] == 1
	}
	for _, part := range r.L {
		alone = listPlaces(part, seen) && alone
	}
	return alone
}

func TestListsOfRegularExpressionsThatAreReadShareNoMemory(t *testing.T) {
	seen := map[*impl.Rex]int{}
	for _, r := range someRexes() {
		s := impl.RexText(r)
		first, _ := impl.ParseRex(s)
		second, _ := impl.ParseRex(s)
		if !listPlaces(first, seen) || !listPlaces(second, seen) {
			t.Errorf("two lists of what is read of %q share memory", s)
		}
		overwriteRex(first)
		if !sameRex(second, r) {
			t.Errorf("what is read of %q turned with another", s)
		}
		wantRex(t, s, r)
	}
}

func overwriteRex(r impl.Rex) {
	for _, part := range r.L {
		overwriteRex(part)
	}
	whole := r.L[:cap(r.L)]
	for i := range whole {
		whole[i] = spareRex
	}
}

// What could not be read must leave nothing behind for the next one.
func TestReadingHangsOnItsTextAlone(t *testing.T) {
	for _, row := range rexRows() {
		wantRex(t, row.text, row.r)
		wantNoRex(t, row.text+"(")
		wantNoRex(t, "("+row.text)
		wantRex(t, row.text, row.r)
	}
}
