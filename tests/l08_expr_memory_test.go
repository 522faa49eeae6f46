package tests

import (
	"strings"
	"testing"

	"loop.example/g00288/impl"
)

const spareName = "spare"

// An overExpr is a term whose texts lie over bytes that can be overwritten, with lists that have filled room behind them.
type overExpr struct {
	e     impl.Expr
	texts [][]byte
	said  []string
}

func (o *overExpr) lay(e impl.Expr) impl.Expr {
	b := roomy(e.S, 8)
	o.texts, o.said = append(o.texts, b), append(o.said, e.S)
	l := make([]impl.Expr, 0, len(e.L)+3)
	for _, part := range e.L {
		l = append(l, o.lay(part))
	}
	whole := l[:cap(l)]
	for i := len(l); i < len(whole); i++ {
		whole[i] = xVar(spareName)
	}
	return impl.Expr{K: e.K, N: e.N, S: textOver(b), L: l}
}

func over(e impl.Expr) *overExpr {
	o := &overExpr{}
	o.e = o.lay(e)
	return o
}

func (o *overExpr) wantUntouched(t *testing.T, e impl.Expr) {
	t.Helper()
	for i, b := range o.texts {
		wantUntouched(t, "a call on a term", b, o.said[i])
	}
	if !untouchedExpr(o.e, e) {
		t.Errorf("a call on a term wrote into its argument: %v", e)
	}
}

func untouchedExpr(roomy, e impl.Expr) bool {
	if roomy.K != e.K || roomy.N != e.N || roomy.S != e.S || len(roomy.L) != len(e.L) {
		return false
	}
	for i := range e.L {
		if !untouchedExpr(roomy.L[i], e.L[i]) {
			return false
		}
	}
	for _, spare := range roomy.L[len(roomy.L):cap(roomy.L)] {
		if !untouchedExpr(spare, xVar(spareName)) {
			return false
		}
	}
	return true
}

func termsOfAllKinds() []impl.Expr {
	l := append(wrongExprs(), exprOfParts(100, 4), exprOfParts(101, 4))
	for _, row := range exprRows() {
		l = append(l, row.e, xNot(row.e))
	}
	return l
}

func TestTermsThatAreHandedInAreLeft(t *testing.T) {
	for _, e := range termsOfAllKinds() {
		o := over(e)
		ok, text := impl.ExprOk(o.e), impl.ExprText(o.e)
		for _, s := range []string{o.e.S, text} {
			impl.NameOk(s)
		}
		o.wantUntouched(t, e)
		if ok != impl.ExprOk(e) || text != impl.ExprText(e) {
			t.Errorf("what lies behind a list's length counts: %v, %q", ok, text)
		}
	}
}

func TestTextsOfTermsAreNewMemory(t *testing.T) {
	for _, e := range termsOfAllKinds() {
		o := over(e)
		text := impl.ExprText(o.e)
		told := strings.Clone(text)
		for _, b := range o.texts {
			overwrite(b)
		}
		if text != told {
			t.Errorf("the text %q shares memory with its term: %q", told, text)
		}
	}
}

// What was asked ahead, right or wrong, turns no answer.
func TestTermsHangOnThemselvesAlone(t *testing.T) {
	for _, row := range exprRows() {
		for _, wrong := range wrongExprs() {
			wantNoExpr(t, "ahead of "+row.text, xNot(wrong))
		}
		wantExpr(t, row.e, row.text)
		wantExpr(t, row.e, row.text)
	}
}
