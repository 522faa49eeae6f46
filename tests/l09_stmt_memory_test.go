package tests

import (
	"slices"
	"strings"
	"testing"
	"unsafe"

	"loop.example/g00288/impl"
)

// An overStmt is a statement whose texts, and those of its terms, lie over bytes that can be overwritten, with lists that have filled room behind them.
type overStmt struct {
	x     impl.Stmt
	texts [][]byte
	said  []string
}

func (o *overStmt) layText(s string) string {
	b := roomy(s, 8)
	o.texts, o.said = append(o.texts, b), append(o.said, s)
	return textOver(b)
}

func (o *overStmt) layTerms(l []impl.Expr) []impl.Expr {
	laid := make([]impl.Expr, 0, len(l)+3)
	for _, e := range l {
		within := over(e)
		o.texts, o.said = append(o.texts, within.texts...), append(o.said, within.said...)
		laid = append(laid, within.e)
	}
	whole := laid[:cap(laid)]
	for i := len(laid); i < len(whole); i++ {
		whole[i] = xVar(spareName)
	}
	return laid
}

func (o *overStmt) layBlock(l []impl.Stmt) []impl.Stmt {
	laid := make([]impl.Stmt, 0, len(l)+3)
	for _, x := range l {
		laid = append(laid, o.lay(x))
	}
	whole := laid[:cap(laid)]
	for i := len(laid); i < len(whole); i++ {
		whole[i] = spareStmt()
	}
	return laid
}

func (o *overStmt) lay(x impl.Stmt) impl.Stmt {
	return impl.Stmt{K: x.K, S: o.layText(x.S), T: o.layText(x.T), X: o.layTerms(x.X), A: o.layBlock(x.A), B: o.layBlock(x.B)}
}

func overS(x impl.Stmt) *overStmt {
	o := &overStmt{}
	o.x = o.lay(x)
	return o
}

func spareStmt() impl.Stmt { return sSet(spareName, xVar(spareName)) }

func (o *overStmt) wantUntouched(t *testing.T, x impl.Stmt) {
	t.Helper()
	for i, b := range o.texts {
		wantUntouched(t, "a call on a statement", b, o.said[i])
	}
	if !untouchedStmt(o.x, x) {
		t.Errorf("a call wrote into its argument, a statement of the kind %d", x.K)
	}
}

func untouchedStmt(roomy, x impl.Stmt) bool {
	if roomy.K != x.K || roomy.S != x.S || roomy.T != x.T || len(roomy.X) != len(x.X) {
		return false
	}
	for i := range x.X {
		if !untouchedExpr(roomy.X[i], x.X[i]) {
			return false
		}
	}
	for _, spare := range roomy.X[len(roomy.X):cap(roomy.X)] {
		if !untouchedExpr(spare, xVar(spareName)) {
			return false
		}
	}
	return untouchedBlock(roomy.A, x.A) && untouchedBlock(roomy.B, x.B)
}

func untouchedBlock(roomy, l []impl.Stmt) bool {
	if len(roomy) != len(l) {
		return false
	}
	for i := range l {
		if !untouchedStmt(roomy[i], l[i]) {
			return false
		}
	}
	for _, spare := range roomy[len(roomy):cap(roomy)] {
		if !untouchedStmt(spare, spareStmt()) {
			return false
		}
	}
	return true
}

func statementsOfAllKinds() []impl.Stmt {
	l := append(wrongStmts(), stmtOfCount(60, 4), stmtOfCount(61, 4), stmtOfCount(60, 59))
	for _, row := range stmtRows() {
		l = append(l, row.x, sIf(stmts(row.x, sNext()), stmts(sNext(), row.x)))
	}
	return l
}

func TestStatementsThatAreHandedInAreLeft(t *testing.T) {
	for _, x := range statementsOfAllKinds() {
		o := overS(x)
		ok, text, block := impl.StmtOk(o.x), impl.StmtText(o.x), impl.BlockText(o.x.A)
		o.wantUntouched(t, x)
		if ok != impl.StmtOk(x) || text != impl.StmtText(x) || block != impl.BlockText(x.A) {
			t.Errorf("what lies behind a list's length counts: %v, %q, %q", ok, text, block)
		}
		l := (&overStmt{}).layBlock(stmts(x, sNext(), x))
		if got, want := impl.BlockText(l), impl.BlockText(stmts(x, sNext(), x)); got != want {
			t.Errorf("what lies behind a block's length counts: %q, want %q", got, want)
		}
		if !untouchedBlock(l, stmts(x, sNext(), x)) {
			t.Errorf("BlockText wrote into its argument, a statement of the kind %d", x.K)
		}
	}
}

// A and B may lie one behind the other in one list's memory.
func TestBlocksThatShareTheirMemoryAreLeft(t *testing.T) {
	for _, row := range stmtRows() {
		whole := stmts(row.x, sNext(), row.x, spareStmt())
		before := slices.Clone(whole)
		x := sIf(whole[:1], whole[1:3])
		wantStmt(t, x, "if (x) { "+row.text+" } else { next; "+row.text+" }")
		x = sIf(whole[:2], whole[1:2])
		wantStmt(t, x, "if (x) { "+row.text+" next; } else { next; }")
		for i := range whole {
			if !untouchedStmt(whole[i], before[i]) {
				t.Errorf("a call on %q wrote into its argument, at %d", row.text, i)
			}
		}
	}
}

func TestTextsOfStatementsAreNewMemory(t *testing.T) {
	for _, x := range statementsOfAllKinds() {
		o := overS(x)
		text, block := impl.StmtText(o.x), impl.BlockText(stmts(o.x))
		told, toldBlock := strings.Clone(text), strings.Clone(block)
		for _, b := range o.texts {
			overwrite(b)
		}
		if text != told || block != toldBlock {
			t.Errorf("the text %q shares memory with its statement: %q, %q", told, text, block)
		}
	}
}

func TestTextsOfStatementsShareNoMemoryWithEachOther(t *testing.T) {
	for _, row := range stmtRows() {
		if unsafe.StringData(impl.StmtText(row.x)) == unsafe.StringData(impl.StmtText(row.x)) {
			t.Errorf("two texts %q lie in one place", row.text)
		}
	}
}

// What was asked ahead, right or wrong, turns no answer.
func TestStatementsHangOnThemselvesAlone(t *testing.T) {
	for _, row := range stmtRows() {
		for _, wrong := range wrongStmts() {
			wantNoStmt(t, "ahead of "+row.text, sWhile(wrong))
		}
		wantStmt(t, row.x, row.text)
		wantStmt(t, row.x, row.text)
	}
}
