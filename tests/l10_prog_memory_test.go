package tests

import (
	"slices"
	"strings"
	"testing"
	"unsafe"

	"loop.example/g00288/impl"
)

// layFilled is l with filled room behind it.
func layFilled[T any](l []T, lay func(T) T, spare T) []T {
	laid := make([]T, 0, len(l)+3)
	for _, x := range l {
		laid = append(laid, lay(x))
	}
	whole := laid[:cap(laid)]
	for i := len(laid); i < len(whole); i++ {
		whole[i] = spare
	}
	return laid
}

func spareRule() impl.Rule { return pWhen(xVar(spareName), spareStmt()) }

func spareFn() impl.Fn { return pFn("spare spare", spareStmt()) }

func (o *overStmt) layRule(r impl.Rule) impl.Rule {
	return impl.Rule{K: r.K, P: o.layTerms([]impl.Expr{r.P})[0], A: o.layBlock(r.A)}
}

func (o *overStmt) layFn(f impl.Fn) impl.Fn {
	return impl.Fn{Name: o.layText(f.Name), Params: layFilled(f.Params, o.layText, spareName), A: o.layBlock(f.A)}
}

func (o *overStmt) layProg(p impl.Prog) impl.Prog {
	return impl.Prog{Rules: layFilled(p.Rules, o.layRule, spareRule()), Fns: layFilled(p.Fns, o.layFn, spareFn())}
}

func untouchedList[T any](roomy, l []T, untouched func(T, T) bool, isSpare func(T) bool) bool {
	spare := roomy[len(roomy):cap(roomy)]
	return slices.EqualFunc(roomy, l, untouched) && !slices.ContainsFunc(spare, func(x T) bool { return !isSpare(x) })
}

func untouchedRule(roomy, r impl.Rule) bool {
	return roomy.K == r.K && untouchedExpr(roomy.P, r.P) && untouchedBlock(roomy.A, r.A)
}

func untouchedFn(roomy, f impl.Fn) bool {
	same := func(a, b string) bool { return a == b }
	return roomy.Name == f.Name && untouchedBlock(roomy.A, f.A) &&
		untouchedList(roomy.Params, f.Params, same, func(s string) bool { return s == spareName })
}

func untouchedProg(roomy, p impl.Prog) bool {
	return untouchedList(roomy.Rules, p.Rules, untouchedRule, func(r impl.Rule) bool { return toldSameRule(r, spareRule()) }) &&
		untouchedList(roomy.Fns, p.Fns, untouchedFn, func(f impl.Fn) bool { return toldSameFn(f, spareFn()) })
}

func (o *overStmt) wantTextsUntouched(t *testing.T) {
	t.Helper()
	for i, b := range o.texts {
		wantUntouched(t, "a call on a program", b, o.said[i])
	}
}

func TestProgramsThatAreHandedInAreLeft(t *testing.T) {
	for i, p := range someProgs() {
		o, other := &overStmt{}, &overStmt{}
		laid, laidToo := o.layProg(p), other.layProg(p)
		ok, text := impl.ProgOk(laid), impl.ProgText(laid)
		if ok != toldProgOk(p) || text != impl.ProgText(p) {
			t.Errorf("what lies behind a list's length counts: %v, %q", ok, text)
		}
		if !impl.SameProg(laid, laid) || !impl.SameProg(laid, laidToo) || !impl.SameProg(laid, p) || !impl.SameProg(p, laid) {
			t.Errorf("the program %d is not the same as itself with room behind its lists", i)
		}
		impl.SameProg(laid, impl.Prog{Rules: laid.Rules[:len(laid.Rules)/2], Fns: laid.Fns})
		o.wantTextsUntouched(t)
		other.wantTextsUntouched(t)
		if !untouchedProg(laid, p) || !untouchedProg(laidToo, p) {
			t.Errorf("a call wrote into its argument, the program %d", i)
		}
	}
}

func TestTreesThatAreHeldAgainstEachOtherAreLeft(t *testing.T) {
	for i, e := range someExprs() {
		a, b := over(e), over(e)
		if !impl.SameExpr(a.e, b.e) || !impl.SameExpr(a.e, e) || impl.SameExpr(a.e, xNot(b.e)) {
			t.Errorf("the term %d is not the same as itself", i)
		}
		a.wantUntouched(t, e)
		b.wantUntouched(t, e)
	}
	for i, x := range someStatements() {
		a, b := overS(x), overS(x)
		if !impl.SameStmt(a.x, b.x) || !impl.SameStmt(a.x, x) || impl.SameStmt(a.x, sFor(b.x)) {
			t.Errorf("the statement %d is not the same as itself", i)
		}
		a.wantUntouched(t, x)
		b.wantUntouched(t, x)
	}
}

func TestTextsOfProgramsAreNewMemory(t *testing.T) {
	for _, p := range someProgs() {
		o := &overStmt{}
		text := impl.ProgText(o.layProg(p))
		told := strings.Clone(text)
		for _, b := range o.texts {
			overwrite(b)
		}
		if text != told {
			t.Errorf("the text %q shares memory with its program: %q", told, text)
		}
		if again := impl.ProgText(p); again != "" && unsafe.StringData(again) == unsafe.StringData(impl.ProgText(p)) {
			t.Errorf("two texts %q lie in one place", text)
		}
	}
}

// What was asked ahead, right or wrong, same or other, turns no answer, not even where memory is other by then.
func TestProgramsHangOnThemselvesAlone(t *testing.T) {
	for _, row := range progRows() {
		for _, wrong := range someProgs() {
			impl.ProgText(wrong)
			impl.SameProg(row.p, wrong)
		}
		wantProg(t, row.p, row.text)
		wantProg(t, row.p, row.text)
	}
	l, m := []impl.Expr{xNot(xs(1)...)}, []impl.Expr{xNot(xs(1)...)}
	wantSameExpr(t, "ahead", xNot(l...), xNot(m...), true)
	m[0].L[0].S = "y"
	wantSameExpr(t, "turned", xNot(l...), xNot(m...), false)
	l[0].L[0].S = "y"
	wantSameExpr(t, "both turned", xNot(l...), xNot(m...), true)
}
