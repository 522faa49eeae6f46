package tests

import (
	"math"
	"slices"
	"strings"
	"testing"
	"time"

	"loop.example/g00288/impl"
)

const maxNodes = 300

func byteNode(s string, a int) impl.Node { return impl.Node{K: impl.NByte, S: s, A: a} }

func anyNode(a int) impl.Node { return impl.Node{K: impl.NAny, A: a} }

func setNode(s string, a int) impl.Node { return impl.Node{K: impl.NSet, S: s, A: a} }

func splitNode(a, b int) impl.Node { return impl.Node{K: impl.NSplit, A: a, B: b} }

func beginNode(a int) impl.Node { return impl.Node{K: impl.NBegin, A: a} }

func endNode(a int) impl.Node { return impl.Node{K: impl.NEnd, A: a} }

func doneNode() impl.Node { return impl.Node{K: impl.NDone} }

func machine(l ...impl.Node) impl.Nfa { return impl.Nfa{Nodes: l} }

func wantNodes(t *testing.T, r impl.Rex, want ...impl.Node) {
	t.Helper()
	if got := impl.NfaOf(r).Nodes; !slices.Equal(got, want) {
		t.Errorf("NfaOf(%q) = %v, want %v", impl.RexText(r), got, want)
	}
}

// toldNodes are those of a part that is laid at this place, by the chapter's words: each part is laid apart, so that all places are known ahead.
func toldNodes(r impl.Rex, at int) []impl.Node {
	switch r.K {
	case impl.RLit:
		return []impl.Node{byteNode(r.S, at+1)}
	case impl.RAny:
		return []impl.Node{anyNode(at + 1)}
	case impl.RSet:
		return []impl.Node{setNode(r.S, at+1)}
	case impl.RBegin:
		return []impl.Node{beginNode(at + 1)}
	case impl.REnd:
		return []impl.Node{endNode(at + 1)}
	case impl.RCat:
		var l []impl.Node
		for _, part := range r.L {
			l = append(l, toldNodes(part, at+len(l))...)
		}
		return l
	case impl.RAlt:
		return toldChoices(r.L, at)
	case impl.RStar:
		part := toldNodes(r.L[0], at+1)
		return slices.Concat([]impl.Node{splitNode(at+1, at+len(part)+2)}, part, []impl.Node{splitNode(at, at)})
	case impl.RPlus:
		part := toldNodes(r.L[0], at)
		return append(part, splitNode(at, at+len(part)+1))
	case impl.ROpt:
		part := toldNodes(r.L[0], at+1)
		return append([]impl.Node{splitNode(at+1, at+len(part)+1)}, part...)
	}
	return nil
}

func toldChoices(parts []impl.Rex, at int) []impl.Node {
	if len(parts) == 1 {
		return toldNodes(parts[0], at)
	}
	part := toldNodes(parts[0], at+1)
	next := at + len(part) + 2
	rest := toldChoices(parts[1:], next)
	behind := next + len(rest)
	return slices.Concat([]impl.Node{splitNode(at+1, next)}, part, []impl.Node{splitNode(behind, behind)}, rest)
}

func TestTheKindsOfNodes(t *testing.T) {
	for i, k := range []int{impl.NByte, impl.NAny, impl.NSet, impl.NSplit, impl.NBegin, impl.NEnd, impl.NDone} {
		if k != i+1 {
			t.Errorf("the kind %d is %d", i+1, k)
		}
	}
}

func TestNodesOfSingles(t *testing.T) {
	for i := range len(rexBytes) {
		b := rexBytes[i : i+1]
		wantNodes(t, lit(b), byteNode(b, 1), doneNode())
		wantNodes(t, set(b), setNode(b, 1), doneNode())
	}
	wantNodes(t, set("0123456789"), setNode("0123456789", 1), doneNode())
	wantNodes(t, kind(impl.RAny), anyNode(1), doneNode())
	wantNodes(t, kind(impl.RBegin), beginNode(1), doneNode())
	wantNodes(t, kind(impl.REnd), endNode(1), doneNode())
	wantNodes(t, kind(impl.REmpty), doneNode())
}

func TestNodesOfOneBehindTheOther(t *testing.T) {
	wantNodes(t, cat(lits("ab")...), byteNode("a", 1), byteNode("b", 2), doneNode())
	wantNodes(t, cat(kind(impl.RBegin), kind(impl.RAny), set("ab"), kind(impl.REnd)), beginNode(1), anyNode(2), setNode("ab", 3), endNode(4), doneNode())
	wantNodes(t, cat(lits("abcdefgh")...), byteNode("a", 1), byteNode("b", 2), byteNode("c", 3), byteNode("d", 4), byteNode("e", 5), byteNode("f", 6), byteNode("g", 7), byteNode("h", 8), doneNode())
	wantNodes(t, cat(lit("a"), kind(impl.REmpty)), byteNode("a", 1), doneNode())
	wantNodes(t, cat(kind(impl.REmpty), lit("a"), kind(impl.REmpty), lit("b")), byteNode("a", 1), byteNode("b", 2), doneNode())
	wantNodes(t, cat(kind(impl.REmpty), kind(impl.REmpty)), doneNode())
}

func TestNodesOfOneOrTheOther(t *testing.T) {
	a, b, c, empty := lit("a"), lit("b"), lit("c"), kind(impl.REmpty)
	wantNodes(t, alt(a, b), splitNode(1, 3), byteNode("a", 2), splitNode(4, 4), byteNode("b", 4), doneNode())
	wantNodes(t, alt(a, b, c), splitNode(1, 3), byteNode("a", 2), splitNode(7, 7), splitNode(4, 6), byteNode("b", 5), splitNode(7, 7), byteNode("c", 7), doneNode())
	var eight []impl.Node
	for i, s := range []string{"a", "b", "c", "d", "e", "f", "g"} {
		eight = append(eight, splitNode(3*i+1, 3*i+3), byteNode(s, 3*i+2), splitNode(22, 22))
	}
	wantNodes(t, alt(lits("abcdefgh")...), append(eight, byteNode("h", 22), doneNode())...)
	wantNodes(t, alt(cat(a, b), c), splitNode(1, 4), byteNode("a", 2), byteNode("b", 3), splitNode(5, 5), byteNode("c", 5), doneNode())
	wantNodes(t, alt(a, empty), splitNode(1, 3), byteNode("a", 2), splitNode(3, 3), doneNode())
	wantNodes(t, alt(empty, a), splitNode(1, 2), splitNode(3, 3), byteNode("a", 3), doneNode())
	wantNodes(t, alt(empty, empty), splitNode(1, 2), splitNode(2, 2), doneNode())
	wantNodes(t, alt(a, empty, b), splitNode(1, 3), byteNode("a", 2), splitNode(6, 6), splitNode(4, 5), splitNode(6, 6), byteNode("b", 6), doneNode())
	wantNodes(t, cat(c, alt(a, b), c), byteNode("c", 1), splitNode(2, 4), byteNode("a", 3), splitNode(5, 5), byteNode("b", 5), byteNode("c", 6), doneNode())
}

func TestNodesOfRepeats(t *testing.T) {
	a, b, empty := lit("a"), lit("b"), kind(impl.REmpty)
	wantNodes(t, star(a), splitNode(1, 3), byteNode("a", 2), splitNode(0, 0), doneNode())
	wantNodes(t, plus(a), byteNode("a", 1), splitNode(0, 2), doneNode())
	wantNodes(t, opt(a), splitNode(1, 2), byteNode("a", 2), doneNode())
	wantNodes(t, cat(star(a), b), splitNode(1, 3), byteNode("a", 2), splitNode(0, 0), byteNode("b", 4), doneNode())
	wantNodes(t, cat(plus(a), b), byteNode("a", 1), splitNode(0, 2), byteNode("b", 3), doneNode())
	wantNodes(t, cat(opt(a), b), splitNode(1, 2), byteNode("a", 2), byteNode("b", 3), doneNode())
	wantNodes(t, cat(b, star(a)), byteNode("b", 1), splitNode(2, 4), byteNode("a", 3), splitNode(1, 1), doneNode())
	wantNodes(t, cat(b, plus(a)), byteNode("b", 1), byteNode("a", 2), splitNode(1, 3), doneNode())
	wantNodes(t, cat(b, opt(a)), byteNode("b", 1), splitNode(2, 3), byteNode("a", 3), doneNode())
	wantNodes(t, star(empty), splitNode(1, 2), splitNode(0, 0), doneNode())
	wantNodes(t, plus(empty), splitNode(0, 1), doneNode())
	wantNodes(t, opt(empty), splitNode(1, 1), doneNode())
	wantNodes(t, cat(b, plus(empty), a), byteNode("b", 1), splitNode(1, 2), byteNode("a", 3), doneNode())
}

func TestNodesOfRepeatsWithinEachOther(t *testing.T) {
	a, b := lit("a"), lit("b")
	wantNodes(t, star(cat(a, star(b))), splitNode(1, 6), byteNode("a", 2), splitNode(3, 5), byteNode("b", 4), splitNode(2, 2), splitNode(0, 0), doneNode())
	wantNodes(t, star(cat(plus(a), b)), splitNode(1, 5), byteNode("a", 2), splitNode(1, 3), byteNode("b", 4), splitNode(0, 0), doneNode())
	wantNodes(t, plus(cat(opt(a), b)), splitNode(1, 2), byteNode("a", 2), byteNode("b", 3), splitNode(0, 4), doneNode())
	wantNodes(t, plus(cat(b, star(a))), byteNode("b", 1), splitNode(2, 4), byteNode("a", 3), splitNode(1, 1), splitNode(0, 5), doneNode())
	wantNodes(t, opt(cat(a, plus(b))), splitNode(1, 4), byteNode("a", 2), byteNode("b", 3), splitNode(2, 4), doneNode())
	wantNodes(t, opt(alt(star(a), b)), splitNode(1, 7), splitNode(2, 6), splitNode(3, 5), byteNode("a", 4), splitNode(2, 2), splitNode(7, 7), byteNode("b", 7), doneNode())
	wantNodes(t, star(alt(a, b)), splitNode(1, 6), splitNode(2, 4), byteNode("a", 3), splitNode(5, 5), byteNode("b", 5), splitNode(0, 0), doneNode())
	wantNodes(t, alt(plus(a), opt(b)), splitNode(1, 4), byteNode("a", 2), splitNode(1, 3), splitNode(6, 6), splitNode(5, 6), byteNode("b", 6), doneNode())
}

// allRexes are all short ones, some, the heavy ones, and each kind within each.
func allRexes() []impl.Rex {
	l := append(append(someRexes(), heavyRexes()...), kindsWithinKinds()...)
	g := grammarUpTo(5)
	for n := range g.branch {
		for _, row := range append(g.branch[n], g.alts[n]...) {
			l = append(l, row.r)
		}
	}
	return append(l, mostNodes())
}

// mostNodes has as many choices as may be, each of them a repeat.
func mostNodes() impl.Rex {
	r := cat()
	for i := range 4 {
		choices := alt()
		for range 6 + i/3 {
			choices.L = append(choices.L, star(kind(impl.RAny)))
		}
		r.L = append(r.L, choices)
	}
	return r
}

func TestAllNodesAreLaidAsTold(t *testing.T) {
	asked, most := 0, 0
	for _, r := range allRexes() {
		n := impl.NfaOf(r)
		wantNodes(t, r, append(toldNodes(r, 0), doneNode())...)
		if !impl.NfaOk(n) {
			t.Errorf("the machine of %q is not NfaOk", impl.RexText(r))
		}
		asked++
		most = max(most, len(n.Nodes))
	}
	if asked < 1000 || most < 100 {
		t.Errorf("%d were asked, of at most %d nodes", asked, most)
	}
}

func TestWrongExpressionsHaveNoNodes(t *testing.T) {
	holdsItself := star(lit("a"))
	holdsItself.L[0] = cat(lit("a"), holdsItself)
	for i, r := range append(wrongRexes(), holdsItself) {
		n := impl.NfaOf(r)
		if len(n.Nodes) != 0 {
			t.Errorf("the wrong one %d has nodes: %v", i, n)
		}
		if impl.NfaOk(n) || impl.NfaMatches(n, "") || impl.NfaMatches(n, "a") {
			t.Errorf("the machine of the wrong one %d is right, or matches", i)
		}
	}
}

func wantNfaOk(t *testing.T, n impl.Nfa, want bool) {
	t.Helper()
	if got := impl.NfaOk(n); got != want {
		t.Errorf("NfaOk of %d nodes = %v, want %v: %v ..", len(n.Nodes), got, want, n.Nodes[:min(len(n.Nodes), 3)])
	}
}

func TestNfaOkOfEachSize(t *testing.T) {
	wantNfaOk(t, impl.Nfa{}, false)
	wantNfaOk(t, impl.Nfa{Nodes: []impl.Node{}}, false)
	wantNfaOk(t, impl.Nfa{Nodes: []impl.Node{doneNode()}[:0]}, false)
	for _, size := range []int{1, 2, 3, 299, 300, 301, 302, 600, 100000} {
		l := make([]impl.Node, size)
		for i := range l {
			l[i] = anyNode(size - 1)
		}
		l[size-1] = doneNode()
		wantNfaOk(t, machine(l...), size <= maxNodes)
	}
}

// Each kind ahead of the last node, with each field as told and as not told.
func TestNfaOkOfEachKind(t *testing.T) {
	for _, z := range []struct {
		n  impl.Node
		ok bool
	}{
		{byteNode("a", 1), true}, {byteNode("\x00", 0), true}, {byteNode("", 1), false}, {byteNode("ab", 1), false}, {byteNode("aa", 1), false}, {byteNode("é", 1), false}, {impl.Node{K: impl.NByte, S: "a", A: 1, B: 1}, false}, {impl.Node{K: impl.NByte, S: "a", A: 1, B: -1}, false},
		{anyNode(1), true}, {anyNode(0), true}, {impl.Node{K: impl.NAny, S: "a", A: 1}, false}, {impl.Node{K: impl.NAny, S: ".", A: 1}, false}, {impl.Node{K: impl.NAny, A: 1, B: 1}, false},
		{setNode("a", 1), true}, {setNode("ab", 1), true}, {setNode("0123456789", 0), true}, {setNode("", 1), false}, {impl.Node{K: impl.NSet, S: "ab", A: 1, B: 1}, false}, {impl.Node{K: impl.NSet, S: "ab", B: -1}, false},
		{splitNode(0, 1), true}, {splitNode(1, 0), true}, {splitNode(0, 0), true}, {splitNode(1, 1), true}, {impl.Node{K: impl.NSplit, S: "a", A: 1, B: 1}, false},
		{beginNode(1), true}, {beginNode(0), true}, {impl.Node{K: impl.NBegin, S: "^", A: 1}, false}, {impl.Node{K: impl.NBegin, A: 1, B: 1}, false},
		{endNode(1), true}, {endNode(0), true}, {impl.Node{K: impl.NEnd, S: "$", A: 1}, false}, {impl.Node{K: impl.NEnd, A: 1, B: 1}, false},
		{doneNode(), true}, {impl.Node{K: impl.NDone, S: "a"}, false}, {impl.Node{K: impl.NDone, A: 1}, false}, {impl.Node{K: impl.NDone, B: 1}, false}, {impl.Node{K: impl.NDone, A: -1}, false},
	} {
		wantNfaOk(t, machine(z.n, doneNode()), z.ok)
		wantNfaOk(t, machine(doneNode(), z.n, doneNode()), z.ok)
		wantNfaOk(t, machine(doneNode(), z.n), z.ok && z.n.K == impl.NDone)
		wantNfaOk(t, machine(z.n), z.ok && z.n.K == impl.NDone)
	}
	for _, k := range []int{0, -1, -7, 8, 9, 100, 257, 4294967297, 4294967303, math.MaxInt, math.MinInt} {
		for _, n := range []impl.Node{{K: k}, {K: k, A: 1}, {K: k, A: 1, B: 1}, {K: k, S: "a", A: 1}} {
			wantNfaOk(t, machine(n, doneNode()), false)
			wantNfaOk(t, machine(doneNode(), n), false)
			wantNfaOk(t, machine(n), false)
		}
	}
}

func TestNfaOkOfEachPlace(t *testing.T) {
	for _, size := range []int{2, 3, 60, 299, 300} {
		for _, at := range []int{0, (size - 1) / 2, size - 2} {
			for _, to := range []int{0, 1, size - 2, size - 1, size, size + 1, maxNodes, maxNodes + 1, -1, -2, 1000000, 4294967296, math.MaxInt, math.MinInt} {
				ok := to >= 0 && to < size
				for _, n := range []impl.Node{byteNode("a", to), anyNode(to), setNode("ab", to), beginNode(to), endNode(to), splitNode(to, 0), splitNode(0, to), splitNode(to, size-1), splitNode(to, to)} {
					l := slices.Repeat([]impl.Node{doneNode()}, size)
					l[at] = n
					wantNfaOk(t, machine(l...), ok)
				}
			}
		}
	}
}

// toldSpread marks over and over what is reached, until nothing comes to it.
func toldSpread(n impl.Nfa, l []int, at int, size int) []int {
	marked := make([]bool, len(n.Nodes))
	for _, i := range l {
		if i >= 0 && i < len(marked) {
			marked[i] = true
		}
	}
	for range marked {
		for i, x := range n.Nodes {
			if marked[i] && (x.K == impl.NSplit || x.K == impl.NBegin && at == 0 || x.K == impl.NEnd && at == size) {
				marked[x.A] = true
			}
			if marked[i] && x.K == impl.NSplit {
				marked[x.B] = true
			}
		}
	}
	var all []int
	for i := range marked {
		if marked[i] {
			all = append(all, i)
		}
	}
	return all
}

func wantSpread(t *testing.T, n impl.Nfa, l []int, at int, size int, want ...int) {
	t.Helper()
	if got := impl.Spread(n, l, at, size); !slices.Equal(got, want) {
		t.Errorf("Spread(%v, %v, %d, %d) = %v, want %v", n.Nodes, l, at, size, got, want)
	}
}

func TestSpread(t *testing.T) {
	n := machine(splitNode(1, 3), byteNode("a", 2), splitNode(0, 0), beginNode(5), endNode(6), splitNode(4, 7), anyNode(0), setNode("ab", 8), doneNode())
	wantSpread(t, n, []int{1}, 1, 2, 1)
	wantSpread(t, n, []int{6}, 1, 2, 6)
	wantSpread(t, n, []int{7}, 0, 0, 7)
	wantSpread(t, n, []int{8}, 0, 0, 8)
	wantSpread(t, n, []int{0}, 1, 2, 0, 1, 3)
	wantSpread(t, n, []int{0}, 2, 2, 0, 1, 3)
	wantSpread(t, n, []int{0}, 0, 2, 0, 1, 3, 4, 5, 7)
	wantSpread(t, n, []int{0}, 0, 0, 0, 1, 3, 4, 5, 6, 7)
	wantSpread(t, n, []int{2}, 1, 2, 0, 1, 2, 3)
	wantSpread(t, n, []int{5}, 1, 2, 4, 5, 7)
	wantSpread(t, n, []int{5}, 2, 2, 4, 5, 6, 7)
	wantSpread(t, n, []int{8, 2, 5, 1, 2, 8}, 1, 2, 0, 1, 2, 3, 4, 5, 7, 8)
	wantSpread(t, n, []int{8, 7, 6, 1}, 1, 2, 1, 6, 7, 8)
	wantSpread(t, n, []int{8, 8, 8}, 1, 2, 8)
	wantSpread(t, n, []int{-1, 9, 6, math.MaxInt, math.MinInt, 300, 4294967296}, 1, 2, 6)
	wantSpread(t, n, []int{-1, 9, 10}, 1, 2)
	wantSpread(t, n, []int{}, 0, 0)
	wantSpread(t, n, nil, 0, 0)
}

func TestSpreadAtBeginningsAndEnds(t *testing.T) {
	begin, end := machine(beginNode(1), doneNode()), machine(endNode(1), doneNode())
	both := machine(beginNode(1), endNode(2), doneNode())
	for size := range 4 {
		for at := range size + 1 {
			wantSpread(t, begin, []int{0}, at, size, toldSpread(begin, []int{0}, at, size)...)
			wantSpread(t, end, []int{0}, at, size, toldSpread(end, []int{0}, at, size)...)
		}
	}
	wantSpread(t, begin, []int{0}, 0, 5, 0, 1)
	wantSpread(t, begin, []int{0}, 1, 5, 0)
	wantSpread(t, begin, []int{0}, 5, 5, 0)
	wantSpread(t, end, []int{0}, 5, 5, 0, 1)
	wantSpread(t, end, []int{0}, 4, 5, 0)
	wantSpread(t, end, []int{0}, 0, 5, 0)
	wantSpread(t, both, []int{0}, 0, 0, 0, 1, 2)
	wantSpread(t, both, []int{0}, 0, 1, 0, 1)
	wantSpread(t, both, []int{0}, 1, 1, 0)
	wantSpread(t, both, []int{1}, 1, 1, 1, 2)
	// These are no places of a text; by the chapter's words they are neither its beginning nor its end.
	for _, at := range []int{-1, 6, math.MaxInt, math.MinInt} {
		wantSpread(t, begin, []int{0}, at, 5, 0)
		wantSpread(t, end, []int{0}, at, 5, 0)
	}
}

func TestSpreadInRings(t *testing.T) {
	wantSpread(t, machine(splitNode(0, 0), doneNode()), []int{0}, 0, 0, 0)
	wantSpread(t, machine(splitNode(1, 1), splitNode(0, 0), doneNode()), []int{1}, 0, 0, 0, 1)
	wantSpread(t, machine(beginNode(1), endNode(0), doneNode()), []int{1}, 0, 0, 0, 1)
	wantSpread(t, machine(splitNode(1, 2), splitNode(2, 0), splitNode(0, 3), doneNode()), []int{2}, 1, 2, 0, 1, 2, 3)
	// Each node splits to both its neighbours: ways without end, and a chain as long as may be.
	l := make([]impl.Node, maxNodes)
	var all []int
	for i := range l {
		l[i] = splitNode((i+1)%maxNodes, max(i-1, 0))
		all = append(all, i)
	}
	l[maxNodes-1] = doneNode()
	for _, from := range []int{0, 1, 150, maxNodes - 2} {
		wantSpread(t, machine(l...), []int{from}, 3, 7, all...)
	}
	wantSpread(t, machine(l...), slices.Repeat([]int{7, 298, 0}, 100000), 3, 7, all...)
	if impl.NfaMatches(machine(splitNode(0, 0), doneNode()), "aaa") || !impl.NfaMatches(machine(l...), "aaa") {
		t.Error("a ring matches other than told")
	}
}

// wrongMachines are all not right, each for one reason; one that is right is near.
func wrongMachines() []impl.Nfa {
	a, done := byteNode("a", 1), doneNode()
	return []impl.Nfa{
		{}, machine(a), machine(done, a), machine(a, byteNode("b", 0)), machine(byteNode("a", 2), done), machine(byteNode("a", -1), done), machine(byteNode("", 1), done), machine(byteNode("ab", 1), done), machine(setNode("", 1), done),
		machine(splitNode(0, 2), done), machine(splitNode(2, 0), done), machine(splitNode(-1, 1), done), machine(splitNode(1, math.MinInt), done), machine(beginNode(math.MaxInt), done), machine(endNode(-1), done), machine(anyNode(300), done),
		machine(impl.Node{}, done), machine(impl.Node{K: 8, A: 1}, done), machine(impl.Node{K: -1}, done), machine(a, impl.Node{K: impl.NDone, A: 1}), machine(a, impl.Node{K: impl.NDone, S: "a"}), machine(impl.Node{K: impl.NAny, A: 1, B: 1}, done), machine(impl.Node{K: impl.NSplit, S: "a", A: 1, B: 1}, done),
		machine(append(slices.Repeat([]impl.Node{splitNode(300, 300)}, maxNodes), done)...), machine(slices.Repeat([]impl.Node{done}, 100000)...),
	}
}

func TestWrongMachinesSpreadToNothingAndMatchNothing(t *testing.T) {
	for i, n := range wrongMachines() {
		if impl.NfaOk(n) {
			t.Errorf("the wrong machine %d is NfaOk", i)
		}
		for _, l := range [][]int{nil, {0}, {1}, {0, 1}, {1, 0, 2, -1, 300}} {
			for _, at := range []int{0, 1} {
				if got := impl.Spread(n, l, at, 1); len(got) != 0 {
					t.Errorf("Spread of the wrong machine %d, %v: %v", i, l, got)
				}
			}
			impl.Onward(n, l, 'a')
		}
		for _, s := range []string{"", "a", "ab", "b", strings.Repeat("a", impl.MaxText)} {
			if impl.NfaMatches(n, s) {
				t.Errorf("the wrong machine %d matches %q", i, s)
			}
		}
	}
}

func TestEveryMachineSpreadsAsTold(t *testing.T) {
	for _, r := range allRexes() {
		n := impl.NfaOf(r)
		for i := range n.Nodes {
			for _, place := range [][2]int{{0, 0}, {0, 2}, {1, 2}, {2, 2}} {
				l := []int{len(n.Nodes) - 1 - i, i, i, -1, len(n.Nodes)}
				for _, from := range [][]int{l, l[1:2]} {
					wantSpread(t, n, from, place[0], place[1], toldSpread(n, from, place[0], place[1])...)
				}
			}
		}
	}
}

func wantOnward(t *testing.T, n impl.Nfa, l []int, c byte, want ...int) {
	t.Helper()
	if got := impl.Onward(n, l, c); !slices.Equal(got, want) {
		t.Errorf("Onward(%v, %v, %q) = %v, want %v", n.Nodes, l, c, got, want)
	}
}

func TestOnward(t *testing.T) {
	n := machine(byteNode("a", 7), anyNode(3), setNode("ac", 5), splitNode(1, 2), beginNode(1), endNode(1), byteNode("a", 3), doneNode())
	all := []int{0, 1, 2, 3, 4, 5, 6, 7}
	wantOnward(t, n, all, 'a', 3, 5, 7)
	wantOnward(t, n, all, 'b', 3)
	wantOnward(t, n, all, 'c', 3, 5)
	wantOnward(t, n, []int{7, 6, 2, 0, 1, 0}, 'a', 3, 5, 7)
	wantOnward(t, n, []int{0}, 'a', 7)
	wantOnward(t, n, []int{0}, 'A')
	wantOnward(t, n, []int{0}, 'b')
	wantOnward(t, n, []int{2}, 'b')
	wantOnward(t, n, []int{2}, 'c', 5)
	wantOnward(t, n, []int{6, 1}, 'a', 3)
	wantOnward(t, n, []int{0, 0, 0}, 'a', 7)
	wantOnward(t, n, []int{3, 4, 5, 7}, 'a')
	wantOnward(t, n, []int{-1, 8, 300, math.MaxInt, math.MinInt, 4294967296}, 'a')
	wantOnward(t, n, []int{8, -1, 1}, 'a', 3)
	wantOnward(t, n, nil, 'a')
	wantOnward(t, n, []int{}, 'a')
	wantOnward(t, impl.Nfa{}, []int{0, 1, -1}, 'a')
	// The first node is one to go on at, too.
	wantOnward(t, machine(anyNode(0), doneNode()), []int{0}, 'a', 0)
}

func TestOnwardOfEachByte(t *testing.T) {
	for b := range 256 {
		s := string([]byte{byte(b)})
		n := machine(byteNode(s, 1), setNode(s, 2), setNode("\x00a\xff", 3), anyNode(4), doneNode())
		for c := range 256 {
			var want []int
			if b == c {
				want = append(want, 1, 2)
			}
			if c == 0 || c == 'a' || c == 255 {
				want = append(want, 3)
			}
			wantOnward(t, n, []int{0, 1, 2, 3, 4}, byte(c), append(want, 4)...)
		}
	}
}

// The chapter asks of Onward no machine that is NfaOk: it answers the A of what takes the byte, whatever it is.
func TestOnwardOfWrongMachines(t *testing.T) {
	n := machine(anyNode(math.MaxInt), byteNode("a", -1), setNode("ab", math.MinInt), impl.Node{}, impl.Node{K: 8, S: "a", A: 1}, impl.Node{K: -1, S: "a", A: 1}, byteNode("", 5), setNode("", 6), anyNode(300))
	wantOnward(t, n, []int{8, 7, 6, 5, 4, 3, 2, 1, 0}, 'a', math.MinInt, -1, 300, math.MaxInt)
	wantOnward(t, n, []int{8, 7, 6, 5, 4, 3, 2, 1, 0}, 'c', 300, math.MaxInt)
}

func wantNfaMatches(t *testing.T, r impl.Rex, s string, want bool) {
	t.Helper()
	if got := impl.NfaMatches(impl.NfaOf(r), s); got != want {
		t.Errorf("NfaMatches of %q, %q = %v, want %v", impl.RexText(r), s, got, want)
	}
}

func TestNfaMatches(t *testing.T) {
	for _, z := range []struct {
		r    string
		s    string
		want bool
	}{
		{"a", "a", true}, {"a", "bab", true}, {"a", "bba", true}, {"a", "b", false}, {"a", "", false}, {".", "", false}, {".", "\n", true}, {"[ab]", "xxb", true}, {"[ab]", "xxc", false},
		{"ab", "aab", true}, {"ab", "a", false}, {"ab", "acb", false}, {"aab", "aaab", true}, {"abab", "abaabab", true}, {"a|b", "cb", true}, {"a|b", "cd", false},
		{"()", "", true}, {"()", "a", true}, {"a*", "", true}, {"a*", "b", true}, {"a+", "", false}, {"a+", "ba", true}, {"a?", "b", true}, {"ba?b", "bb", true}, {"ba?b", "bab", true}, {"ba?b", "baab", false}, {"ba*b", "baaab", true}, {"ba+b", "bb", false}, {"ba+b", "baab", true},
		{"^", "", true}, {"^", "a", true}, {"$", "", true}, {"$", "a", true}, {"^$", "", true}, {"^$", "a", false}, {"$^", "", true}, {"$^", "a", false},
		{"^a", "ab", true}, {"^a", "ba", false}, {"a$", "ba", true}, {"a$", "ab", false}, {"^a$", "a", true}, {"^a$", "aa", false}, {"^a*$", "", true}, {"^a*$", "aaa", true}, {"^a*$", "aba", false},
		{"a^b", "ab", false}, {"a$b", "ab", false}, {"a^", "a", false}, {"$a", "a", false}, {"a?^b", "b", true}, {"a?^b", "ab", false}, {"a$b?", "xa", true}, {"a$b?", "ab", false}, {"^^a", "a", true}, {"a$$", "a", true},
		{"^a|b", "ca", false}, {"^a|b", "cb", true}, {"a|b$", "bc", false}, {"a|b$", "ac", true}, {"(^|b)a", "cba", true}, {"(^|b)a", "a", true}, {"(^|b)a", "ca", false}, {"a($|b)", "ca", true}, {"a($|b)", "cab", true}, {"a($|b)", "cac", false},
		{"^*a", "ba", true}, {"^+a", "ba", false}, {"^?a", "ba", true}, {"a$*", "ab", true}, {"a$+", "ab", false}, {"()+a()*", "ba", true},
		{"a$", "a\n", false}, {"^b", "a\nb", false},
	} {
		r, ok := impl.ParseRex(z.r)
		if !ok {
			t.Fatalf("%q is not read", z.r)
		}
		wantNfaMatches(t, r, z.s, z.want)
	}
}

func TestTheMachineMatchesWhatTheExpressionMatches(t *testing.T) {
	texts := append(shortTexts("abc", 3), "abcdefgh", "abcabc", "ab12", "a b,c:-_", "\x00\xff", "bcacaba", "aaaaaaaaab")
	asked, matched := 0, 0
	for _, r := range allRexes() {
		n := impl.NfaOf(r)
		for _, s := range texts {
			want := impl.Matches(r, s)
			if got := impl.NfaMatches(n, s); got != want {
				t.Errorf("NfaMatches of %q, %q = %v, want %v", impl.RexText(r), s, got, want)
			}
			asked++
			if want {
				matched++
			}
		}
	}
	if matched < 10000 || asked-matched < 10000 {
		t.Errorf("%d were asked, and %d match", asked, matched)
	}
}

func TestMachinesOfLongTexts(t *testing.T) {
	a, begin, end := lit("a"), kind(impl.RBegin), kind(impl.REnd)
	rexes := append(heavyRexes(), a, lit("b"), begin, end, star(a), plus(lit("b")), cat(begin, star(a), end), cat(begin, lit("b")), cat(lit("b"), end), cat(a, begin), cat(end, a), cat(begin, plus(kind(impl.RAny)), lit("b"), end))
	for _, r := range rexes {
		n := impl.NfaOf(r)
		for _, size := range []int{1, 63, 64, 65, 127, 128, 199, impl.MaxText} {
			some := strings.Repeat("a", size)
			for _, s := range []string{some, "b" + some[1:], some[1:] + "b", some[:size/2] + "b" + some[:size-size/2-1]} {
				began := time.Now()
				got := impl.NfaMatches(n, s)
				if took := time.Since(began); took > aMoment {
					t.Errorf("%q at %q took %v", impl.RexText(r), s, took)
				}
				if want := impl.Matches(r, s); got != want {
					t.Errorf("NfaMatches of %q, %q = %v, want %v", impl.RexText(r), s, got, want)
				}
			}
		}
	}
}

// The chapter sets a machine's texts no limit.
func TestMachinesOfTextsLongerThanAnExpressionTakes(t *testing.T) {
	for _, size := range []int{impl.MaxText, impl.MaxText + 1, 1000, 100000} {
		s := strings.Repeat("a", size) + "b"
		wantNfaMatches(t, lit("b"), s, true)
		wantNfaMatches(t, cat(kind(impl.RBegin), plus(lit("a")), lit("b"), kind(impl.REnd)), s, true)
		wantNfaMatches(t, lit("c"), s, false)
		wantNfaMatches(t, cat(lit("a"), kind(impl.REnd)), s, false)
	}
}

// Machines may be right that no expression has: the chapter asks no more of NDone than that the last one is.
func TestMachinesThatNoExpressionHas(t *testing.T) {
	for _, z := range []struct {
		n     impl.Nfa
		s     string
		match bool
	}{
		{machine(doneNode(), doneNode()), "", true}, {machine(byteNode("a", 1), doneNode(), byteNode("b", 3), doneNode()), "a", true}, {machine(byteNode("a", 1), doneNode(), byteNode("b", 3), doneNode()), "b", false},
		{machine(byteNode("*", 1), doneNode()), "a*", true}, {machine(byteNode("\xff", 1), doneNode()), "\xff", true}, {machine(setNode("ba/", 1), doneNode()), "x/", true}, {machine(setNode("ba/", 1), doneNode()), "x", false},
		{machine(anyNode(0), doneNode()), "aaa", false}, {machine(splitNode(2, 1), doneNode(), byteNode("a", 0), doneNode()), "", true}, {machine(byteNode("a", 2), byteNode("c", 3), byteNode("b", 1), doneNode()), "xabc", true}, {machine(byteNode("a", 2), byteNode("c", 3), byteNode("b", 1), doneNode()), "xacb", false},
	} {
		wantNfaOk(t, z.n, true)
		if got := impl.NfaMatches(z.n, z.s); got != z.match {
			t.Errorf("NfaMatches(%v, %q) = %v", z.n.Nodes, z.s, got)
		}
	}
}

var spareNode = impl.Node{K: impl.NDone, S: "spare", A: -7, B: 7}

// roomyNodes are these with spare room behind them that is filled, so that a write there shows.
func roomyNodes(l []impl.Node) []impl.Node {
	return append(slices.Clip(slices.Clone(l)), spareNode, spareNode, spareNode)[:len(l)]
}

func roomyInts(l []int) []int { return append(slices.Clip(slices.Clone(l)), 0, -7, 1)[:len(l)] }

func TestMachinesThatAreHandedInAreLeft(t *testing.T) {
	machines := wrongMachines()
	for _, r := range someRexes() {
		machines = append(machines, impl.NfaOf(r))
	}
	for _, n := range machines {
		size := len(n.Nodes)
		for _, list := range [][]int{nil, {0}, {size - 1, 1, 0, 1}, {size, -1, 2}} {
			argument, l := impl.Nfa{Nodes: roomyNodes(n.Nodes)}, roomyInts(list)
			ok, spread, onward, matches := impl.NfaOk(argument), impl.Spread(argument, l, 0, 0), impl.Onward(argument, l, 'a'), impl.NfaMatches(argument, "ab")
			if !slices.Equal(argument.Nodes, n.Nodes) || !slices.Equal(argument.Nodes[size:size+3], []impl.Node{spareNode, spareNode, spareNode}) {
				t.Errorf("a machine was written into: %v", argument.Nodes)
			}
			if !slices.Equal(l, list) || !slices.Equal(l[len(l):len(l)+3], []int{0, -7, 1}) {
				t.Errorf("a list was written into: %v", l)
			}
			if ok != impl.NfaOk(n) || matches != impl.NfaMatches(n, "ab") || !slices.Equal(spread, impl.Spread(n, list, 0, 0)) || !slices.Equal(onward, impl.Onward(n, list, 'a')) {
				t.Errorf("what lies behind a length counts: %v", n.Nodes)
			}
		}
	}
}

func overwriteInts(l []int) {
	whole := l[:cap(l)]
	for i := range whole {
		whole[i] = -7
	}
}

func TestWhatMachinesAnswerIsNewMemory(t *testing.T) {
	for _, r := range someRexes() {
		n := impl.NfaOf(r)
		l := []int{0, 1, 2, 3}
		for _, ask := range []func() []int{
			func() []int { return impl.Spread(n, l, 0, 0) },
			func() []int { return impl.Onward(n, l, 'a') },
		} {
			first, second := ask(), ask()
			told := slices.Clone(second)
			overwriteInts(first)
			if !slices.Equal(second, told) || !slices.Equal(ask(), told) || !slices.Equal(l, []int{0, 1, 2, 3}) {
				t.Errorf("what is reached in the machine of %q shares memory", impl.RexText(r))
			}
		}
	}
}

func TestNodesAreNewMemory(t *testing.T) {
	for _, r := range append(someRexes(), wrongRexes()...) {
		argument, before := roomyRex(r), copyRex(r)
		first, second := impl.NfaOf(argument), impl.NfaOf(argument)
		if !untouchedRex(argument, before) {
			t.Errorf("NfaOf wrote into its argument: %q", impl.RexText(before))
		}
		told := slices.Clone(second.Nodes)
		whole := first.Nodes[:cap(first.Nodes)]
		for i := range whole {
			whole[i] = spareNode
		}
		if !slices.Equal(second.Nodes, told) || !slices.Equal(impl.NfaOf(r).Nodes, told) {
			t.Errorf("the nodes of %q share memory, or hang on what lies behind a length", impl.RexText(before))
		}
	}
}
