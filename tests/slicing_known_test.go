package tests

import (
	"slices"
	"strings"
	"testing"

	"loop.example/g00893/impl"
)

// knownCase tells what is known at the end of a program, and what Propagate leaves of it.
type knownCase struct {
	what, text string
	known      []int
	left       string
}

func (c knownCase) expect(t *testing.T) {
	t.Helper()
	p := threeVars(t, c.text)
	known, ok := impl.KnownAtEnd(p)
	expectList(t, c.what+": known", known, ok, c.known)
	q, ok := impl.Propagate(p)
	expectLeft(t, c.what, p, q, ok, c.left)
	if r, known := propagatedByReference(p); !slices.Equal(known, c.known) || !impl.EqualPrograms(r, q) {
		t.Errorf("%s: the reference returns %v and %+v", c.what, known, r)
	}
}

func expectAllKnown(t *testing.T, cases []knownCase) {
	t.Helper()
	for _, c := range cases {
		c.expect(t)
	}
}

func TestKnownValues(t *testing.T) {
	same := func(what, text string, known ...int) knownCase { return knownCase{what, text, known, text} }
	expectAllKnown(t, []knownCase{
		same("no statements", "", 0, 0, 0), same("skip", "skip skip", 0, 0, 0), same("constant", "b := 2", 0, 2, 0), same("all of them", "a := 1 b := 2 c := 3", 1, 2, 3),
		same("overwritten", "c := 3 c := 1", 0, 0, 1), same("another one", "c := 3 b := c", 0, 0, 3), same("initial value", "c := (b + 1)", 0, 0, 1),
		same("modulo the size", "a := 3 b := 20 c := (20 + 3)", 1, 2, 0), same("modulo the size, once", "b := (c + 5) a := b c := 4", 0, 2, 0),
		same("own variable", "c := (c + 3)", 0, 0, 3), same("own variable, several times", "c := (c + 1) c := (c + 1) c := (c + 1)", 0, 0, 3),
		same("own variable, wrapping", "b := 2 b := (b + b)", 0, 1, 0), same("own variable, unknown", "flip a 0:1 1:1 a := (not a)", -1, 0, 0),
		same("swapped", "b := 1 c := 2 a := b b := c c := a", 1, 2, 1),
		same("sample of one choice", "flip b 2:5", 0, 2, 0), same("sample of one choice again", "c := 3 flip c 0:1", 0, 0, 0), same("all samples", "flip a 1:12 flip b 1:1 flip c 3:2", 1, 1, 3),
		same("sample", "flip b 1:1 2:1", 0, -1, 0), same("sample of two that are not 0", "b := 1 flip b 1:1 2:12", 0, -1, 0), same("sample of all", "flip c 0:1 1:1 2:1 3:1", 0, 0, -1),
		same("known again", "flip a 0:1 1:1 a := 1", 1, 0, 0), same("known again by a sample", "flip a 0:1 1:1 flip a 1:1", 1, 0, 0), same("unknown again", "a := 1 flip a 0:1 1:1", -1, 0, 0),
		same("of an unknown one", "flip a 0:1 1:1 b := a c := (b + 1)", -1, -1, -1), same("before an unknown one", "c := a flip a 0:1 1:1", -1, 0, 0),
		same("of one that was unknown", "flip a 0:1 1:1 a := 1 b := a", 1, 1, 0), same("of a known and an unknown one", "flip a 0:1 1:1 b := 1 c := (a + b)", -1, 1, -1),
		same("0 times an unknown one", "flip a 0:1 1:1 b := (a * 0)", -1, -1, 0), same("an unknown one is itself", "flip a 0:1 1:1 b := (a = a)", -1, -1, 0),
		same("an unknown one or true", "flip a 0:1 1:1 c := (1 or a)", -1, 0, -1), same("as itself", "flip a 0:1 1:1 a := a", -1, 0, 0),
	})
}

func TestKnownObservations(t *testing.T) {
	expectAllKnown(t, []knownCase{
		{"true", "observe 1", []int{0, 0, 0}, ""}, {"true, 20", "observe 20", []int{0, 0, 0}, ""}, {"true, 2", "b := 2 observe b", []int{0, 2, 0}, "b := 2"},
		{"true, at the start", "observe (a = b)", []int{0, 0, 0}, ""}, {"true for a sample", "flip c 3:1 observe (2 < c) skip", []int{0, 0, 3}, "flip c 3:1 skip"},
		{"false", "observe 0", []int{0, 0, 0}, "observe 0"}, {"false at the start", "observe a", []int{0, 0, 0}, "observe a"}, {"false for a value", "a := 1 observe (not a)", []int{1, 0, 0}, "a := 1 observe (not a)"},
		{"false goes on", "observe 0 a := 1 observe a", []int{1, 0, 0}, "observe 0 a := 1"}, {"unknown", "flip a 0:1 1:1 observe a", []int{-1, 0, 0}, "flip a 0:1 1:1 observe a"},
		{"nothing is learnt", "flip a 0:1 1:1 observe (a = 1) observe a", []int{-1, 0, 0}, "flip a 0:1 1:1 observe (a = 1) observe a"},
		{"true, but unknown", "flip a 0:1 1:1 observe (a = a)", []int{-1, 0, 0}, "flip a 0:1 1:1 observe (a = a)"},
		{"false, but unknown", "flip a 0:1 1:1 observe (a * 0)", []int{-1, 0, 0}, "flip a 0:1 1:1 observe (a * 0)"},
		{"several", "observe 1 observe a observe (not a) skip observe b", []int{0, 0, 0}, "observe a skip observe b"},
		{"true and false in turn", "observe a a := 1 observe a a := 0 observe a", []int{0, 0, 0}, "observe a a := 1 a := 0 observe a"},
	})
}

func TestKnownExhaustion(t *testing.T) {
	expectAllKnown(t, []knownCase{
		{"false", "while 0 max 0 { }", []int{0, 0, 0}, ""}, {"false at the start", "while c max 0 { } skip", []int{0, 0, 0}, "skip"},
		{"false for a value", "a := 1 while (not a) max 0 { }", []int{1, 0, 0}, "a := 1"}, {"false for a sample", "flip b 2:1 while (b = 1) max 0 { }", []int{0, 2, 0}, "flip b 2:1"},
		{"true", "while 1 max 0 { }", []int{0, 0, 0}, "while 1 max 0 { }"}, {"true, 2", "b := 2 while b max 0 { }", []int{0, 2, 0}, "b := 2 while b max 0 { }"},
		{"true goes on", "while (not a) max 0 { } a := 1 while (not a) max 0 { }", []int{1, 0, 0}, "while (not a) max 0 { } a := 1"},
		{"unknown", "flip a 0:1 1:1 while a max 0 { }", []int{-1, 0, 0}, "flip a 0:1 1:1 while a max 0 { }"},
		{"false, but unknown", "flip a 0:1 1:1 while (a * 0) max 0 { }", []int{-1, 0, 0}, "flip a 0:1 1:1 while (a * 0) max 0 { }"},
		{"nothing is learnt", "flip a 0:1 1:1 while a max 0 { } observe (not a)", []int{-1, 0, 0}, "flip a 0:1 1:1 while a max 0 { } observe (not a)"},
	})
}

func TestKnownBranches(t *testing.T) {
	both := "if a { b := 1 skip } else { b := 2 }"
	expectAllKnown(t, []knownCase{
		{"false", both, []int{0, 2, 0}, "b := 2"}, {"true", "a := 1 " + both, []int{1, 1, 0}, "a := 1 b := 1 skip"}, {"true, 2", "b := 2 if b { c := 1 } else { c := 2 }", []int{0, 2, 1}, "b := 2 c := 1"},
		{"true by a sample", "flip a 1:2 " + both, []int{1, 1, 0}, "flip a 1:2 b := 1 skip"}, {"constant 1", "if 1 { skip } else { }", []int{0, 0, 0}, "skip"},
		{"constant 20", "if 20 { } else { skip }", []int{0, 0, 0}, ""}, {"constant 0", "if 0 { skip } else { a := 1 }", []int{1, 0, 0}, "a := 1"},
		{"empty Then", "a := 1 if a { } else { observe 0 }", []int{1, 0, 0}, "a := 1"}, {"empty Else", "if a { observe 0 } else { }", []int{0, 0, 0}, ""}, {"empty", "if a { } else { }", []int{0, 0, 0}, ""},
		{"between others", "skip if 1 { skip a := 1 } else { observe 0 } observe b", []int{1, 0, 0}, "skip skip a := 1 observe b"},
		{"its variable assigned in it", "if a { } else { a := 1 } if a { b := 1 } else { b := 2 }", []int{1, 1, 0}, "a := 1 b := 1"},
		{"its variable unknown behind it", both + " flip a 0:1 1:1", []int{-1, 2, 0}, "b := 2 flip a 0:1 1:1"},
		{"unknown in the executed block", "if a { } else { flip b 0:1 1:1 }", []int{0, -1, 0}, "flip b 0:1 1:1"}, {"unknown in the other block", "if a { flip b 0:1 1:1 } else { }", []int{0, 0, 0}, ""},
		{"within another", "if a { } else { if b { skip } else { observe 1 c := 1 } skip }", []int{0, 0, 1}, "c := 1 skip"},
		{"within another that is true", "if (not a) { a := 1 if a { if b { } else { b := 2 } } else { } } else { }", []int{1, 2, 0}, "a := 1 b := 2"},
		{"several", "if a { } else { b := 1 } if b { c := 3 } else { } if (c = 3) { while c max 0 { } } else { }", []int{0, 1, 3}, "b := 1 c := 3 while c max 0 { }"},
		{"all but one", "flip b 0:1 1:1 if a { } else { if b { if a { } else { c := 1 } } else { } }", []int{0, -1, -1}, "flip b 0:1 1:1 if b { c := 1 } else { }"},
	})
}

// TestKnownBehindBranches has branches of which it is not known which one is executed.
func TestKnownBehindBranches(t *testing.T) {
	for _, c := range []knownCase{
		{"the same", "if a { b := 1 } else { b := 1 }", []int{-1, 1, 0}, ""}, {"different ones", "if a { b := 1 } else { b := 2 }", []int{-1, -1, 0}, ""},
		{"in Then", "if a { b := 1 } else { }", []int{-1, -1, 0}, ""}, {"in Else", "if a { } else { c := 1 }", []int{-1, 0, -1}, ""},
		{"in Then, as before", "if a { b := 0 } else { }", []int{-1, 0, 0}, ""}, {"in Else, as before", "b := 2 if a { } else { b := 2 }", []int{-1, 2, 0}, ""},
		{"neither", "b := 2 if a { c := 1 } else { skip c := 1 }", []int{-1, 2, 1}, ""}, {"empty", "c := 2 if a { } else { }", []int{-1, 0, 2}, ""},
		{"unknown in Then", "if a { flip b 0:1 1:1 } else { b := 1 }", []int{-1, -1, 0}, ""}, {"unknown in Else", "if a { b := 1 } else { flip b 0:1 1:1 }", []int{-1, -1, 0}, ""},
		{"unknown in both", "if a { flip b 0:1 1:1 } else { flip b 0:1 1:1 }", []int{-1, -1, 0}, ""}, {"sampled in both", "if a { flip b 2:1 } else { flip b 2:7 }", []int{-1, 2, 0}, ""},
		{"unknown before", "flip b 0:1 1:1 if a { b := 2 } else { b := 2 }", []int{-1, 2, 0}, ""}, {"unknown before and in Then", "flip b 0:1 1:1 if a { } else { b := 2 }", []int{-1, -1, 0}, ""},
		{"its variable", "if a { a := 1 } else { a := 1 }", []int{1, 0, 0}, ""}, {"nothing is learnt in it", "if a { b := a } else { c := a }", []int{-1, -1, -1}, ""},
		{"each another one", "c := 1 if a { b := c } else { b := (c * c) }", []int{-1, 1, 1}, ""}, {"Else does not follow Then", "if a { b := 1 } else { c := b }", []int{-1, -1, 0}, ""},
		{"sums that are equal", "if a { b := 1 c := 2 } else { b := 2 c := 1 } c := (b + c)", []int{-1, -1, -1}, ""},
		{"never reached", "if a { observe 0 b := 1 } else { }", []int{-1, -1, 0}, ""}, {"known again", "if a { b := 1 } else { b := 2 } b := 0", []int{-1, 0, 0}, ""},
		{"in each other", "if a { if a { b := 1 } else { b := 1 } } else { b := 1 }", []int{-1, 1, 0}, ""}, {"in each other, different", "if a { if a { b := 1 } else { } } else { b := 1 }", []int{-1, -1, 0}, ""},
		{"decided in Then", "if a { b := 1 if b { c := 1 } else { c := 2 } } else { c := 1 }", []int{-1, -1, 1}, "if a { b := 1 c := 1 } else { c := 1 }"},
		{"decided in Else", "if a { } else { if b { c := 1 } else { } }", []int{-1, 0, 0}, "if a { } else { }"},
		{"decided in each and not behind", "if a { b := 1 if b { c := 1 } else { c := 2 } } else { if b { c := 1 } else { c := 2 } } if b { c := 3 } else { }", []int{-1, -1, -1},
			"if a { b := 1 c := 1 } else { c := 2 } if b { c := 3 } else { }"},
		{"decided in each and behind", "if a { b := 1 } else { b := 1 observe b } if b { c := 3 } else { }", []int{-1, 1, 3}, "if a { b := 1 } else { b := 1 } c := 3"},
		{"decided behind it only", "if a { if c { } else { } b := 1 } else { flip b 1:1 } observe b", []int{-1, 1, 0}, "if a { b := 1 } else { flip b 1:1 }"},
		{"observed in each", "if a { b := 1 observe b while b max 0 { } } else { observe b while b max 0 { } } observe b", []int{-1, -1, 0},
			"if a { b := 1 while b max 0 { } } else { observe b } observe b"},
		{"nothing left in it", "if a { observe 1 } else { while 0 max 0 { } }", []int{-1, 0, 0}, "if a { } else { }"},
	} {
		first := "flip a 0:1 1:1 "
		if c.left == "" {
			c.left = c.text
		}
		knownCase{c.what, first + c.text, c.known, first + c.left}.expect(t)
	}
}

func TestKnownValuesOfLongPrograms(t *testing.T) {
	expectAllKnown(t, []knownCase{
		{"24 skips", strings.Repeat("skip ", 24), []int{0, 0, 0}, strings.Repeat("skip ", 24)},
		{"24 true observations", strings.Repeat("observe 1 ", 24), []int{0, 0, 0}, ""}, {"24 false ones", strings.Repeat("observe a ", 24), []int{0, 0, 0}, strings.Repeat("observe a ", 24)},
		{"24 samples", strings.Repeat("flip a 0:1 1:1 ", 23) + "flip a 1:1", []int{1, 0, 0}, strings.Repeat("flip a 0:1 1:1 ", 23) + "flip a 1:1"},
		{"23 branches in each other", strings.Repeat("if 1 { ", 23) + "c := 3" + strings.Repeat(" } else { }", 23), []int{0, 0, 3}, "c := 3"},
		{"22 unknown ones", "flip a 0:1 1:1 " + strings.Repeat("if a { ", 22) + "c := 3" + strings.Repeat(" } else { }", 22), []int{-1, 0, -1},
			"flip a 0:1 1:1 " + strings.Repeat("if a { ", 22) + "c := 3" + strings.Repeat(" } else { }", 22)},
		{"12 branches", strings.Repeat("if c { c := 0 } else { } ", 12), []int{0, 0, 0}, ""},
	})
}

// TestKnownValuesGoByExpressions has expressions that are part of others, and no statement that uses the last one.
func TestKnownValuesGoByExpressions(t *testing.T) {
	exprs := []impl.Expr{variable(0), constant(3), binary(impl.OpMul, 0, 1), variable(1), binary(impl.OpAdd, 1, 3), not(0), variable(2)}
	for e, wanted := range []int{-1, 3, -1, 2, 1, -1, 0} {
		p := program([]int{2, 3, 4, 4}, exprs, 0, nil, sample(0, 1, 1), sample(1, 0, 0, 1), assign(3, e))
		known, ok := impl.KnownAtEnd(p)
		expectList(t, "known", known, ok, []int{-1, 2, 0, wanted})
		q, ok := impl.Propagate(changed(p, func(p *impl.Program) { p.Stmts[2] = observe(e).stmt }))
		if left := 2 + truthOf(wanted <= 0); !ok || len(q.Stmts) != left || !slices.Equal(q.Exprs, exprs) {
			t.Errorf("expression %d: %+v %v", e, q, ok)
		}
	}
	bare := program([]int{2, 4, 2, 2, 3}, nil, 2, nil, sample(0, 1, 1), sample(1, 0, 0, 0, 1), skip())
	known, ok := impl.KnownAtEnd(bare)
	expectList(t, "no expressions", known, ok, []int{-1, 3, 0, 0, 0})
	expectRewritten(t, "no expressions", impl.Propagate, bare, bare)
	for _, sizes := range [][]int{{2}, {4, 2}, {2, 2, 2, 2, 2}} {
		known, ok := impl.KnownAtEnd(program(sizes, nil, 0, nil))
		expectList(t, "no statements", known, ok, make([]int, len(sizes)))
	}
}

func TestNumbersOfPropagated(t *testing.T) {
	p := outOfOrder()
	q, ok := impl.Propagate(p)
	expectLeft(t, "decided", p, q, ok, "flip b 0:1 2:1 observe b skip a := b")
	p.Stmts[2].Var = 2
	q, ok = impl.Propagate(p)
	expectLeft(t, "undecided", p, q, ok, "flip c 0:1 2:1 observe b if c { b := a } else { skip a := b }")
	p.Stmts[1].Expr = 0
	p.Stmts[2] = impl.Stmt{Kind: impl.StAssign, Var: 2, Expr: 0}
	p.Exprs[0] = constant(1)
	q, ok = impl.Propagate(p)
	expectLeft(t, "true", p, q, ok, "c := 1 b := 1")
}

// expectSimplified checks what Simplify leaves of a program, and that nothing is left to do then.
func expectSimplified(t *testing.T, what string, p impl.Program, keep []int, wanted string) {
	t.Helper()
	q, ok := impl.Simplify(p, keep)
	expectLeft(t, what, p, q, ok, wanted)
	again, okAgain := impl.Simplify(q, keep)
	propagated, okPropagated := impl.Propagate(q)
	sliced, okSliced := impl.SliceFor(q, keep)
	if !okAgain || !okPropagated || !okSliced || !impl.EqualPrograms(again, q) || !impl.EqualPrograms(propagated, q) || !impl.EqualPrograms(sliced, q) {
		t.Errorf("%s: %+v is not simple", what, q)
	}
	if r, _, ok := simplifiedByReference(p, keep); ok && !impl.EqualPrograms(r, q) {
		t.Errorf("%s: the reference returns %+v", what, r)
	}
}

func TestSimplify(t *testing.T) {
	for _, c := range []struct {
		what, text string
		keep       []int
		left       string
	}{
		{"example", exampleOfSlicing, justA, "flip a 0:1 1:1 b := a observe b"}, {"example for nothing", exampleOfSlicing, none, "flip a 0:1 1:1 b := a observe b"},
		{"example for all", exampleOfSlicing, allOf, "flip a 0:1 1:1 b := a observe b"}, {"no statements", "", allOf, ""}, {"skip", "skip", allOf, ""},
		{"nothing to do", "flip a 0:1 1:1 b := a", justB, "flip a 0:1 1:1 b := a"}, {"nothing kept", "flip a 0:1 1:1 b := a", none, ""},
		{"what decides a branch is not read then", "b := 1 if b { a := 1 } else { }", justA, "a := 1"}, {"it is kept", "b := 1 if b { a := 1 } else { }", []int{0, 1}, "b := 1 a := 1"},
		{"what a true observation reads", "b := 2 observe b", justA, ""}, {"what a false one reads", "b := 2 observe (b = 1)", justA, "b := 2 observe (b = 1)"},
		{"what an exhausting while reads", "flip b 1:1 while (not b) max 0 { }", none, ""}, {"a true exhausting while", "flip b 1:1 while b max 0 { }", none, "flip b 1:1 while b max 0 { }"},
		{"observation in a branch", "flip a 0:1 1:1 if a { b := 1 observe b } else { skip }", justC, ""},
		{"skip in a branch", "flip a 0:1 1:1 if a { skip } else { skip b := 1 }", justB, "flip a 0:1 1:1 if a { } else { b := 1 }"},
		{"branch in a branch", "flip a 0:1 1:1 if a { if b { observe 0 } else { observe 1 } } else { }", justA, "flip a 0:1 1:1"},
		{"dead unknown", "flip a 0:1 1:1 b := a b := 1 observe b", justA, "flip a 0:1 1:1"}, {"dead unknown in a branch", "if c { } else { flip a 0:1 1:1 if a { b := 1 } else { } } observe (not b)", none,
			"flip a 0:1 1:1 if a { b := 1 } else { } observe (not b)"},
		{"all known", "a := 1 b := a c := (a + b) observe (c = 2)", justC, "a := 1 b := a c := (a + b)"},
		{"24 statements", strings.Repeat("if c { a := 1 } else { skip } ", 8), justA, ""}, {"24 that are left", strings.Repeat("flip a 0:1 1:1 observe a ", 12), none, strings.Repeat("flip a 0:1 1:1 observe a ", 12)},
	} {
		expectSimplified(t, c.what, threeVars(t, c.text), c.keep, c.left)
	}
	expectSimplified(t, "out of order", outOfOrder(), justA, "flip b 0:1 2:1 observe b a := b")
	expectSimplified(t, "out of order, not decided", changed(outOfOrder(), func(p *impl.Program) { p.Stmts[2].Var = 2 }), justB, "flip c 0:1 2:1 observe b if c { b := a } else { }")
	expectSimplified(t, "renumbered only", changed(outOfOrder(), func(p *impl.Program) { p.Stmts[2].Var, p.Stmts[3] = 2, observe(2).stmt }), allOf,
		"flip c 0:1 2:1 observe b if c { b := a } else { observe c a := b }")
}
