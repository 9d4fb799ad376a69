package tests

import (
	"slices"
	"strings"
	"testing"

	"loop.example/g00893/impl"
)

// threeVars is the program of a text that follows the declarations of the variables a of size 2, b of size 3 and c of
// size 4.
func threeVars(t *testing.T, text string) impl.Program {
	t.Helper()
	return programOf(t, "var a 2 var b 3 var c 4 fuel 1 "+text)
}

// expectLeft checks what is left of a program. Its declarations and expressions are those of the program, and its
// statements those of a program of threeVars with the wanted text.
func expectLeft(t *testing.T, what string, p, q impl.Program, ok bool, wanted string) {
	t.Helper()
	if !ok || !impl.IsValidProgram(q) {
		t.Errorf("%s: %+v %v", what, q, ok)
		return
	}
	if !slices.Equal(q.Vars, p.Vars) || !slices.Equal(q.Exprs, p.Exprs) || q.Fuel != p.Fuel || !impl.EqualPrograms(q, renumberedByReference(q)) {
		t.Errorf("%s: %+v of %+v", what, q, p)
	}
	text, _ := impl.FormatProgram(q)
	if wantedText := programText(threeVars(t, wanted)); text != wantedText {
		t.Errorf("%s: %q instead of %q", what, text, wantedText)
	}
}

// sliceCase tells what liveness does to a program: which variables are live at its start, which statements are dead, and
// what is left.
type sliceCase struct {
	what, text string
	keep       []int
	live, dead []int
	left       string
}

func (c sliceCase) expect(t *testing.T) {
	t.Helper()
	p := threeVars(t, c.text)
	live, ok := impl.LiveAtStart(p, c.keep)
	expectList(t, c.what+": live", live, ok, append([]int{}, c.live...))
	dead, ok := impl.DeadStatements(p, c.keep)
	expectList(t, c.what+": dead", dead, ok, append([]int{}, c.dead...))
	q, ok := impl.SliceFor(p, c.keep)
	expectLeft(t, c.what, p, q, ok, c.left)
	n, _ := needsOf(p, c.keep)
	if !slices.Equal(n.live(), c.live) || !slices.Equal(n.dead(), c.dead) || !impl.EqualPrograms(n.slice(), q) {
		t.Errorf("%s: the reference returns %v, %v and %+v", c.what, n.live(), n.dead(), n.slice())
	}
}

// Lists of the variables a, b and c.
var (
	none  = []int{}
	justA = []int{0}
	justB = []int{1}
	justC = []int{2}
	allOf = []int{0, 1, 2}
)

// exampleOfSlicing is the text of the program of the example of chapter 8.
const exampleOfSlicing = "flip a 0:1 1:1 b := a if c { a := b } else { skip } observe b"

func TestLiveness(t *testing.T) {
	withoutSkip := strings.Replace(exampleOfSlicing, "skip", "", 1)
	withoutIf := "flip a 0:1 1:1 b := a observe b"
	for _, c := range []sliceCase{
		{"example", exampleOfSlicing, justA, justC, []int{4}, withoutSkip},
		{"example for b", exampleOfSlicing, justB, none, []int{2, 3, 4}, withoutIf},
		{"example for c", exampleOfSlicing, justC, justC, []int{2, 3, 4}, withoutIf},
		{"example for nothing", exampleOfSlicing, none, none, []int{2, 3, 4}, withoutIf},
		{"example for all", exampleOfSlicing, allOf, justC, []int{4}, withoutSkip},
		{"no statements", "", none, none, none, ""}, {"no statements, a kept", "", justA, justA, none, ""},
		{"no statements, all kept", "", allOf, allOf, none, ""},
		{"assignment", "a := b", justA, justB, none, "a := b"}, {"assignment of another one", "a := b", justB, justB, []int{0}, ""},
		{"assignment for both", "a := b", []int{0, 1}, justB, none, "a := b"}, {"assignment for nothing", "a := b", none, none, []int{0}, ""},
		{"assignment of a constant", "a := 1", allOf, []int{1, 2}, none, "a := 1"}, {"assignment of two", "a := (b + c)", justA, []int{1, 2}, none, "a := (b + c)"},
		{"dead assignment of two", "a := (b + c)", justB, justB, []int{0}, ""},
		{"sample", "flip a 0:1 1:1", justA, none, none, "flip a 0:1 1:1"}, {"dead sample", "flip a 0:1 1:1", justC, justC, []int{0}, ""},
		{"sample of one choice", "flip a 1:3", justA, none, none, "flip a 1:3"}, {"dead sample of one choice", "flip a 1:3", none, none, []int{0}, ""},
		{"own variable", "a := (a + 1)", justA, justA, none, "a := (a + 1)"}, {"own variable, dead", "a := (a + 1)", none, none, []int{0}, ""},
		{"own variable, twice", "a := (a + 1) a := (a * b)", justA, []int{0, 1}, none, "a := (a + 1) a := (a * b)"},
		{"own variable, behind another", "a := b a := (a + 1)", justA, justB, none, "a := b a := (a + 1)"},
		{"dead behind another", "a := b a := c", justA, justC, []int{0}, "a := c"}, {"dead behind a sample", "a := b flip a 0:1 1:1", justA, none, []int{0}, "flip a 0:1 1:1"},
		{"dead sample behind another", "flip a 0:1 1:1 a := 1", justA, none, []int{0}, "a := 1"},
		{"read between two", "a := b c := a a := b", []int{0, 2}, justB, none, "a := b c := a a := b"},
		{"read between two by a dead one", "a := b c := a a := b", justA, justB, []int{0, 1}, "a := b"},
		{"chain", "a := 1 b := a c := b", justC, none, none, "a := 1 b := a c := b"}, {"chain for the middle", "a := 1 b := a c := b", justB, none, []int{2}, "a := 1 b := a"},
		{"chain for the start", "a := b b := c c := a", justA, justB, []int{1, 2}, "a := b"},
		{"dead chain", "a := b b := a a := b b := a", none, none, []int{0, 1, 2, 3}, ""},
		{"unused variable", "a := b", justC, justC, []int{0}, ""},
	} {
		c.expect(t)
	}
}

func TestLivenessOfSkips(t *testing.T) {
	for _, c := range []sliceCase{
		{"skip", "skip", allOf, allOf, []int{0}, ""}, {"skips", "skip skip skip", none, none, []int{0, 1, 2}, ""},
		{"skips beside others", "skip a := b skip observe a skip", justC, []int{1, 2}, []int{0, 2, 4}, "a := b observe a"},
		{"skip in Then", "if a { skip } else { }", justB, justB, []int{0, 1}, ""}, {"skip in Else", "if a { } else { skip }", justB, justB, []int{0, 1}, ""},
		{"skip in both", "if a { skip } else { skip }", justB, justB, []int{0, 1, 2}, ""},
		{"skip beside another", "if a { skip b := c } else { skip }", justB, allOf, []int{1, 3}, "if a { b := c } else { }"},
		{"skip beside a dead one", "if a { b := c skip } else { skip }", justC, justC, []int{0, 1, 2, 3}, ""},
	} {
		c.expect(t)
	}
}

func TestLivenessOfObservations(t *testing.T) {
	for _, keep := range [][]int{none, justA, justB, justC, {0, 1}, {0, 2}, {1, 2}, allOf} {
		with := func(v int) []int {
			live := append(slices.Clone(keep), v)
			slices.Sort(live)
			return slices.Compact(live)
		}
		for _, c := range []sliceCase{
			{"observe", "observe b", keep, with(1), none, "observe b"}, {"observe a constant", "observe 1", keep, keep, none, "observe 1"},
			{"observe a false constant", "observe 0 skip", keep, keep, []int{1}, "observe 0"}, {"observe twice", "observe a observe a", keep, with(0), none, "observe a observe a"},
			{"exhausting", "while c max 0 { }", keep, with(2), none, "while c max 0 { }"}, {"exhausting, constant", "while 0 max 0 { }", keep, keep, none, "while 0 max 0 { }"},
			{"exhausting, true", "while 1 max 0 { }", keep, keep, none, "while 1 max 0 { }"},
			{"nested observe", "if a { observe 1 } else { }", keep, with(0), none, "if a { observe 1 } else { }"},
			{"nested exhausting", "if a { } else { while 0 max 0 { } }", keep, with(0), none, "if a { } else { while 0 max 0 { } }"},
		} {
			c.expect(t)
		}
	}
	for _, c := range []sliceCase{
		{"assignment read by observe", "a := b observe a", none, justB, none, "a := b observe a"}, {"assignment behind observe", "observe a a := b", none, justA, []int{1}, "observe a"},
		{"sample read by observe", "flip b 0:1 1:1 flip c 0:1 1:1 observe b", none, none, []int{1}, "flip b 0:1 1:1 observe b"},
		{"assignment read by exhausting", "a := b while a max 0 { } a := c", none, justB, []int{2}, "a := b while a max 0 { }"},
		{"two of several read", "flip a 0:1 1:1 flip b 0:1 1:1 flip c 0:1 1:1 observe (a = c)", none, none, []int{1}, "flip a 0:1 1:1 flip c 0:1 1:1 observe (a = c)"},
		{"behind a false one", "observe 0 a := b", justA, justB, none, "observe 0 a := b"},
	} {
		c.expect(t)
	}
}

func TestLivenessOfBranches(t *testing.T) {
	for _, c := range []sliceCase{
		{"empty", "if a { } else { }", justB, justB, []int{0}, ""}, {"empty, its variable kept", "if a { } else { }", justA, justA, []int{0}, ""},
		{"empty ones in each other", "if a { if b { } else { } } else { if c { } else { } }", justA, justA, []int{0, 1, 2}, ""},
		{"assignment in Then", "if a { b := 1 } else { }", justB, []int{0, 1}, none, "if a { b := 1 } else { }"},
		{"assignment in Else", "if a { } else { b := 1 }", justB, []int{0, 1}, none, "if a { } else { b := 1 }"},
		{"assignment in both", "if a { b := 1 } else { b := c }", justB, []int{0, 2}, none, "if a { b := 1 } else { b := c }"},
		{"assignment of another in each", "if a { b := 1 } else { c := 1 }", []int{1, 2}, allOf, none, "if a { b := 1 } else { c := 1 }"},
		{"assignment of another in each, one kept", "if a { b := 1 } else { c := 1 }", justC, []int{0, 2}, []int{1}, "if a { } else { c := 1 }"},
		{"all dead", "if a { b := 1 skip } else { b := 2 flip c 0:1 1:1 }", justA, justA, []int{0, 1, 2, 3, 4}, ""},
		{"one live", "if a { b := 1 skip } else { b := 2 flip c 0:1 1:1 }", justC, []int{0, 2}, []int{1, 2, 3}, "if a { } else { flip c 0:1 1:1 }"},
		{"its variable assigned in it", "if a { a := 0 } else { a := 1 }", justA, justA, none, "if a { a := 0 } else { a := 1 }"},
		{"its variable assigned before it", "a := c if a { b := 1 } else { }", justB, []int{1, 2}, none, "a := c if a { b := 1 } else { }"},
		{"its variable assigned before it, dead", "a := c if a { b := 1 } else { }", justC, justC, []int{0, 1, 2}, ""},
		{"its variable assigned behind it", "if a { b := 1 } else { } a := c", []int{0, 1}, allOf, none, "if a { b := 1 } else { } a := c"},
		{"dead behind the same in both", "b := a if c { b := 1 } else { b := 2 }", justB, justC, []int{0}, "if c { b := 1 } else { b := 2 }"},
		{"not dead behind one in Then", "b := a if c { b := 1 } else { }", justB, []int{0, 2}, none, "b := a if c { b := 1 } else { }"},
		{"not dead behind one in Else", "b := a if c { } else { b := 2 }", justB, []int{0, 2}, none, "b := a if c { } else { b := 2 }"},
		{"dead within a branch", "if c { b := a b := 1 } else { }", justB, []int{1, 2}, []int{1}, "if c { b := 1 } else { }"},
		{"dead before it", "if c { b := 1 } else { } b := 2", justB, none, []int{0, 1}, "b := 2"},
		{"read in Then only", "b := 1 if a { c := b } else { c := 0 }", justC, justA, none, "b := 1 if a { c := b } else { c := 0 }"},
		{"read in Else only", "b := 1 if a { c := 0 } else { c := b }", justC, justA, none, "b := 1 if a { c := 0 } else { c := b }"},
		{"read in a dead one", "b := 1 if a { c := b } else { c := 0 }", justA, justA, []int{0, 1, 2, 3}, ""},
		{"Then does not reach Else", "if a { b := 1 } else { c := b }", justC, allOf, []int{1}, "if a { } else { c := b }"},
		{"Else does not reach Then", "if a { c := b } else { b := 1 }", justC, allOf, []int{2}, "if a { c := b } else { }"},
	} {
		c.expect(t)
	}
}

func TestLivenessOfNestedBranches(t *testing.T) {
	nested := "if a { if b { skip } else { c := 1 skip } skip } else { if b { a := 1 } else { } }"
	for _, c := range []sliceCase{
		{"for c", nested, justC, allOf, []int{2, 4, 5, 6, 7}, "if a { if b { } else { c := 1 } } else { }"},
		{"for a", nested, justA, []int{0, 1}, []int{1, 2, 3, 4, 5}, "if a { } else { if b { a := 1 } else { } }"},
		{"for both", nested, []int{0, 2}, allOf, []int{2, 4, 5}, "if a { if b { } else { c := 1 } } else { if b { a := 1 } else { } }"},
		{"for b", nested, justB, justB, []int{0, 1, 2, 3, 4, 5, 6, 7}, ""},
		{"deep observe", "if a { if b { } else { if c { observe 1 } else { skip } } } else { }", none, allOf, []int{4}, "if a { if b { } else { if c { observe 1 } else { } } } else { }"},
		{"deep skip", "if a { if b { } else { if c { skip } else { skip } } } else { }", allOf, allOf, []int{0, 1, 2, 3, 4}, ""},
		{"read in a later nested one", "c := 1 if a { } else { if b { observe c } else { } }", none, []int{0, 1}, none, "c := 1 if a { } else { if b { observe c } else { } }"},
		{"assigned in all four", "c := 1 if a { if b { c := 1 } else { c := 2 } } else { if b { c := 3 } else { c := a } }", justC, []int{0, 1}, []int{0},
			"if a { if b { c := 1 } else { c := 2 } } else { if b { c := 3 } else { c := a } }"},
		{"assigned in three of four", "c := 1 if a { if b { c := 1 } else { c := 2 } } else { if b { } else { c := a } }", justC, []int{0, 1}, none,
			"c := 1 if a { if b { c := 1 } else { c := 2 } } else { if b { } else { c := a } }"},
	} {
		c.expect(t)
	}
}

func TestLivenessOfLongPrograms(t *testing.T) {
	deep := strings.Repeat("if a { ", 23) + "b := c" + strings.Repeat(" } else { }", 23)
	every := []int{}
	for at := range 24 {
		every = append(every, at)
	}
	for _, c := range []sliceCase{
		{"24 skips", strings.Repeat("skip ", 24), allOf, allOf, every, ""},
		{"24 observations", strings.Repeat("observe b ", 24), none, justB, none, strings.Repeat("observe b ", 24)},
		{"24 assignments", strings.Repeat("a := b b := a ", 12), justB, justB, none, strings.Repeat("a := b b := a ", 12)},
		{"24 dead assignments", strings.Repeat("a := b ", 12) + strings.Repeat("c := b ", 12), none, none, every, ""},
		{"all but the last", strings.Repeat("a := b ", 24), justA, justB, every[:23], "a := b"},
		{"all but the first", "a := b " + strings.Repeat("c := a ", 23), justA, justB, every[1:], "a := b"},
		{"24 in each other", deep, justB, allOf, none, deep}, {"24 dead ones in each other", deep, []int{0, 2}, []int{0, 2}, every, ""},
	} {
		c.expect(t)
	}
}

// TestLivenessGoesByExpressions has expressions that are part of others, and one that no statement uses.
func TestLivenessGoesByExpressions(t *testing.T) {
	exprs := []impl.Expr{variable(0), variable(1), binary(impl.OpMul, 0, 1), constant(0), binary(impl.OpAnd, 2, 3), not(4), variable(2)}
	for e, wanted := range [][]int{{0}, {1}, {0, 1}, {}, {0, 1}, {0, 1}, {2}} {
		p := program([]int{2, 3, 4, 2}, exprs, 0, nil, assign(3, e))
		live, ok := impl.LiveAtStart(p, []int{3})
		expectList(t, "assignment", live, ok, wanted)
		for what, s := range map[string]tree{"observe": observe(e), "while": while(e, 0), "if": ifElse(e, block(observe(3)), nil)} {
			p := program([]int{2, 3, 4}, exprs, 0, nil, s)
			live, ok := impl.LiveAtStart(p, nil)
			expectList(t, what, live, ok, wanted)
		}
	}
	bare := program([]int{2, 2}, nil, 3, nil, sample(0, 1, 1), sample(1, 1, 1), skip())
	live, ok := impl.LiveAtStart(bare, justB)
	expectList(t, "no expressions: live", live, ok, none)
	dead, ok := impl.DeadStatements(bare, justB)
	expectList(t, "no expressions: dead", dead, ok, []int{0, 2})
	q, ok := impl.SliceFor(bare, justB)
	if !ok || !impl.EqualPrograms(q, program([]int{2, 2}, nil, 3, nil, sample(1, 1, 1))) {
		t.Errorf("no expressions: %+v %v", q, ok)
	}
}

// outOfOrder is a program whose statements are not numbered in pre-order, and outOfOrderText is its text.
func outOfOrder() impl.Program {
	return impl.Program{
		Vars:  variablesOfSizes(2, 3, 4),
		Exprs: []impl.Expr{variable(0), variable(1), variable(2)},
		Stmts: []impl.Stmt{
			{Kind: impl.StIf, Expr: 2, Then: []int{4}, Else: []int{3, 5}}, {Kind: impl.StObserve, Expr: 1}, {Kind: impl.StSample, Var: 1, Choices: choices(0, 1, 2, 1)},
			{Kind: impl.StSkip}, {Kind: impl.StAssign, Var: 1, Expr: 0}, {Kind: impl.StAssign, Var: 0, Expr: 1},
		},
		Body: []int{2, 1, 0},
		Fuel: 1,
	}
}

const outOfOrderText = "flip b 0:1 2:1 observe b if c { b := a } else { skip a := b }"

func variablesOfSizes(sizes ...int) []impl.Var { return program(sizes, nil, 0, nil).Vars }

func TestNumbersOfSlices(t *testing.T) {
	p := outOfOrder()
	expectLeft(t, "the program itself", p, renumberedByReference(p), true, outOfOrderText)
	for _, c := range []struct {
		keep, live, dead []int
		left             string
	}{
		{none, none, []int{0, 3, 4, 5}, "flip b 0:1 2:1 observe b"}, {justC, justC, []int{0, 3, 4, 5}, "flip b 0:1 2:1 observe b"},
		{justA, []int{0, 2}, []int{3, 4}, "flip b 0:1 2:1 observe b if c { } else { a := b }"},
		{justB, []int{0, 2}, []int{3, 5}, "flip b 0:1 2:1 observe b if c { b := a } else { }"},
		{allOf, []int{0, 2}, []int{3}, "flip b 0:1 2:1 observe b if c { b := a } else { a := b }"},
	} {
		live, ok := impl.LiveAtStart(p, c.keep)
		expectList(t, "live", live, ok, c.live)
		dead, ok := impl.DeadStatements(p, c.keep)
		expectList(t, "dead", dead, ok, c.dead)
		q, ok := impl.SliceFor(p, c.keep)
		expectLeft(t, "slice", p, q, ok, c.left)
	}
}
