package tests

import (
	"math"
	"slices"
	"strings"
	"testing"

	"loop.example/g00893/impl"
)

// expectEquivalence checks on which variables two programs are equivalent, in both orders.
func expectEquivalence(t *testing.T, what string, p, q impl.Program, keep []int, wanted bool) {
	t.Helper()
	for _, pair := range [][2]impl.Program{{p, q}, {q, p}} {
		if is, ok := impl.EquivalentOn(pair[0], pair[1], keep); is != wanted || !ok {
			t.Errorf("%s: equivalent on %v: %v %v", what, keep, is, ok)
		}
	}
	a, okA := keptByReference(p, keep)
	if b, okB := keptByReference(q, keep); !okA || !okB || sameMasses(a, b) != wanted {
		t.Errorf("%s: the reference returns %v and %v on %v", what, a, b, keep)
	}
}

// subsets returns all increasing lists of the three variables.
func subsets() [][]int { return [][]int{none, justA, justB, justC, {0, 1}, {0, 2}, {1, 2}, allOf} }

func TestEquivalentOn(t *testing.T) {
	coin := "flip a 0:1 1:1 "
	for _, c := range []struct {
		what, first, second string
		equivalent          [][]int
	}{
		{"no statements", "", "", subsets()}, {"the same", exampleOfSlicing, exampleOfSlicing, subsets()}, {"skip", coin, "skip " + coin + "skip", subsets()},
		{"example and its slice", exampleOfSlicing, coin + "b := a observe b", subsets()}, {"its slice for b", exampleOfSlicing, "flip b 0:1 1:1 observe b", [][]int{none, justB, justC, {1, 2}}},
		{"other values of a", "a := 1", "", [][]int{none, justB, justC, {1, 2}}}, {"other values of c", "c := 1", "c := 2", [][]int{none, justA, justB, {0, 1}}},
		{"random and fixed", coin, "a := 1", [][]int{none, justB, justC, {1, 2}}}, {"multiplied weights", "flip c 0:1 2:2 3:3", "flip c 0:4 2:8 3:12", subsets()},
		{"other weights", "flip c 0:1 2:2 3:3", "flip c 0:2 2:1 3:3", [][]int{none, justA, justB, {0, 1}}}, {"another value", "flip c 0:1 2:2", "flip c 0:1 1:2", [][]int{none, justA, justB, {0, 1}}},
		{"one value more", "flip c 0:1 2:2", "flip c 0:1 2:2 3:1", [][]int{none, justA, justB, {0, 1}}}, {"one choice", "flip c 2:5", "c := 2", subsets()},
		{"dependent and independent", coin + "b := a", coin + "flip b 0:1 1:1", [][]int{none, justA, justB, justC, {0, 2}, {1, 2}}},
		{"equal and opposite", coin + "b := a", coin + "b := (not a)", [][]int{none, justA, justB, justC, {0, 2}, {1, 2}}},
		{"sums of masses", "flip c 0:1 1:1 2:1 3:1 b := (1 < c)", "flip b 0:1 1:1", [][]int{none, justA, justB, {0, 1}}},
		{"sums of unequal masses", "flip c 0:1 1:3 2:2 3:6 b := (1 < c)", "flip b 0:1 1:2", [][]int{none, justA, justB, {0, 1}}},
		{"unequal sums of as many masses", "flip c 0:1 1:3 2:2 3:6 b := (1 < c)", "flip c 0:1 1:2 2:3 3:6 b := (1 < c)", [][]int{none, justA}},
		{"in another order", "flip a 0:1 1:2 flip b 0:3 2:1", "flip b 0:3 2:1 flip a 0:1 1:2", subsets()},
		{"exchanged", "flip a 0:1 1:2 flip b 0:3 1:1", "flip b 0:1 1:2 flip a 0:3 1:1", [][]int{none, justC}},
		{"rejected", "observe 0", "observe a b := 2 c := 3", subsets()}, {"exhausted", "while 1 max 0 { }", "a := 1 while a max 3 { }", subsets()},
		{"rejected and exhausted", "observe 0", "while 1 max 0 { }", nil}, {"rejected and not", "observe 0", "", nil}, {"exhausted and not", "while 1 max 0 { }", "", nil},
		{"rejected and exhausted in half", coin + "observe a", coin + "while (not a) max 0 { }", nil}, {"rejected in half and not", coin + "observe a", "a := 1", nil},
		{"another half is rejected", coin + "observe a", coin + "observe (not a)", [][]int{none, justB, justC, {1, 2}}},
		{"another half is exhausted", coin + "while a max 0 { }", coin + "while (not a) max 0 { }", [][]int{none, justB, justC, {1, 2}}},
		{"more is rejected", coin + "observe a", "flip a 0:1 1:2 observe a", nil}, {"more is exhausted", coin + "while a max 0 { }", "flip a 0:1 1:2 while a max 0 { }", nil},
		{"both in another order", "flip b 0:1 1:1 2:1 observe b while (b = 2) max 0 { }", "flip b 0:1 1:1 2:1 while (b = 2) max 0 { } observe b", subsets()},
		{"both exchanged", "flip b 0:1 1:1 2:1 observe b while (b = 2) max 0 { }", "flip b 0:1 1:1 2:1 observe (not (b = 2)) while (b = 0) max 0 { }", subsets()},
		{"both exchanged with other masses", "flip b 0:1 1:1 2:2 observe b while (b = 2) max 0 { }", "flip b 0:1 1:1 2:2 observe (not (b = 2)) while (b = 0) max 0 { }", nil},
		{"loops", "repeat 4 { " + coin + "}", coin, subsets()}, {"a loop that ends", "c := 3 while c max 3 { c := (c - 1) }", "", subsets()}, {"a loop that is exhausted", "c := 3 while c max 2 { c := (c - 1) }", "while 1 max 0 { }", subsets()},
	} {
		for _, keep := range subsets() {
			wanted := slices.ContainsFunc(c.equivalent, func(list []int) bool { return slices.Equal(list, keep) })
			expectEquivalence(t, c.what, threeVars(t, c.first), threeVars(t, c.second), keep, wanted)
		}
	}
}

// TestEquivalenceOfPrograms has programs that differ in what is no variable.
func TestEquivalenceOfPrograms(t *testing.T) {
	called := programOf(t, "var a 4 var b 2 proc f { flip a 0:1 3:2 call g } proc g { b := (a = 3) } fuel 2 call f")
	for _, keep := range [][]int{{}, {0}, {1}, {0, 1}} {
		expectEquivalence(t, "calls", called, twoVars(t, "fuel 0 flip a 0:1 3:2 b := (a = 3)"), keep, true)
		expectEquivalence(t, "less fuel", called, changed(called, func(p *impl.Program) { p.Fuel = 1 }), keep, false)
		expectEquivalence(t, "no expressions", program([]int{4, 2}, nil, 3, nil, sample(0, 1)), program([]int{4, 2}, chain(40), 0, [][]tree{{}}), keep, true)
		expectEquivalence(t, "out of order", twoVars(t, "fuel 0 flip a 1:2 2:1 flip b 0:1 1:1"), impl.Program{Vars: variablesOfSizes(4, 2), Stmts: []impl.Stmt{
			{Kind: impl.StSample, Var: 1, Choices: choices(0, 1, 1, 1)}, {Kind: impl.StSample, Var: 0, Choices: choices(1, 2, 2, 1)}}, Body: []int{1, 0}}, keep, true)
	}
	long := strings.Repeat("flip c 0:1 1:12 2:1 3:1 ", 5)
	expectEquivalence(t, "1024 paths", threeVars(t, long+"flip b 0:1 1:1"), threeVars(t, "flip c 0:1 1:12 2:1 3:1 flip b 0:1 1:1"), allOf, true)
	expectEquivalence(t, "2048 paths", threeVars(t, long+"flip b 0:1 1:1"), threeVars(t, "flip b 0:1 1:1"), justC, false)
	wide := program([]int{4, 4, 4, 4, 4}, []impl.Expr{variable(0), variable(4)}, 0, nil, sample(0, 1, 2, 3, 4), sample(1, 1, 1, 1, 1), sample(2, 4, 3, 2, 1), sample(3, 1, 2, 1, 2), sample(4, 3, 1, 3, 1))
	other := changed(wide, func(p *impl.Program) { p.Stmts[3].Choices[3].Weight = 3 })
	for keep, wanted := range map[string]bool{"": true, "0": true, "3": false, "0124": true, "01234": false, "24": true, "34": false} {
		list := []int{}
		for _, digit := range keep {
			list = append(list, int(digit-'0'))
		}
		expectEquivalence(t, "1024 states", wide, other, list, wanted)
	}
}

// expectNoEquivalence checks that EquivalentOn fails, in both orders.
func expectNoEquivalence(t *testing.T, what string, p, q impl.Program, keep []int) {
	t.Helper()
	for _, pair := range [][2]impl.Program{{p, q}, {q, p}} {
		if is, ok := impl.EquivalentOn(pair[0], pair[1], keep); is || ok {
			t.Errorf("%s: equivalent on %.60v: %v %v", what, keep, is, ok)
		}
	}
}

// badLists returns lists that are no increasing lists of the given number of variables.
func badLists(vars int) [][]int {
	lists := [][]int{{-1}, {vars}, {math.MinInt}, {math.MaxInt}, {0, vars}, {-1, 0}, {0, 0}, {vars - 1, vars - 1}, {0, math.MaxInt}, {math.MinInt, 0}, {math.MinInt, math.MaxInt}, make([]int, 1000)}
	if vars > 1 {
		lists = append(lists, []int{1, 0}, []int{0, 1, 1}, []int{0, 1, 0}, []int{0, 1, -1})
	}
	return lists
}

func TestEquivalenceOfInvalidArguments(t *testing.T) {
	p := threeVars(t, exampleOfSlicing)
	for what, edit := range map[string]func(p *impl.Program){
		"another name": func(p *impl.Program) { p.Vars[1].Name = "x" }, "names exchanged": func(p *impl.Program) { p.Vars[1].Name, p.Vars[2].Name = "c", "b" },
		"another size": func(p *impl.Program) { p.Vars[2].Size = 3 }, "a variable more": func(p *impl.Program) { p.Vars = append(p.Vars, impl.Var{Name: "d", Size: 2}) },
		"an invalid name": func(p *impl.Program) { p.Vars[0].Name = "if" }, "an invalid size": func(p *impl.Program) { p.Vars[0].Size = 5 },
		"no variables": func(p *impl.Program) { p.Vars = nil }, "no body": func(p *impl.Program) { p.Body = nil },
	} {
		q := changed(p, edit)
		expectNoEquivalence(t, what, p, q, none)
		expectNoEquivalence(t, what, p, q, justB)
	}
	fewer := program([]int{2, 3}, nil, 0, nil)
	expectNoEquivalence(t, "a variable less", program([]int{2, 3, 4}, nil, 0, nil), fewer, []int{0, 1})
	expectNoEquivalence(t, "a variable less", program([]int{2, 3, 4}, nil, 0, nil), fewer, none)
	for _, keep := range badLists(3) {
		expectNoEquivalence(t, "list", p, p, keep)
		expectNoEquivalence(t, "list", p, threeVars(t, ""), keep)
	}
	for reason, q := range invalidPrograms() {
		for _, keep := range [][]int{none, justA} {
			expectNoEquivalence(t, reason, q, q, keep)
			expectNoEquivalence(t, reason, everyKind(), q, keep)
		}
	}
	many := strings.Repeat("flip c 0:1 1:1 2:1 3:1 ", 6)
	for _, text := range []string{many, many + strings.Repeat("flip c 0:1 1:1 2:1 3:1 ", 6), "observe 0 " + many, "if a { " + many + "} else { }"} {
		expectNoEquivalence(t, "too many paths", threeVars(t, text), threeVars(t, text), justA)
		expectNoEquivalence(t, "too many paths", threeVars(t, text), p, none)
	}
}

// expectSlicingFailures checks that all functions of a program that is not unrolled return zero values, or all that take
// a list if only this is wrong.
func expectSlicingFailures(t *testing.T, what string, p impl.Program, keep []int, wholly bool) {
	t.Helper()
	live, ok := impl.LiveAtStart(p, keep)
	expectList(t, what+": live", live, ok, nil)
	dead, ok := impl.DeadStatements(p, keep)
	expectList(t, what+": dead", dead, ok, nil)
	calls := map[string]rewriting{
		"slice":    func(p impl.Program) (impl.Program, bool) { return impl.SliceFor(p, keep) },
		"simplify": func(p impl.Program) (impl.Program, bool) { return impl.Simplify(p, keep) },
	}
	if wholly {
		known, ok := impl.KnownAtEnd(p)
		expectList(t, what+": known", known, ok, nil)
		calls["propagate"] = impl.Propagate
	}
	for name, rewrite := range calls {
		expectRewritten(t, what+": "+name, rewrite, p, impl.Program{})
	}
}

func TestSlicingOfInvalidArguments(t *testing.T) {
	for reason, p := range invalidPrograms() {
		expectSlicingFailures(t, reason, p, none, true)
		expectSlicingFailures(t, reason, p, justA, true)
	}
	for _, p := range []impl.Program{{}, {Vars: make([]impl.Var, 1)}, {Stmts: make([]impl.Stmt, 1), Body: make([]int, 1)}, {Exprs: make([]impl.Expr, 1)}, {Procs: make([]impl.Proc, 1)}} {
		expectSlicingFailures(t, "zero values", p, none, true)
	}
	for what, edit := range map[string]func(p *impl.Program){
		"zero variable": func(p *impl.Program) { p.Vars[1] = impl.Var{} }, "zero expression": func(p *impl.Program) { p.Exprs[1] = impl.Expr{} },
		"zero statement": func(p *impl.Program) { p.Stmts[1] = impl.Stmt{} }, "zero procedure": func(p *impl.Program) { p.Procs = make([]impl.Proc, 1) },
		"zero choice": func(p *impl.Program) { p.Stmts[0].Choices[0] = impl.Choice{} }, "no choices": func(p *impl.Program) { p.Stmts[0].Choices = nil },
		"choices of one value": func(p *impl.Program) { p.Stmts[0].Choices[1].Value = 0 }, "three choices of one value": func(p *impl.Program) { p.Stmts[0].Choices = choices(1, 1, 1, 1, 1, 2) },
	} {
		expectSlicingFailures(t, what, changed(exampleG(), edit), justA, true)
	}
	for what, p := range map[string]impl.Program{
		"procedure": calling(1, [][]tree{{skip()}}, skip()), "empty procedure": calling(0, [][]tree{{}}), "call": calling(1, [][]tree{{skip()}}, call(0)), "every kind": everyKind(),
		"repeat": calling(0, nil, repeat(1, skip())), "empty repeat": calling(0, nil, repeat(4)), "while": calling(0, nil, while(exprA, 1, skip())), "empty while": calling(0, nil, while(exprA, 1)),
		"while 0 with a block": calling(0, nil, while(exprA, 0, skip())), "nested repeat": calling(0, nil, ifElse(exprA, nil, block(ifElse(exprB, block(repeat(2)), nil)))),
		"nested while": calling(0, nil, sample(0, 1, 1), ifElse(exprA, block(while(exprB, 2)), block(skip()))), "repeat in a block that is not executed": calling(0, nil, ifElse(exprA, block(repeat(2)), nil)),
	} {
		if !impl.IsValidProgram(p) {
			t.Fatalf("%s: not valid", what)
		}
		expectSlicingFailures(t, what, p, none, true)
		expectSlicingFailures(t, what, p, []int{0, 1}, true)
	}
	for _, p := range []impl.Program{exampleG(), manySkips(0), manySkips(24), threeVars(t, exampleOfSlicing), program([]int{2, 2, 2, 2, 2}, nil, 0, nil)} {
		for _, keep := range badLists(len(p.Vars)) {
			expectSlicingFailures(t, "list", p, keep, false)
		}
		if _, ok := impl.Simplify(p, none); !ok {
			t.Errorf("%+v: fails for no variables", p)
		}
	}
}
