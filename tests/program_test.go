package tests

import (
	"math"
	"slices"
	"strconv"
	"strings"
	"testing"

	"loop.example/g00893/impl"
)

func TestIsValidName(t *testing.T) {
	for _, name := range []string{"a", "z", "x1", "a0", "z9", "abcdefgh", "a1234567", "whilex", "whil", "i", "iff", "flips", "choos", "f", "andor"} {
		if !impl.IsValidName(name) {
			t.Errorf("%q is not accepted", name)
		}
	}
	invalid := []string{
		"", "1", "1x", "0", "toolongname", "abcdefghi", "a12345678", "A", "aB", "x_", "_x", "x ", " x", "x\n", "x-1",
		"`", "{", "/", ":", "a`", "a{", "a/", "a:", "\x00", "a\x00", "ä", "aä", "a\xff", strings.Repeat("a", 100000),
	}
	keywords := "skip flip observe if else repeat while max call var proc fuel and or not choose"
	for _, name := range append(invalid, strings.Fields(keywords)...) {
		if impl.IsValidName(name) {
			t.Errorf("%q is accepted", name)
		}
	}
}

// chain returns the given number of constants.
func chain(count int) []impl.Expr { return slices.Repeat([]impl.Expr{constant(1)}, count) }

func TestIsValidExprs(t *testing.T) {
	all := everyKind().Exprs
	valid := []struct {
		exprs []impl.Expr
		vars  int
	}{
		{nil, 0}, {nil, 5}, {[]impl.Expr{}, 1}, {chain(40), 0}, {chain(40), 5}, {all, 3}, {all, 5},
		{[]impl.Expr{constant(0)}, 0}, {[]impl.Expr{constant(20)}, 0}, {[]impl.Expr{variable(0)}, 1},
		{[]impl.Expr{variable(4)}, 5}, {[]impl.Expr{constant(3), not(0)}, 0}, {[]impl.Expr{constant(3), binary(impl.OpSub, 0, 0)}, 0},
	}
	for i, c := range valid {
		if !impl.IsValidExprs(c.exprs, c.vars) {
			t.Errorf("valid case %d is not accepted", i)
		}
	}
	invalid := []struct {
		exprs []impl.Expr
		vars  int
	}{
		{nil, -1}, {nil, 6}, {chain(1), -1}, {chain(1), 6}, {nil, math.MinInt}, {nil, math.MaxInt}, {chain(41), 0}, {all, 2}, {all, 0},
	}
	for i, c := range invalid {
		if impl.IsValidExprs(c.exprs, c.vars) {
			t.Errorf("invalid case %d is accepted", i)
		}
	}
}

func TestInvalidExpressions(t *testing.T) {
	invalid := []impl.Expr{
		{}, {Op: -1}, {Op: 11, A: 0, B: 0}, {Op: math.MinInt}, {Op: math.MaxInt}, {Val: 1},
		constant(-1), constant(21), constant(math.MinInt), constant(math.MaxInt),
		variable(-1), variable(3), variable(math.MinInt), variable(math.MaxInt),
		{Op: impl.OpConst, A: 1}, {Op: impl.OpConst, B: 1}, {Op: impl.OpConst, A: -1}, {Op: impl.OpConst, B: math.MinInt},
		{Op: impl.OpVar, A: 1}, {Op: impl.OpVar, B: 1}, {Op: impl.OpVar, A: -1}, {Op: impl.OpVar, B: math.MaxInt},
		not(-1), not(2), not(3), not(math.MinInt), not(math.MaxInt),
		{Op: impl.OpNot, B: 1}, {Op: impl.OpNot, B: -1}, {Op: impl.OpNot, Val: 1}, {Op: impl.OpNot, Val: -1},
	}
	for op := impl.OpAdd; op <= impl.OpOr; op++ {
		for _, operand := range []int{-1, 2, 3, 40, math.MinInt, math.MaxInt} {
			invalid = append(invalid, binary(op, operand, 0), binary(op, 1, operand))
		}
		invalid = append(invalid, impl.Expr{Op: op, Val: 1}, impl.Expr{Op: op, A: 1, B: 1, Val: -1})
	}
	for _, x := range invalid {
		exprs := []impl.Expr{constant(1), variable(2), x, constant(2)}
		if impl.IsValidExprs(exprs, 3) {
			t.Errorf("%+v is accepted", x)
		}
		p := exampleG()
		p.Vars = append(p.Vars, impl.Var{Name: "c", Size: 2})
		p.Exprs = append(exprs, p.Exprs...)[:4]
		if impl.IsValidProgram(p) {
			t.Errorf("a program with %+v is accepted", x)
		}
		if p.Exprs[2] = not(1); !impl.IsValidProgram(p) {
			t.Fatal("the program is not valid without the expression")
		}
	}
}

// manySkips is a program of the given number of statements.
func manySkips(count int) impl.Program {
	return program([]int{2}, nil, 0, nil, slices.Repeat([]tree{skip()}, count)...)
}

// doubling returns expressions each of which refers twice to the one before it.
func doubling(first impl.Expr, op int, count int) []impl.Expr {
	exprs := []impl.Expr{first}
	for len(exprs) < count {
		exprs = append(exprs, binary(op, len(exprs)-1, len(exprs)-1))
	}
	return exprs
}

func validPrograms() []impl.Program {
	return []impl.Program{
		exampleG(), everyKind(), manySkips(0), manySkips(1), manySkips(24),
		program([]int{2, 3, 4, 2, 2}, nil, 3, nil), program([]int{2}, chain(40), 0, nil),
		program([]int{4}, nil, 0, [][]tree{{}, {}, {}}), program([]int{4}, nil, 3, [][]tree{{call(2)}, {call(0)}, {call(1)}}, call(0)),
		program([]int{2}, nil, 3, [][]tree{{call(0), call(0)}}, call(0)),
		program([]int{4}, nil, 0, nil, sample(0, 1, 12, 12, 1)), program([]int{2}, nil, 0, nil, sample(0, 0, 1)),
		program([]int{2}, nil, 0, nil, repeat(1), repeat(4)), program([]int{2}, chain(1), 0, nil, while(0, 0), while(0, 4)),
		program([]int{2}, chain(1), 0, nil, ifElse(0, nil, nil)), program([]int{2}, doubling(variable(0), impl.OpAdd, 40), 0, nil, observe(39)),
		changed(exampleG(), func(p *impl.Program) { p.Body = []int{2, 0, 1} }),
		changed(exampleG(), func(p *impl.Program) { p.Vars[0].Name, p.Vars[1].Name = "abcdefgh", "abcdefg" }),
		changed(everyKind(), func(p *impl.Program) {
			p.Stmts[8].Then, p.Stmts[8].Else, p.Stmts[11].Then = []int{13, 9, 12}, []int{11, 10}, []int{}
		}),
	}
}

func TestValidPrograms(t *testing.T) {
	for i, p := range validPrograms() {
		if !impl.IsValidProgram(p) {
			t.Errorf("case %d is not accepted: %+v", i, p)
		}
	}
}

// invalidPrograms returns programs that are invalid for one reason each, which is their key.
func invalidPrograms() map[string]impl.Program {
	cases := map[string]impl.Program{"zero value": {}, "no variables": program(nil, nil, 0, nil), "25 statements": manySkips(25),
		"6 variables":    program([]int{2, 2, 2, 2, 2, 2}, nil, 0, nil),
		"41 expressions": program([]int{2}, chain(41), 0, nil), "4 procedures": program([]int{2}, nil, 0, [][]tree{{}, {}, {}, {}}),
		"fuel -1": program([]int{2}, nil, -1, nil), "fuel 4": program([]int{2}, nil, 4, nil),
		"least fuel": program([]int{2}, nil, math.MinInt, nil), "greatest fuel": program([]int{2}, nil, math.MaxInt, nil),
	}
	for _, size := range []int{1, 5, 0, -1, math.MinInt, math.MaxInt} {
		cases["size "+strconv.Itoa(size)] = program([]int{2, size}, nil, 0, nil)
	}
	edit := func(reason string, change func(p *impl.Program)) {
		cases[reason] = changed(everyKind(), change)
	}
	edit("two equal variables", func(p *impl.Program) { p.Vars[2].Name = "a" })
	edit("two equal procedures", func(p *impl.Program) { p.Procs[1].Name = "f" })
	edit("a procedure named like a variable", func(p *impl.Program) { p.Procs[1].Name = "b" })
	edit("a variable without a name", func(p *impl.Program) { p.Vars[1].Name = "" })
	edit("a variable with a long name", func(p *impl.Program) { p.Vars[1].Name = "abcdefghi" })
	edit("a variable named by a keyword", func(p *impl.Program) { p.Vars[1].Name = "choose" })
	edit("a procedure without a name", func(p *impl.Program) { p.Procs[0].Name = "" })
	edit("a procedure with a long name", func(p *impl.Program) { p.Procs[0].Name = "abcdefghi" })
	edit("a procedure named by a keyword", func(p *impl.Program) { p.Procs[1].Name = "fuel" })
	edit("a statement in no block", func(p *impl.Program) { p.Body = p.Body[1:] })
	edit("a nested statement in no block", func(p *impl.Program) { p.Stmts[16].Then = nil })
	edit("a statement of a procedure in no block", func(p *impl.Program) { p.Procs[0].Body = nil })
	edit("a statement twice in the body", func(p *impl.Program) { p.Body = append(p.Body, 4) })
	edit("a statement in the body and in a procedure", func(p *impl.Program) { p.Procs[0].Body = append(p.Procs[0].Body, 4) })
	edit("a statement in two procedures", func(p *impl.Program) { p.Procs[1].Body = append(p.Procs[1].Body, 0) })
	edit("a statement in the body and nested", func(p *impl.Program) { p.Body = append(p.Body, 17) })
	edit("a statement in Then and in Else", func(p *impl.Program) { p.Stmts[8].Else = append(p.Stmts[8].Else, 9) })
	edit("a statement twice in Then", func(p *impl.Program) { p.Stmts[8].Then = append(p.Stmts[8].Then, 9) })
	edit("a statement in two nested blocks", func(p *impl.Program) { p.Stmts[11].Then = append(p.Stmts[11].Then, 17) })
	edit("a statement in its own Then", func(p *impl.Program) { p.Body, p.Stmts[14].Then = p.Body[:5], append(p.Stmts[14].Then, 14) })
	edit("a statement in its own Else", func(p *impl.Program) { p.Body, p.Stmts[8].Else = append(p.Body[:4], 14), append(p.Stmts[8].Else, 8) })
	edit("an earlier statement in Then", func(p *impl.Program) { p.Body, p.Stmts[14].Then = p.Body[1:], append(p.Stmts[14].Then, 4) })
	edit("an earlier statement in Else", func(p *impl.Program) { p.Body, p.Stmts[8].Else = p.Body[1:], append(p.Stmts[8].Else, 4) })
	edit("statements in each other", func(p *impl.Program) {
		p.Body = p.Body[:5]
		p.Stmts[14].Then, p.Stmts[16].Then = []int{15, 16}, []int{17, 14}
	})
	for _, i := range []int{-1, 18, 24, math.MinInt, math.MaxInt} {
		index := strconv.Itoa(i)
		edit("statement in the body: "+index, func(p *impl.Program) { p.Body = append(p.Body, i) })
		edit("statement in a procedure: "+index, func(p *impl.Program) { p.Procs[1].Body = append(p.Procs[1].Body, i) })
		edit("statement in Then: "+index, func(p *impl.Program) { p.Stmts[16].Then = append(p.Stmts[16].Then, i) })
		edit("statement in Else: "+index, func(p *impl.Program) { p.Stmts[8].Else = append(p.Stmts[8].Else, i) })
	}
	return cases
}

func TestInvalidPrograms(t *testing.T) {
	for reason, p := range invalidPrograms() {
		if impl.IsValidProgram(p) {
			t.Errorf("%s: accepted", reason)
		}
		expectProgramFailures(t, reason, p)
	}
}

// expectProgramFailures checks that all functions of an invalid program return zero values.
func expectProgramFailures(t *testing.T, what string, p impl.Program) {
	t.Helper()
	if v, ok := impl.EvalExpr(p, 0, make([]int, len(p.Vars))); v != 0 || ok {
		t.Errorf("%s: evaluated to %d", what, v)
	}
	if l, ok := impl.VarsOfExpr(p, 0); l != nil || ok {
		t.Errorf("%s: variables %v", what, l)
	}
	if l, ok := impl.AssignedVars(p, nil); l != nil || ok {
		t.Errorf("%s: assigned %v", what, l)
	}
	if n, ok := impl.CountPaths(p); n != 0 || ok {
		t.Errorf("%s: %d paths", what, n)
	}
	if s, ok := impl.IsStraightLine(p); s || ok {
		t.Errorf("%s: straight-line %v %v", what, s, ok)
	}
}

// expectStmt checks whether a statement is accepted, in a program with 3 variables of the sizes 2, 3 and 4, 2 expressions
// and 2 procedures that has two skip statements after it, which it may contain.
func expectStmt(t *testing.T, s impl.Stmt, want bool) {
	t.Helper()
	p := program([]int{2, 3, 4}, chain(2), 0, [][]tree{{}, {}}, skip(), skip(), skip())
	p.Stmts[0] = s
	p.Body = slices.DeleteFunc(p.Body, func(i int) bool { return slices.Contains(s.Then, i) || slices.Contains(s.Else, i) })
	if impl.IsValidProgram(p) != want {
		t.Errorf("%+v: accepted is not %v", s, want)
	}
}

func TestFieldsOfStatements(t *testing.T) {
	least := []impl.Stmt{
		{Kind: impl.StSkip}, {Kind: impl.StAssign}, {Kind: impl.StSample, Choices: []impl.Choice{{Weight: 1}}}, {Kind: impl.StObserve},
		{Kind: impl.StIf}, {Kind: impl.StRepeat, Times: 1}, {Kind: impl.StWhile}, {Kind: impl.StCall},
	}
	values := []int{math.MinInt, -1, 0, 1, 2, 3, 4, 5, 40, math.MaxInt}
	for _, s := range least {
		used := func(kinds ...int) bool { return slices.Contains(kinds, s.Kind) }
		for _, v := range values {
			within := func(low, high int, kinds ...int) bool {
				return v == 0 && !used(kinds...) || used(kinds...) && v >= low && v <= high
			}
			x := s
			x.Var = v
			expectStmt(t, x, within(0, 2, impl.StAssign, impl.StSample))
			x = s
			x.Expr = v
			expectStmt(t, x, within(0, 1, impl.StAssign, impl.StObserve, impl.StIf, impl.StWhile))
			x = s
			x.Times = v
			expectStmt(t, x, within(0, 4, impl.StWhile) && !used(impl.StRepeat) || within(1, 4, impl.StRepeat) && used(impl.StRepeat))
			x = s
			x.Proc = v
			expectStmt(t, x, within(0, 1, impl.StCall))
		}
		x := s
		x.Then = []int{2, 1}
		expectStmt(t, x, used(impl.StIf, impl.StRepeat, impl.StWhile))
		x.Then, x.Else = nil, []int{1}
		expectStmt(t, x, used(impl.StIf))
		x.Then = []int{2}
		expectStmt(t, x, used(impl.StIf))
		x = s
		x.Choices = []impl.Choice{{Weight: 1}, {Value: 1, Weight: 1}}
		expectStmt(t, x, used(impl.StSample))
	}
	for _, kind := range []int{math.MinInt, -1, 0, 9, 10, math.MaxInt} {
		expectStmt(t, impl.Stmt{Kind: kind}, false)
		expectStmt(t, impl.Stmt{Kind: kind, Times: 1}, false)
	}
}

// choices returns the choices with the given values and weights, which alternate.
func choices(pairs ...int) []impl.Choice {
	var list []impl.Choice
	for pair := range slices.Chunk(pairs, 2) {
		list = append(list, impl.Choice{Value: pair[0], Weight: pair[1]})
	}
	return list
}

func TestChoices(t *testing.T) {
	cases := []struct {
		variable int
		list     []impl.Choice
		want     bool
	}{
		{0, nil, false}, {0, []impl.Choice{}, false}, {2, choices(0, 1, 1, 1, 2, 12, 3, 12), true},
		{2, choices(0, 1, 1, 1, 2, 12, 3, 12, 4, 1), false}, {2, choices(0, 1, 1, 1, 2, 12, 3, 12, 3, 1), false},
		{0, choices(1, 1), true}, {0, choices(2, 1), false}, {1, choices(2, 1), true}, {1, choices(3, 1), false},
		{2, choices(3, 1), true}, {2, choices(4, 1), false}, {0, choices(-1, 1), false}, {0, choices(-1, 1, 0, 1), false},
		{2, choices(1, 1, 3, 1), true}, {2, choices(1, 1, 0, 1), false}, {2, choices(1, 1, 1, 1), false},
		{2, choices(0, 1, 3, 1, 2, 1), false}, {2, choices(0, 1, 0, 1, 2, 1), false},
		{0, choices(0, 0), false}, {0, choices(0, 1), true}, {0, choices(0, 12), true}, {0, choices(0, 13), false},
		{0, choices(0, -1), false}, {0, choices(0, 1, 1, 0), false}, {0, choices(0, 1, 1, 13), false},
		{0, choices(math.MinInt, 1), false}, {0, choices(math.MaxInt, 1), false}, {0, choices(0, math.MinInt), false},
		{0, choices(0, math.MaxInt), false}, {0, choices(math.MinInt, 1, 0, 1), false}, {2, choices(make([]int, 2000)...), false},
	}
	for _, c := range cases {
		expectStmt(t, impl.Stmt{Kind: impl.StSample, Var: c.variable, Choices: c.list}, c.want)
	}
}
