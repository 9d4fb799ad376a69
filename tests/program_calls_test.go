package tests

import (
	"math"
	"slices"
	"testing"

	"loop.example/g00893/impl"
)

// expectList checks a list; wanted nil means that the call must fail.
func expectList(t *testing.T, what string, got []int, ok bool, wanted []int) {
	t.Helper()
	if ok != (wanted != nil) || !slices.Equal(got, wanted) || !ok && got != nil {
		t.Errorf("%s: %v %v instead of %v", what, got, ok, wanted)
	}
}

// expectInt checks a number; a wanted number below 0 means that the call must fail.
func expectInt(t *testing.T, what string, got int, ok bool, wanted int) {
	t.Helper()
	if ok != (wanted >= 0) || got != max(wanted, 0) {
		t.Errorf("%s: %d %v instead of %d", what, got, ok, wanted)
	}
}

func truthOf(holds bool) int {
	if holds {
		return 1
	}
	return 0
}

func TestOperators(t *testing.T) {
	for a := range impl.MaxConst + 1 {
		for b := range impl.MaxConst + 1 {
			sum, difference, product := a+b, a-b, a*b
			if sum > 20 {
				sum = 20
			}
			if difference < 0 {
				difference = 0
			}
			if product > 20 {
				product = 20
			}
			exprs := []impl.Expr{constant(b), constant(a), {}}
			wanted := []int{impl.OpAdd: sum, impl.OpSub: difference, impl.OpMul: product, impl.OpEq: truthOf(a == b),
				impl.OpLess: truthOf(a < b), impl.OpAnd: truthOf(a*b > 0), impl.OpOr: truthOf(a+b > 0)}
			for op := impl.OpAdd; op <= impl.OpOr; op++ {
				exprs[2] = binary(op, 1, 0)
				got, ok := impl.EvalExpr(program([]int{2}, exprs, 0, nil), 2, []int{0})
				expectInt(t, "operator", got, ok, wanted[op])
			}
			exprs[2] = not(1)
			got, ok := impl.EvalExpr(program([]int{2}, exprs, 0, nil), 2, []int{1})
			expectInt(t, "not", got, ok, truthOf(a == 0))
		}
	}
}

func TestEvalExpr(t *testing.T) {
	g, all := exampleG(), everyKind()
	towers := map[int]impl.Program{}
	for op := impl.OpAdd; op <= impl.OpOr; op++ {
		towers[op] = program([]int{4}, doubling(variable(0), op, 40), 0, nil, observe(39))
	}
	cases := []struct {
		p      impl.Program
		e      int
		values []int
		wanted int
	}{
		{g, 2, []int{0, 1}, 1}, {g, 2, []int{0, 0}, 0}, {g, 2, []int{1, 0}, 1}, {g, 0, []int{1, 0}, 1}, {g, 1, []int{1, 0}, 0},
		{g, 3, []int{0, 1}, -1}, {g, -1, []int{0, 1}, -1}, {g, math.MinInt, []int{0, 1}, -1}, {g, math.MaxInt, []int{0, 1}, -1},
		{g, 2, nil, -1}, {g, 2, []int{1}, -1}, {g, 2, []int{0, 1, 0}, -1}, {g, 2, make([]int, 1000), -1},
		{g, 2, []int{0, 2}, -1}, {g, 2, []int{2, 0}, -1}, {g, 2, []int{-1, 0}, -1}, {g, 0, []int{0, 2}, -1}, {g, 0, []int{0, -1}, -1},
		{g, 2, []int{math.MinInt, 0}, -1}, {g, 2, []int{0, math.MaxInt}, -1},
		{all, 1, []int{1, 2, 3}, 20}, {all, 2, []int{1, 2, 3}, 20}, {all, 3, []int{1, 2, 3}, 19}, {all, 4, []int{1, 2, 3}, 20},
		{all, 5, []int{1, 2, 3}, 1}, {all, 6, []int{1, 2, 3}, 0}, {all, 6, []int{0, 2, 3}, 1}, {all, 7, []int{0, 2, 3}, 0},
		{all, 8, []int{0, 2, 3}, 1}, {all, 9, []int{0, 2, 3}, 0}, {all, 10, []int{0, 2, 3}, 3},
		{all, 10, []int{1, 3, 3}, -1}, {all, 10, []int{1, 2, 4}, -1}, {all, 10, []int{2, 2, 3}, -1}, {all, 11, []int{1, 2, 3}, -1},
		{towers[impl.OpAdd], 39, []int{0}, 0}, {towers[impl.OpAdd], 39, []int{1}, 20}, {towers[impl.OpAdd], 4, []int{1}, 16},
		{towers[impl.OpAdd], 40, []int{1}, -1}, {towers[impl.OpMul], 39, []int{1}, 1}, {towers[impl.OpMul], 39, []int{2}, 20},
		{towers[impl.OpMul], 2, []int{2}, 16}, {towers[impl.OpSub], 39, []int{3}, 0}, {towers[impl.OpEq], 39, []int{3}, 1},
		{towers[impl.OpLess], 39, []int{3}, 0}, {towers[impl.OpAnd], 39, []int{3}, 1}, {towers[impl.OpOr], 39, []int{0}, 0},
		{program([]int{2}, nil, 0, nil), 0, []int{0}, -1}, {impl.Program{}, 0, nil, -1},
	}
	for _, c := range cases {
		got, ok := impl.EvalExpr(c.p, c.e, c.values)
		expectInt(t, "value", got, ok, c.wanted)
	}
}

func TestVarsOfExpr(t *testing.T) {
	g, all := exampleG(), everyKind()
	tower := program([]int{2, 2}, doubling(variable(1), impl.OpOr, 40), 0, nil)
	mixed := program([]int{2, 2, 2, 2, 2}, []impl.Expr{
		variable(4), constant(1), not(0), variable(2), binary(impl.OpLess, 3, 2), variable(0), not(4), binary(impl.OpMul, 6, 6),
		binary(impl.OpEq, 1, 3), not(1), binary(impl.OpAdd, 7, 5), binary(impl.OpSub, 5, 8),
	}, 0, nil)
	cases := []struct {
		p      impl.Program
		e      int
		wanted []int
	}{
		{g, 2, []int{0, 1}}, {g, 0, []int{0}}, {g, 1, []int{1}}, {g, 3, nil}, {g, -1, nil}, {g, math.MinInt, nil}, {g, math.MaxInt, nil},
		{all, 1, []int{}}, {all, 9, []int{0}}, {all, 10, []int{2}}, {all, 11, nil}, {tower, 39, []int{1}}, {tower, 40, nil},
		{mixed, 0, []int{4}}, {mixed, 1, []int{}}, {mixed, 2, []int{4}}, {mixed, 4, []int{2, 4}}, {mixed, 7, []int{2, 4}},
		{mixed, 8, []int{2}}, {mixed, 9, []int{}}, {mixed, 10, []int{0, 2, 4}}, {mixed, 11, []int{0, 2}},
		{program([]int{2}, nil, 0, nil), 0, nil}, {impl.Program{}, 0, nil},
	}
	for _, c := range cases {
		got, ok := impl.VarsOfExpr(c.p, c.e)
		expectList(t, "variables", got, ok, c.wanted)
	}
}

func TestAssignedVars(t *testing.T) {
	g, all := exampleG(), everyKind()
	late := program([]int{2, 2, 2, 2, 2}, chain(1), 0, [][]tree{{call(1)}, {call(2), sample(3, 1)}, {call(1), while(0, 0, assign(1, 0))}},
		call(0), ifElse(0, []tree{assign(4, 0)}, []tree{repeat(1, ifElse(0, nil, []tree{sample(2, 1)}))}), observe(0), skip(), call(2))
	cases := []struct {
		p      impl.Program
		block  []int
		wanted []int
	}{
		{g, []int{0, 1, 2}, []int{0, 1}}, {g, nil, []int{}}, {g, []int{}, []int{}}, {g, []int{0}, []int{0}}, {g, []int{1}, []int{1}},
		{g, []int{2}, []int{}}, {g, []int{1, 2}, []int{1}}, {g, []int{0, 2}, []int{0}},
		{g, []int{0, 0}, nil}, {g, []int{1, 0}, nil}, {g, []int{0, 2, 1}, nil}, {g, []int{0, 1, 1}, nil}, {g, []int{3}, nil},
		{g, []int{-1}, nil}, {g, []int{-1, 0}, nil}, {g, []int{2, 3}, nil}, {g, []int{math.MinInt}, nil}, {g, []int{math.MaxInt}, nil},
		{g, []int{math.MinInt, 0}, nil}, {g, []int{0, math.MaxInt}, nil}, {g, make([]int, 100000), nil},
		{all, []int{4, 7, 9, 17}, []int{}}, {all, []int{5}, []int{0}}, {all, []int{8}, []int{0, 1, 2}}, {all, []int{14}, []int{0}},
		{all, []int{0, 1}, []int{1, 2}}, {all, []int{2}, []int{2}}, {all, []int{10}, []int{1, 2}}, {all, []int{15, 16}, []int{0}},
		{all, []int{8, 9, 10, 11}, []int{0, 1, 2}}, {all, []int{18}, nil},
		{late, []int{0}, []int{1, 3}}, {late, []int{1}, []int{1, 3}}, {late, []int{2}, []int{3}}, {late, []int{3}, []int{1, 3}},
		{late, []int{6}, []int{1, 3}}, {late, []int{7}, []int{2, 4}}, {late, []int{12, 13}, []int{}}, {late, []int{7, 14}, []int{1, 2, 3, 4}},
		{impl.Program{}, nil, nil}, {manySkips(0), nil, []int{}}, {manySkips(0), []int{0}, nil},
	}
	for i, c := range cases {
		got, ok := impl.AssignedVars(c.p, c.block)
		if expectList(t, "assigned", got, ok, c.wanted); t.Failed() {
			t.Fatalf("case %d", i)
		}
	}
}

// four and two have as many paths as their names say.
func four() tree { return sample(0, 1, 1, 1, 1) }

func two() tree { return sample(0, 1, 1) }

// plain is a program with one variable of size 4 and one expression.
func plain(body ...tree) impl.Program { return program([]int{4}, chain(1), 0, nil, body...) }

// million returns a block of exactly 1000000 paths.
func million() []tree {
	block := []tree{four(), four(), four()}
	for range 6 {
		block = append(block, ifElse(0, []tree{four()}, nil))
	}
	return block
}

func TestCountPaths(t *testing.T) {
	recursive := func(fuel int) impl.Program {
		return program([]int{4}, chain(1), fuel, [][]tree{{two(), call(1), call(1)}, {ifElse(0, []tree{call(0)}, []tree{skip()})}}, call(0))
	}
	deep := plain(repeat(4, repeat(4, repeat(4, repeat(4, repeat(4, two()))))))
	large := []tree{deepLoop()}
	cases := []struct {
		p      impl.Program
		wanted int
	}{
		{exampleG(), 4}, {plain(), 1}, {manySkips(24), 1}, {plain(skip(), assign(0, 0), observe(0)), 1}, {plain(four()), 4}, {plain(sample(0, 0, 1)), 1},
		{plain(four(), two()), 8}, {plain(ifElse(0, nil, nil)), 2}, {plain(ifElse(0, []tree{four()}, []tree{two(), two()})), 8},
		{plain(repeat(1, four())), 4}, {plain(repeat(4, two())), 16}, {plain(repeat(4)), 1}, {plain(repeat(3, ifElse(0, []tree{two()}, nil))), 27},
		{plain(while(0, 0, four())), 1}, {plain(while(0, 1, four())), 5}, {plain(while(0, 2, four())), 21}, {plain(while(0, 4, four())), 341},
		{plain(while(0, 4)), 5}, {plain(while(0, 0)), 1}, {plain(while(0, 2, while(0, 2, two()))), 57},
		{recursive(0), 1}, {recursive(1), 2}, {recursive(2), 8}, {recursive(3), 18},
		{program([]int{4}, nil, 0, [][]tree{{four()}}, call(0)), 1}, {program([]int{4}, nil, 1, [][]tree{{four()}}, call(0), call(0)), 16},
		{program([]int{4}, nil, 3, [][]tree{{four(), call(0)}}, call(0)), 64}, {program([]int{4}, nil, 3, [][]tree{{two(), call(0), call(0)}}, call(0)), 128},
		{plain(million()...), 1000000}, {plain(ifElse(0, million(), nil)), -1}, {plain(append(million(), two())...), -1},
		{plain(ifElse(0, million()[:7], million()[3:])), 55625}, {deep, -1}, {plain(slices.Repeat([]tree{four()}, 24)...), -1},
		{plain(large...), -1}, {plain(while(0, 4, large...)), -1}, {plain(while(0, 1, large...)), -1}, {plain(while(0, 0, large...)), 1},
		{plain(ifElse(0, large, nil)), -1}, {plain(ifElse(0, nil, large)), -1},
		{program([]int{4}, chain(1), 3, [][]tree{large}, two()), 2}, {program([]int{4}, chain(1), 0, [][]tree{large}, two(), call(0)), 2},
		{program([]int{4}, chain(1), 1, [][]tree{large}, two(), call(0)), -1}, {program([]int{4}, chain(1), 1, [][]tree{{call(1)}, large}, call(0)), 1},
		{impl.Program{}, -1},
	}
	for i, c := range cases {
		got, ok := impl.CountPaths(c.p)
		if expectInt(t, "paths", got, ok, c.wanted); t.Failed() {
			t.Fatalf("case %d", i)
		}
	}
}

// deepLoop has so many paths that their number is 0 in 64 bits.
func deepLoop() tree { return repeat(4, repeat(4, repeat(4, repeat(4, four(), four())))) }

func TestIsStraightLine(t *testing.T) {
	cases := []struct {
		p        impl.Program
		straight bool
		ok       bool
	}{
		{exampleG(), true, true}, {plain(), true, true}, {plain(skip(), assign(0, 0), ifElse(0, []tree{four()}, []tree{observe(0)})), true, true},
		{plain(repeat(1)), false, true}, {plain(while(0, 0)), false, true}, {program([]int{2}, nil, 1, [][]tree{{}}, call(0)), false, true},
		{plain(ifElse(0, nil, []tree{repeat(1)})), false, true}, {plain(skip(), ifElse(0, []tree{while(0, 1)}, nil)), false, true},
		{program([]int{2}, nil, 1, [][]tree{{skip()}}, skip()), true, true}, {program([]int{2}, nil, 1, [][]tree{{call(0)}}), false, true},
		{program([]int{2}, nil, 1, [][]tree{{}, {repeat(2)}}), false, true}, {everyKind(), false, true}, {impl.Program{}, false, false},
	}
	for i, c := range cases {
		if straight, ok := impl.IsStraightLine(c.p); straight != c.straight || ok != c.ok {
			t.Errorf("case %d: %v %v", i, straight, ok)
		}
	}
}

func TestEqualPrograms(t *testing.T) {
	edits := map[string]func(p *impl.Program){
		"fuel": func(p *impl.Program) { p.Fuel++ }, "no variable": func(p *impl.Program) { p.Vars = p.Vars[:2] },
		"variable name": func(p *impl.Program) { p.Vars[1].Name = "x" }, "variable size": func(p *impl.Program) { p.Vars[1].Size = 2 },
		"another variable": func(p *impl.Program) { p.Vars = append(p.Vars, impl.Var{}) }, "no variables": func(p *impl.Program) { p.Vars = nil },
		"expression A": func(p *impl.Program) { p.Exprs[3].A = 1 }, "expression B": func(p *impl.Program) { p.Exprs[3].B = 1 },
		"expression Op": func(p *impl.Program) { p.Exprs[3].Op = impl.OpMul }, "expression Val": func(p *impl.Program) { p.Exprs[3].Val = 1 },
		"no expression": func(p *impl.Program) { p.Exprs = p.Exprs[:3] }, "another expression": func(p *impl.Program) { p.Exprs = append(p.Exprs, impl.Expr{}) },
		"kind": func(p *impl.Program) { p.Stmts[8].Kind = impl.StSkip }, "variable": func(p *impl.Program) { p.Stmts[5].Var = 1 },
		"expression": func(p *impl.Program) { p.Stmts[5].Expr = 1 }, "times": func(p *impl.Program) { p.Stmts[5].Times = 1 },
		"procedure": func(p *impl.Program) { p.Stmts[1].Proc = 0 }, "value": func(p *impl.Program) { p.Stmts[6].Choices[1].Value = 5 },
		"weight": func(p *impl.Program) { p.Stmts[6].Choices[2].Weight = 6 }, "no choice": func(p *impl.Program) { p.Stmts[6].Choices = nil },
		"another choice": func(p *impl.Program) { p.Stmts[6].Choices = append(p.Stmts[6].Choices, impl.Choice{}) },
		"then":           func(p *impl.Program) { p.Stmts[8].Then[1] = 9 }, "no then": func(p *impl.Program) { p.Stmts[8].Then = nil },
		"else": func(p *impl.Program) { p.Stmts[8].Else[0] = 9 }, "longer else": func(p *impl.Program) { p.Stmts[0].Else = []int{0} },
		"then and else": func(p *impl.Program) { p.Stmts[8].Then, p.Stmts[8].Else = p.Stmts[8].Else, p.Stmts[8].Then },
		"no statement":  func(p *impl.Program) { p.Stmts = p.Stmts[:17] }, "another statement": func(p *impl.Program) { p.Stmts = append(p.Stmts, impl.Stmt{}) },
		"procedure name": func(p *impl.Program) { p.Procs[1].Name = "h" }, "procedure body": func(p *impl.Program) { p.Procs[1].Body[0] = 0 },
		"shorter procedure body": func(p *impl.Program) { p.Procs[1].Body = p.Procs[1].Body[:1] }, "no procedure": func(p *impl.Program) { p.Procs = p.Procs[:1] },
		"another procedure": func(p *impl.Program) { p.Procs = append(p.Procs, impl.Proc{}) },
		"body":              func(p *impl.Program) { p.Body[0] = 5 }, "shorter body": func(p *impl.Program) { p.Body = p.Body[:3] },
		"other order": func(p *impl.Program) { slices.Reverse(p.Body) },
	}
	for what, edit := range edits {
		p, q := everyKind(), changed(everyKind(), edit)
		if impl.EqualPrograms(p, q) || impl.EqualPrograms(q, p) {
			t.Errorf("%s: equal", what)
		}
		if !impl.EqualPrograms(q, changed(everyKind(), edit)) {
			t.Errorf("%s: not equal to itself", what)
		}
	}
	for reason, p := range invalidPrograms() {
		if !impl.EqualPrograms(p, clonedProgram(p)) {
			t.Errorf("%s: not equal to itself", reason)
		}
	}
}

func TestEmptySlicesAreEqual(t *testing.T) {
	bare := impl.Program{Vars: []impl.Var{{Name: "a", Size: 2}}, Stmts: []impl.Stmt{{Kind: impl.StSkip}}, Procs: []impl.Proc{{Name: "f"}}, Body: []int{0}}
	full := clonedProgram(bare)
	full.Exprs, full.Procs[0].Body = []impl.Expr{}, []int{}
	full.Stmts[0] = impl.Stmt{Kind: impl.StSkip, Choices: []impl.Choice{}, Then: []int{}, Else: []int{}}
	if !impl.EqualPrograms(bare, full) || !impl.EqualPrograms(full, bare) || !impl.IsValidProgram(bare) || !impl.IsValidProgram(full) {
		t.Error("empty slices in a valid program")
	}
	empty := impl.Program{Vars: []impl.Var{}, Exprs: []impl.Expr{}, Stmts: []impl.Stmt{}, Procs: []impl.Proc{}, Body: []int{}}
	if !impl.EqualPrograms(impl.Program{}, empty) || impl.IsValidProgram(empty) {
		t.Error("programs without anything")
	}
}
