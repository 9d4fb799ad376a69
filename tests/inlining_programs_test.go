package tests

import (
	"slices"
	"testing"

	"loop.example/g00893/impl"
)

type rewriting func(p impl.Program) (impl.Program, bool)

func rewritings() map[string]rewriting {
	return map[string]rewriting{"InlineCalls": impl.InlineCalls, "UnrollLoops": impl.UnrollLoops, "Unrolled": impl.Unrolled, "Renumbered": impl.Renumbered}
}

// expectRewritten checks what becomes of a program; the zero value means that the call must fail.
func expectRewritten(t *testing.T, what string, rewrite rewriting, p, wanted impl.Program) {
	t.Helper()
	q, ok := rewrite(p)
	if ok != (len(wanted.Vars) > 0) || !impl.EqualPrograms(q, wanted) {
		t.Errorf("%s: %+v %v instead of %+v", what, q, ok, wanted)
	}
	if ok && !impl.IsValidProgram(q) {
		t.Errorf("%s: not valid: %+v", what, q)
	}
}

// noFuel replaces a call without fuel in an inlined program.
func noFuel() tree { return while(appended, 0) }

// inlined is what becomes of a program of calling that has this body when its calls are inlined.
func inlined(body ...tree) impl.Program {
	p := calling(0, nil, body...)
	if slices.ContainsFunc(p.Stmts, func(s impl.Stmt) bool { return s.Kind == impl.StWhile && s.Expr == appended }) {
		p.Exprs = append(p.Exprs, constant(1))
	}
	return p
}

// block is a list of statements, or nil if there are none.
func block(trees ...tree) []tree { return trees }

// times returns copies of a block one after the other.
func times(count int, trees ...tree) []tree { return slices.Repeat(trees, count) }

func TestInlineCalls(t *testing.T) {
	example := program([]int{2}, []impl.Expr{constant(1)}, 0, nil, sample(0, 1, 1), while(0, 0))
	expectRewritten(t, "example", impl.InlineCalls, exampleOfInlining(), example)
	expectRewritten(t, "G", impl.InlineCalls, exampleG(), exampleG())
	expectRewritten(t, "no statements", impl.InlineCalls, manySkips(0), manySkips(0))
	expectRewritten(t, "24 statements", impl.InlineCalls, manySkips(24), manySkips(24))
	nested := block(ifElse(exprA, block(sample(1, 1, 2), skip()), block(repeat(2, while(exprB, 3, assign(0, exprA))))), observe(exprB))
	a, f := assign(0, exprB), [][]tree{block(assign(0, exprB))}
	for _, c := range []struct {
		what         string
		fuel         int
		procs        [][]tree
		body, wanted []tree
	}{
		{"no procedures, with fuel", 3, nil, nested, nested},
		{"a procedure that is never called", 3, f, block(skip()), block(skip())},
		{"a recursive one that is never called", 0, [][]tree{block(skip(), call(0))}, block(skip()), block(skip())},
		{"a call", 1, f, block(call(0)), block(a)},
		{"a call between others", 2, f, block(skip(), call(0), observe(exprA)), block(skip(), a, observe(exprA))},
		{"two calls", 1, f, block(call(0), call(0)), block(a, a)},
		{"without fuel", 0, f, block(call(0)), block(noFuel())},
		{"several without fuel", 0, f, block(call(0), skip(), call(0), call(0)), block(noFuel(), skip(), noFuel(), noFuel())},
		{"an empty procedure", 1, [][]tree{{}}, block(skip(), call(0), call(0)), block(skip())},
		{"nothing but empty procedures", 2, [][]tree{{}, block(call(0))}, block(call(1), call(0)), nil},
		{"an empty procedure without fuel", 0, [][]tree{{}}, block(call(0)), block(noFuel())},
		{"nested statements, twice", 1, [][]tree{nested}, block(call(0), call(0)), times(2, nested...)},
		{"then", 1, f, block(ifElse(exprA, block(call(0)), nil)), block(ifElse(exprA, block(a), nil))},
		{"else", 1, f, block(ifElse(exprA, nil, block(skip(), call(0)))), block(ifElse(exprA, nil, block(skip(), a)))},
		{"both", 0, f, block(ifElse(exprA, block(call(0)), block(call(0)))), block(ifElse(exprA, block(noFuel()), block(noFuel())))},
		{"repeat", 1, f, block(repeat(4, call(0), skip())), block(repeat(4, a, skip()))},
		{"while", 1, f, block(while(exprA, 2, call(0))), block(while(exprA, 2, a))},
		{"while 0", 1, f, block(while(exprA, 0, call(0))), block(while(exprA, 0, a))},
		{"while 0 without fuel", 0, f, block(while(exprA, 0, call(0))), block(while(exprA, 0, noFuel()))},
		{"blocks that become empty", 1, [][]tree{{}}, block(repeat(2, call(0)), while(exprA, 0, call(0)), ifElse(exprB, block(call(0)), block(call(0)))),
			block(repeat(2), while(exprA, 0), ifElse(exprB, nil, nil))},
		{"exhausting already", 0, f, block(while(exprOne, 0), call(0)), block(while(exprOne, 0), noFuel())},
	} {
		expectRewritten(t, c.what, impl.InlineCalls, calling(c.fuel, c.procs, c.body...), inlined(c.wanted...))
	}
}

func TestFuelOfInlinedCalls(t *testing.T) {
	a, b := assign(0, exprA), observe(exprB)
	itself := [][]tree{block(a, call(0), b)}
	another := [][]tree{block(a, call(1)), block(b, ifElse(exprB, block(call(0)), nil))}
	twice := [][]tree{block(call(1), call(1)), block(b)}
	late := [][]tree{block(skip(), call(1)), block(call(2)), block(call(1))}
	for what, c := range map[string]struct {
		procs  [][]tree
		wanted [4][]tree
	}{
		"itself": {itself, [4][]tree{block(noFuel()), block(a, noFuel(), b), block(a, a, noFuel(), b, b), block(a, a, a, noFuel(), b, b, b)}},
		"another": {another, [4][]tree{block(noFuel()), block(a, noFuel()), block(a, b, ifElse(exprB, block(noFuel()), nil)),
			block(a, b, ifElse(exprB, block(a, noFuel()), nil))}},
		"twice": {twice, [4][]tree{block(noFuel()), block(noFuel(), noFuel()), block(b, b), block(b, b)}},
		"late":  {late, [4][]tree{block(noFuel()), block(skip(), noFuel()), block(skip(), noFuel()), block(skip(), noFuel())}},
	} {
		for fuel, wanted := range c.wanted {
			expectRewritten(t, what, impl.InlineCalls, calling(fuel, c.procs, call(0)), inlined(wanted...))
		}
	}
	// The fuel of a call is there again after it.
	procs := [][]tree{block(a), block(b, call(0))}
	expectRewritten(t, "fuel 2", impl.InlineCalls, calling(2, procs, call(1), call(0), call(1)), inlined(b, a, a, b, a))
	expectRewritten(t, "fuel 1", impl.InlineCalls, calling(1, procs, call(0), call(1), call(0)), inlined(a, b, noFuel(), a))
}

func TestExpressionsOfInlinedCalls(t *testing.T) {
	without := func(count, fuel int) impl.Program {
		return program([]int{2}, chain(count), fuel, [][]tree{{skip()}}, call(0))
	}
	for _, count := range []int{0, 1, 2, 39} {
		expectRewritten(t, "with fuel", impl.InlineCalls, without(count, 1), program([]int{2}, chain(count), 0, nil, skip()))
		expectRewritten(t, "without fuel", impl.InlineCalls, without(count, 0), program([]int{2}, chain(count+1), 0, nil, while(count, 0)))
	}
	expectRewritten(t, "40 with fuel", impl.InlineCalls, without(40, 1), program([]int{2}, chain(40), 0, nil, skip()))
	expectRewritten(t, "40 without fuel", impl.InlineCalls, without(40, 0), impl.Program{})
	expectRewritten(t, "40 without fuel", impl.Unrolled, without(40, 0), impl.Program{})
	never := program([]int{2}, chain(40), 0, [][]tree{{call(0)}}, observe(39))
	expectRewritten(t, "40 and a call that is never made", impl.InlineCalls, never, program([]int{2}, chain(40), 0, nil, observe(39)))
	idle := program([]int{2}, chain(40), 0, [][]tree{{}}, while(39, 0, call(0)))
	expectRewritten(t, "40 and a call without fuel in while 0", impl.InlineCalls, idle, impl.Program{})
	used := program([]int{2}, []impl.Expr{variable(0), not(0)}, 1, [][]tree{{observe(1), call(0)}}, call(0), while(1, 2, call(0)))
	wanted := program([]int{2}, []impl.Expr{variable(0), not(0), constant(1)}, 0, nil, observe(1), while(2, 0), while(1, 2, observe(1), while(2, 0)))
	expectRewritten(t, "other expressions", impl.InlineCalls, used, wanted)
}

func TestSizeOfInlinedPrograms(t *testing.T) {
	sized := func(fuel, count, calls int, rest ...tree) impl.Program {
		return calling(fuel, [][]tree{times(count, skip())}, append(times(calls, call(0)), rest...)...)
	}
	for _, c := range []struct {
		fuel, count, calls int
		rest               []tree
		ok                 bool
	}{
		{1, 12, 2, nil, true}, {1, 12, 2, block(skip()), false}, {1, 13, 2, nil, false}, {1, 8, 3, nil, true}, {1, 5, 5, nil, false}, {1, 6, 4, nil, true},
		{1, 23, 1, nil, true}, {3, 22, 1, block(skip()), true}, {1, 4, 5, times(4, skip()), true}, {1, 4, 5, times(5, skip()), false},
		{1, 3, 6, block(repeat(2, skip(), ifElse(exprA, block(skip()), block(skip())), skip())), true},
		{1, 3, 6, block(repeat(2, skip(), ifElse(exprA, block(skip()), block(skip(), skip())), skip())), false},
		{1, 0, 24, nil, true}, {1, 1, 23, nil, true}, {0, 0, 24, nil, true}, {0, 3, 21, nil, true},
	} {
		var wanted impl.Program
		if c.ok && c.fuel > 0 {
			wanted = inlined(append(times(c.calls*c.count, skip()), c.rest...)...)
		} else if c.ok {
			wanted = inlined(append(times(c.calls, noFuel()), c.rest...)...)
		}
		expectRewritten(t, "several calls", impl.InlineCalls, sized(c.fuel, c.count, c.calls, c.rest...), wanted)
	}
	growing := func(fuel, each int) impl.Program { return calling(fuel, [][]tree{times(each, call(0))}, call(0)) }
	expectRewritten(t, "4", impl.InlineCalls, growing(2, 2), inlined(times(4, noFuel())...))
	expectRewritten(t, "16", impl.InlineCalls, growing(2, 4), inlined(times(16, noFuel())...))
	expectRewritten(t, "25", impl.InlineCalls, growing(2, 5), impl.Program{})
	expectRewritten(t, "8", impl.InlineCalls, growing(3, 2), inlined(times(8, noFuel())...))
	expectRewritten(t, "27", impl.InlineCalls, growing(3, 3), impl.Program{})
	expectRewritten(t, "34992", impl.InlineCalls, calling(3, [][]tree{times(18, call(0))}, times(6, call(0))...), impl.Program{})
	empty := [][]tree{times(8, call(1)), times(8, call(2)), {}}
	expectRewritten(t, "512 empty ones", impl.InlineCalls, calling(3, empty, times(8, call(0))...), inlined())
	idle := calling(1, [][]tree{times(12, skip())}, while(exprA, 0, call(0), call(0)))
	expectRewritten(t, "too many in while 0", impl.InlineCalls, idle, impl.Program{})
}

// checked is a loop that checks expression e before each of its blocks and at the end, when it is unrolled.
func checked(e int, blocks ...[]tree) tree {
	check := while(e, 0)
	for _, trees := range slices.Backward(blocks) {
		check = ifElse(e, append(slices.Clone(trees), check), nil)
	}
	return check
}

func TestUnrollLoops(t *testing.T) {
	a, b := assign(0, exprB), observe(exprB)
	both := ifElse(exprA, block(a), block(b, skip()))
	for _, c := range []struct {
		what         string
		body, wanted []tree
	}{
		{"example", block(repeat(3, skip())), times(3, skip())}, {"nothing", nil, nil}, {"no loops", block(a, both, b), block(a, both, b)},
		{"repeat 1", block(repeat(1, a, b)), block(a, b)}, {"repeat 2", block(repeat(2, a, b)), block(a, b, a, b)}, {"repeat 4", block(repeat(4, both)), times(4, both)},
		{"repeat nothing", block(repeat(1), repeat(4), skip()), block(skip())}, {"repeat between others", block(a, repeat(2, b), a), block(a, b, b, a)},
		{"repeat in repeat", block(repeat(2, repeat(3, a), b)), block(a, a, a, b, a, a, a, b)}, {"repeat in if", block(ifElse(exprA, block(repeat(2, a)), block(repeat(1, b)))),
			block(ifElse(exprA, block(a, a), block(b)))},
		{"if in repeat", block(repeat(2, ifElse(exprA, block(repeat(2, a)), nil))), times(2, ifElse(exprA, block(a, a), nil))},
		{"while 0", block(while(exprA, 0, a)), block(while(exprA, 0))}, {"empty while 0", block(while(exprA, 0)), block(while(exprA, 0))},
		{"while 0 of loops", block(while(exprA, 0, repeat(4, while(exprB, 2, a)), b)), block(while(exprA, 0))},
		{"while 1", block(while(exprA, 1, a)), block(ifElse(exprA, block(a, while(exprA, 0)), nil))},
		{"while 2", block(while(exprA, 2, a, b)), block(ifElse(exprA, block(a, b, ifElse(exprA, block(a, b, while(exprA, 0)), nil)), nil))},
		{"while 3", block(while(exprA, 3, b)), block(checked(exprA, block(b), block(b), block(b)))},
		{"while 4", block(while(exprB, 4, both)), block(checked(exprB, block(both), block(both), block(both), block(both)))},
		{"empty while 1", block(while(exprA, 1)), block(checked(exprA, nil))}, {"empty while 4", block(while(exprA, 4)), block(checked(exprA, nil, nil, nil, nil))},
		{"while between others", block(a, while(exprA, 1, b), a), block(a, checked(exprA, block(b)), a)},
		{"several", block(while(exprA, 1, a), repeat(2, b), while(exprB, 0, b)), block(checked(exprA, block(a)), b, b, while(exprB, 0))},
		{"while in while", block(while(exprA, 2, while(exprB, 1, a), b)), block(checked(exprA, block(checked(exprB, block(a)), b), block(checked(exprB, block(a)), b)))},
		{"while 0 in while", block(while(exprA, 2, while(exprB, 0, a))), block(checked(exprA, block(while(exprB, 0)), block(while(exprB, 0))))},
		{"repeat in while", block(while(exprA, 2, repeat(3, a))), block(checked(exprA, times(3, a), times(3, a)))},
		{"while in repeat", block(repeat(2, while(exprA, 2, a))), times(2, checked(exprA, block(a), block(a)))},
		{"while in if", block(ifElse(exprB, nil, block(while(exprA, 1, a), b))), block(ifElse(exprB, nil, block(checked(exprA, block(a)), b)))},
		{"three loops", block(repeat(2, while(exprA, 1, repeat(2, ifElse(exprB, block(while(exprB, 1)), nil))))),
			times(2, checked(exprA, times(2, ifElse(exprB, block(checked(exprB, nil)), nil))))},
	} {
		for fuel := range 4 {
			expectRewritten(t, c.what, impl.UnrollLoops, calling(fuel, nil, c.body...), calling(fuel, nil, c.wanted...))
		}
		expectRewritten(t, c.what, impl.UnrollLoops, calling(1, [][]tree{{}}, c.body...), impl.Program{})
		expectRewritten(t, c.what, impl.Unrolled, calling(1, [][]tree{{}, {repeat(2)}}, c.body...), calling(0, nil, c.wanted...))
		expectRewritten(t, c.what, impl.Unrolled, calling(1, [][]tree{c.body}, call(0)), calling(0, nil, c.wanted...))
	}
}

// TestLongBlocksOfLoops has blocks of all lengths, which the checks of one loop must not share.
func TestLongBlocksOfLoops(t *testing.T) {
	for length := range 23 {
		var trees []tree
		for i := range length {
			trees = append(trees, []tree{skip(), assign(0, exprA), observe(exprB), sample(1, 1, 2)}[i%4])
		}
		for count := range 5 {
			unrolled, repeated := impl.Program{}, impl.Program{}
			if (length+1)*count+1 <= 24 {
				unrolled = calling(0, nil, checked(exprA, slices.Repeat([][]tree{trees}, count)...))
			}
			expectRewritten(t, "while", impl.UnrollLoops, calling(0, nil, while(exprA, count, trees...)), unrolled)
			if count > 0 && length*count <= 24 {
				repeated = calling(0, nil, times(count, trees...)...)
			}
			expectRewritten(t, "repeat", impl.UnrollLoops, calling(0, nil, repeat(count, trees...)), repeated)
		}
	}
}

func TestSizeOfUnrolledPrograms(t *testing.T) {
	fourTimes := func(inner ...tree) tree { return repeat(4, inner...) }
	upToFour := func(inner ...tree) tree { return while(exprA, 4, inner...) }
	for _, c := range []struct {
		what string
		body []tree
		size int
	}{
		{"no loops", times(24, skip()), 24}, {"24", block(repeat(4, times(6, skip())...)), 24}, {"25", block(repeat(4, times(6, skip())...), skip()), -1},
		{"24 in two loops", block(repeat(4, repeat(3, skip(), skip()))), 24}, {"28", block(repeat(4, times(7, skip())...)), -1},
		{"24 in if", block(ifElse(exprA, block(repeat(4, times(5, skip())...)), times(3, skip()))), 24},
		{"25 in if", block(ifElse(exprA, times(3, skip()), block(repeat(3, times(7, skip())...)))), -1},
		{"while of 21", block(while(exprA, 4, times(4, skip())...)), 21}, {"while of 24", block(while(exprA, 4, times(4, skip())...), repeat(3, skip())), 24},
		{"while of 25", block(while(exprA, 4, times(5, skip())...)), -1}, {"while of 22", block(while(exprA, 3, times(6, skip())...)), 22},
		{"empty loops", block(while(exprA, 4), while(exprA, 4), while(exprA, 4), while(exprB, 4), while(exprB, 3)), 24},
		{"too many empty loops", times(5, while(exprA, 4)), -1}, {"two loops of 21", block(while(exprA, 4, while(exprB, 3))), 21},
		{"24 repetitions of nothing", block(nestedTrees(23, repeat(4), fourTimes)), 0},
		{"4 to the power of 23", block(nestedTrees(23, skip(), fourTimes)), -1}, {"checks in 23 loops", block(nestedTrees(22, while(exprA, 0), fourTimes)), -1},
		{"23 checks in each other", block(nestedTrees(23, skip(), upToFour)), -1}, {"24 empty checks in each other", block(nestedTrees(23, while(exprB, 4), upToFour)), -1},
		{"a large block that is dropped", block(while(exprA, 0, nestedTrees(22, skip(), fourTimes))), 1},
		{"a dropped block in 22 loops", block(nestedTrees(2, while(exprA, 0, nestedTrees(20, skip(), upToFour)), fourTimes)), 16},
		{"once", block(nestedTrees(23, skip(), func(inner ...tree) tree { return repeat(1, inner...) })), 1},
	} {
		q, ok := impl.UnrollLoops(calling(0, nil, c.body...))
		expectInt(t, c.what, len(q.Stmts), ok, c.size)
		both, okBoth := impl.Unrolled(calling(0, nil, c.body...))
		if okBoth != ok || !impl.EqualPrograms(both, q) || !ok && len(q.Vars) > 0 {
			t.Errorf("%s: %+v %v", c.what, both, okBoth)
		}
	}
}

func TestUnrolled(t *testing.T) {
	a, b := assign(0, exprB), observe(exprB)
	expectRewritten(t, "example", impl.Unrolled, exampleOfInlining(), program([]int{2}, []impl.Expr{constant(1)}, 0, nil, sample(0, 1, 1), while(0, 0)))
	expectRewritten(t, "G", impl.Unrolled, exampleG(), exampleG())
	expectRewritten(t, "no statements", impl.Unrolled, manySkips(0), manySkips(0))
	procs := [][]tree{block(a, repeat(2, call(1))), block(while(exprA, 1, b, call(0)))}
	expectRewritten(t, "fuel 0", impl.Unrolled, calling(0, procs, repeat(3, call(0))), inlined(times(3, noFuel())...))
	expectRewritten(t, "fuel 1", impl.Unrolled, calling(1, procs, repeat(3, call(0))), inlined(times(3, a, noFuel(), noFuel())...))
	inner := checked(exprA, block(b, noFuel()))
	expectRewritten(t, "fuel 2", impl.Unrolled, calling(2, procs, repeat(2, call(0))), inlined(times(2, a, inner, inner)...))
	outer := checked(exprA, block(b, a, noFuel(), noFuel()))
	expectRewritten(t, "fuel 3", impl.Unrolled, calling(3, procs, call(0)), inlined(a, outer, outer))
	expectRewritten(t, "fuel 3, twice", impl.Unrolled, calling(3, procs, repeat(2, call(0))), impl.Program{})
	expectRewritten(t, "a call that is dropped", impl.Unrolled, calling(0, procs, while(exprA, 0, call(0))), changed(inlined(while(exprA, 0)), func(p *impl.Program) {
		p.Exprs = append(p.Exprs, constant(1))
	}))
	expectRewritten(t, "too many that are dropped", impl.Unrolled, calling(1, [][]tree{times(12, skip())}, while(exprA, 0, call(0), call(0))), impl.Program{})
	expectRewritten(t, "too many after unrolling", impl.Unrolled, calling(1, [][]tree{times(12, skip())}, repeat(3, call(0))), impl.Program{})
	expectRewritten(t, "24 after unrolling", impl.Unrolled, calling(1, [][]tree{times(12, skip())}, repeat(2, call(0))), inlined(times(24, skip())...))
	expectRewritten(t, "loops of calls of nothing", impl.Unrolled, calling(1, [][]tree{{}}, nestedTrees(23, call(0), func(inner ...tree) tree { return repeat(4, inner...) })), inlined())
}

// scattered is a program whose statements are in no order, and renumbered is the same in pre-order.
func scattered() (impl.Program, impl.Program) {
	exprs := []impl.Expr{constant(0), constant(1), constant(2), constant(3), constant(4), constant(5)}
	p := impl.Program{
		Vars:  []impl.Var{{Name: "a", Size: 2}, {Name: "b", Size: 2}},
		Exprs: exprs,
		Stmts: []impl.Stmt{
			{Kind: impl.StIf, Expr: 5, Then: []int{7, 3}, Else: []int{8, 2}}, {Kind: impl.StRepeat, Times: 2, Then: []int{6, 4}},
			{Kind: impl.StAssign, Var: 1, Expr: 4}, {Kind: impl.StAssign, Expr: 3}, {Kind: impl.StObserve, Expr: 2}, {Kind: impl.StCall, Proc: 1},
			{Kind: impl.StSkip}, {Kind: impl.StWhile, Expr: 1, Times: 1, Then: []int{9}}, {Kind: impl.StSkip}, {Kind: impl.StObserve},
			{Kind: impl.StSample, Var: 1, Choices: choices(1, 2)}, {Kind: impl.StObserve, Expr: 1},
		},
		Procs: []impl.Proc{{Name: "f", Body: []int{11, 5}}, {Name: "g", Body: []int{1}}},
		Body:  []int{10, 0},
		Fuel:  1,
	}
	q := planted(p, block(sample(1, 0, 2), ifElse(5, block(while(1, 1, observe(0)), assign(0, 3)), block(skip(), assign(1, 4)))))
	q.Procs = append(q.Procs, impl.Proc{Name: "f", Body: place(&q, block(observe(1), call(1)))})
	q.Procs = append(q.Procs, impl.Proc{Name: "g", Body: place(&q, block(repeat(2, skip(), observe(2))))})
	return p, q
}

func TestRenumbered(t *testing.T) {
	p, q := scattered()
	if !impl.IsValidProgram(p) || !slices.Equal(q.Procs[0].Body, []int{7, 8}) || !slices.Equal(q.Body, []int{0, 1}) {
		t.Fatal("the programs of the test are wrong")
	}
	expectRewritten(t, "scattered", impl.Renumbered, p, q)
	expectRewritten(t, "scattered, again", impl.Renumbered, q, q)
	for what, p := range map[string]impl.Program{"G": exampleG(), "no statements": manySkips(0), "24 statements": manySkips(24), "fuel": calling(3, nil, repeat(1, while(exprA, 4)))} {
		expectRewritten(t, what, impl.Renumbered, p, p)
	}
	expectRewritten(t, "procedures without statements", impl.Renumbered, calling(2, [][]tree{{}, {}, {}}, skip()), calling(2, [][]tree{{}, {}, {}}, skip()))
	moved := impl.Program{Vars: p.Vars, Stmts: []impl.Stmt{{Kind: impl.StCall}, {Kind: impl.StSkip}}, Procs: []impl.Proc{{Name: "f", Body: []int{1}}}, Body: []int{0}, Fuel: 2}
	expectRewritten(t, "procedures follow", impl.Renumbered, program([]int{2, 2}, nil, 2, [][]tree{{skip()}}, call(0)), moved)
	order := exampleG()
	order.Body, order.Fuel = []int{2, 0, 1}, 2
	expectRewritten(t, "order of the body", impl.Renumbered, order, program([]int{2, 2}, order.Exprs, 2, nil, observe(2), sample(0, 1, 2), sample(1, 1, 1)))
	unused := program([]int{2}, chain(40), 0, [][]tree{{observe(3), observe(1)}}, observe(39), observe(1))
	expectRewritten(t, "expressions", impl.Renumbered, unused, renumberedByReference(unused))
	for _, p := range validPrograms() {
		expectRewritten(t, "valid program", impl.Renumbered, p, renumberedByReference(p))
	}
}

// TestNumbersOfRewrittenPrograms has statements whose numbers are not in pre-order.
func TestNumbersOfRewrittenPrograms(t *testing.T) {
	p, _ := scattered()
	q := planted(p, block(sample(1, 0, 2), ifElse(5, block(while(1, 1, observe(0)), assign(0, 3)), block(skip(), assign(1, 4)))))
	q.Fuel = 0
	expectRewritten(t, "inlined", impl.InlineCalls, p, q)
	unrolled := planted(q, block(sample(1, 0, 2), ifElse(5, block(checked(1, block(observe(0))), assign(0, 3)), block(skip(), assign(1, 4)))))
	expectRewritten(t, "unrolled", impl.Unrolled, p, unrolled)
	// Calls of both procedures take the place of the observation in the loop.
	p.Stmts[9] = impl.Stmt{Kind: impl.StIf, Then: []int{13}, Else: []int{12}}
	p.Stmts = append(p.Stmts, impl.Stmt{Kind: impl.StCall, Proc: 1}, impl.Stmt{Kind: impl.StCall})
	p.Fuel = 2
	deeper := ifElse(0, block(observe(1), repeat(2, skip(), observe(2))), block(repeat(2, skip(), observe(2))))
	q = planted(q, block(sample(1, 0, 2), ifElse(5, block(while(1, 1, deeper), assign(0, 3)), block(skip(), assign(1, 4)))))
	expectRewritten(t, "inlined procedures", impl.InlineCalls, p, q)
}
