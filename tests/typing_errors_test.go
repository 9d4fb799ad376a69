package tests

import (
	"slices"
	"testing"

	"loop.example/g00893/impl"
)

func wraps(stmt, v int) impl.TypeError {
	return impl.TypeError{Code: impl.ErrWraps, Stmt: stmt, Var: v}
}

func constantAt(stmt int) impl.TypeError {
	return impl.TypeError{Code: impl.ErrConstant, Stmt: stmt}
}

func unassigned(stmt, v int) impl.TypeError {
	return impl.TypeError{Code: impl.ErrUnassigned, Stmt: stmt, Var: v}
}

// expectErrors checks the problems of a valid program.
func expectErrors(t *testing.T, what string, p impl.Program, wanted ...impl.TypeError) {
	t.Helper()
	if got, ok := impl.TypeErrors(p); !ok || !slices.Equal(got, wanted) {
		t.Errorf("%s: %+v %v instead of %+v", what, got, ok, wanted)
	}
}

// exprsForErrors returns expressions over variables of the sizes 2, 3 and 4.
func exprsForErrors() []impl.Expr {
	return []impl.Expr{
		constant(0), constant(1), constant(3), constant(4), // 0 to 3
		variable(0), variable(1), variable(2), // 4: 0 to 1, 5: 0 to 2, 6: 0 to 3
		binary(impl.OpAdd, 4, 1),   // 7: 1 to 2
		binary(impl.OpMul, 6, 0),   // 8: 0
		binary(impl.OpOr, 6, 5),    // 9: 0 to 1
		binary(impl.OpSub, 2, 6),   // 10: 0 to 3
		binary(impl.OpEq, 5, 3),    // 11: 0
		binary(impl.OpLess, 6, 3),  // 12: 1
		binary(impl.OpMul, 3, 3),   // 13: 16
		not(4),                     // 14: 0 to 1
		binary(impl.OpAdd, 10, 4),  // 15: 0 to 4
		binary(impl.OpAdd, 12, 15), // 16: 1 to 5
	}
}

// samples assigns the variables of exprsForErrors.
func samples() []tree { return []tree{sample(0, 1, 1), sample(1, 1, 1, 1), sample(2, 1, 1, 1, 1)} }

// sampled is a program that assigns all its variables with the statements 0 to 2.
func sampled(body ...tree) impl.Program {
	return program([]int{2, 3, 4}, exprsForErrors(), 1, nil, append(samples(), body...)...)
}

// unsampled is a program that assigns only what the body assigns.
func unsampled(body ...tree) impl.Program {
	return program([]int{2, 3, 4}, exprsForErrors(), 1, nil, body...)
}

func TestErrWraps(t *testing.T) {
	expectErrors(t, "example", exampleOfTyping(), wraps(1, 0))
	greatest := map[int]int{0: 0, 1: 1, 2: 3, 3: 4, 4: 1, 5: 2, 6: 3, 7: 2, 8: 0, 9: 1, 10: 3, 11: 0, 12: 1, 13: 16, 14: 1, 15: 4, 16: 5}
	for e, value := range greatest {
		for v, size := range []int{2, 3, 4} {
			var wanted []impl.TypeError
			if value >= size {
				wanted = append(wanted, wraps(3, v))
			}
			expectErrors(t, "assignment", sampled(assign(v, e)), wanted...)
		}
	}
	expectErrors(t, "constants are no error in assignments", sampled(assign(2, 2), assign(0, 0), assign(1, 7)))
}

func TestErrConstant(t *testing.T) {
	isConstant := map[int]bool{0: true, 1: true, 2: true, 3: true, 7: true, 8: true, 11: true, 12: true, 13: true, 16: true}
	for e := range exprsForErrors() {
		for what, s := range map[string]tree{"observe": observe(e), "if": ifElse(e, nil, nil), "while": while(e, 2), "while 0": while(e, 0)} {
			var wanted []impl.TypeError
			if isConstant[e] {
				wanted = append(wanted, constantAt(3))
			}
			expectErrors(t, what, sampled(s), wanted...)
		}
	}
}

func TestErrUnassigned(t *testing.T) {
	never := program([]int{2, 3, 4}, exprsForErrors(), 0, [][]tree{{assign(1, 0)}, {skip()}}, observe(5), observe(6), call(1), observe(4))
	expectErrors(t, "assigned in a procedure that is never called", never, unassigned(3, 2), unassigned(5, 0))
	cases := map[string]struct {
		p      impl.Program
		wanted []impl.TypeError
	}{
		"nothing":                    {unsampled(), nil},
		"all statements without one": {unsampled(skip(), repeat(2)), nil},
		"least variable":             {unsampled(observe(9)), []impl.TypeError{unassigned(0, 1)}},
		"least that is not assigned": {unsampled(observe(9), sample(1, 1)), []impl.TypeError{unassigned(0, 2)}},
		"first variable":             {unsampled(observe(15)), []impl.TypeError{unassigned(0, 0)}},
		"negation":                   {unsampled(observe(14)), []impl.TypeError{unassigned(0, 0)}},
		"each statement": {unsampled(assign(1, 4), ifElse(4, nil, nil), while(4, 1), observe(4)),
			[]impl.TypeError{unassigned(0, 0), unassigned(1, 0), unassigned(2, 0), unassigned(3, 0)}},
		"assigned by the statement":     {unsampled(assign(0, 4)), nil},
		"assigned afterwards":           {unsampled(observe(4), assign(0, 1)), nil},
		"sampled afterwards":            {unsampled(observe(4), sample(0, 1)), nil},
		"assigned in a loop of limit 0": {unsampled(observe(4), while(4, 0, assign(0, 1))), nil},
		"assigned in one branch":        {unsampled(ifElse(4, nil, []tree{assign(0, 1)}), observe(4)), nil},
		"assigned in a repetition":      {unsampled(repeat(1, repeat(1, sample(0, 1))), observe(4)), nil},
		"constants":                     {unsampled(assign(2, 2), assign(0, 0)), nil},
		"unused expression":             {unsampled(skip(), sample(0, 1), assign(2, 4)), nil},
	}
	for what, c := range cases {
		expectErrors(t, what, c.p, c.wanted...)
	}
}

func TestSeveralErrors(t *testing.T) {
	expectErrors(t, "codes of an assignment", unsampled(skip(), assign(1, 15)), wraps(1, 1), unassigned(1, 0))
	expectErrors(t, "another unassigned variable", unsampled(sample(0, 1), assign(1, 15)), wraps(1, 1), unassigned(1, 2))
	expectErrors(t, "codes of a condition", unsampled(observe(8), ifElse(12, nil, nil), while(7, 1)),
		constantAt(0), unassigned(0, 2), constantAt(1), unassigned(1, 2), constantAt(2), unassigned(2, 0))
	expectErrors(t, "several unassigned variables", unsampled(observe(16)), constantAt(0), unassigned(0, 0))
	nested := unsampled(ifElse(1, []tree{assign(0, 6), observe(1)}, []tree{while(0, 0, assign(0, 15))}), assign(0, 2))
	expectErrors(t, "nested statements", nested, constantAt(0), wraps(1, 0), unassigned(1, 2), constantAt(2), constantAt(3), wraps(4, 0), unassigned(4, 2), wraps(5, 0))
	backwards := changed(unsampled(assign(0, 3), observe(1), assign(1, 3)), func(p *impl.Program) { p.Body = []int{2, 0, 1} })
	expectErrors(t, "other order of the body", backwards, wraps(0, 0), constantAt(1), wraps(2, 1))
	procs := program([]int{2, 3, 4}, exprsForErrors(), 0, [][]tree{{observe(13), call(0)}, {assign(0, 2)}}, observe(1), call(0))
	expectErrors(t, "procedures", procs, constantAt(0), wraps(2, 0), constantAt(3))
	shared := program([]int{4}, doubling(variable(0), impl.OpAdd, 40), 0, nil, observe(39), assign(0, 39))
	expectErrors(t, "more uses than can be counted", shared, wraps(1, 0))
	expectErrors(t, "as many errors as there can be", unsampled(slices.Repeat([]tree{assign(0, 16), observe(16)}, 12)...), allErrors()...)
}

func allErrors() []impl.TypeError {
	var list []impl.TypeError
	for at := 0; at < 24; at += 2 {
		list = append(list, wraps(at, 0), unassigned(at, 2), constantAt(at+1), unassigned(at+1, 2))
	}
	return list
}

func TestUnreadVars(t *testing.T) {
	exprs := []impl.Expr{
		variable(0), variable(1), variable(2), variable(3), constant(1), not(1), binary(impl.OpAdd, 2, 0), binary(impl.OpMul, 6, 5), binary(impl.OpEq, 4, 4),
	}
	with := func(body ...tree) impl.Program { return program([]int{2, 2, 2, 2}, exprs, 1, nil, body...) }
	procs := program([]int{2, 2, 2, 2}, exprs, 0, [][]tree{{observe(1), call(1)}, {}}, call(1), assign(3, 2))
	cases := []struct {
		p      impl.Program
		wanted []int
	}{
		{exampleOfTyping(), []int{}}, {exampleG(), []int{}}, {everyKind(), []int{1}},
		{with(), []int{0, 1, 2, 3}}, {with(skip(), sample(0, 1), repeat(1)), []int{0, 1, 2, 3}}, {with(observe(4)), []int{0, 1, 2, 3}},
		{with(observe(8)), []int{0, 1, 2, 3}}, {with(observe(3)), []int{0, 1, 2}}, {with(assign(3, 0)), []int{1, 2, 3}}, {with(assign(0, 0)), []int{1, 2, 3}},
		{with(observe(5)), []int{0, 2, 3}}, {with(observe(6)), []int{1, 3}}, {with(ifElse(7, nil, nil)), []int{3}}, {with(while(6, 0)), []int{1, 3}},
		{with(observe(7), while(3, 1)), []int{}}, {with(while(4, 0, observe(2))), []int{0, 1, 3}}, {with(ifElse(4, nil, []tree{repeat(1, observe(1))})), []int{0, 2, 3}},
		{procs, []int{0, 3}}, {program([]int{2}, nil, 0, nil), []int{0}}, {impl.Program{}, nil},
	}
	for i, c := range cases {
		got, ok := impl.UnreadVars(c.p)
		if expectList(t, "unread", got, ok, c.wanted); t.Failed() {
			t.Fatalf("case %d", i)
		}
	}
}
