package tests

import (
	"math"
	"slices"
	"testing"

	"loop.example/g00893/impl"
)

// The expressions of the programs in the tests of chapter 7, and the one that InlineCalls may append to them.
const (
	exprA = iota
	exprB
	exprOne
	appended
)

// calling returns a program with a variable a of size 4 and a variable b of size 2.
func calling(fuel int, procs [][]tree, body ...tree) impl.Program {
	return program([]int{4, 2}, []impl.Expr{variable(0), variable(1), constant(1)}, fuel, procs, body...)
}

// exampleOfInlining is the program of the example of chapter 7.
func exampleOfInlining() impl.Program {
	return program([]int{2}, nil, 1, [][]tree{{sample(0, 1, 1), call(0)}}, call(0))
}

// callsOf tells what is known of the calls of a program: the graph, which procedures are recursive, and the depth.
type callsOf struct {
	what      string
	p         impl.Program
	graph     [][]int
	recursive []int
	depth     int
}

func (c callsOf) expect(t *testing.T) {
	t.Helper()
	graph, ok := impl.CallGraph(c.p)
	if !ok || !slices.EqualFunc(graph, c.graph, slices.Equal) {
		t.Errorf("%s: graph %v %v instead of %v", c.what, graph, ok, c.graph)
	}
	for i := range c.p.Procs {
		if is, ok := impl.IsRecursive(c.p, i); is != slices.Contains(c.recursive, i) || !ok {
			t.Errorf("%s: procedure %d is recursive: %v %v", c.what, i, is, ok)
		}
	}
	depth, ok := impl.CallDepth(c.p)
	expectInt(t, c.what+": depth", depth, ok, c.depth)
}

func TestCallsOfSimplePrograms(t *testing.T) {
	for _, c := range []callsOf{
		{"example", exampleOfInlining(), [][]int{{0}, {0}}, []int{0}, 2},
		{"no procedures", exampleG(), [][]int{{}}, nil, 0},
		{"no statements", manySkips(0), [][]int{{}}, nil, 0},
		{"no procedures, with fuel", calling(3, nil, skip()), [][]int{{}}, nil, 0},
		{"every kind", everyKind(), [][]int{{1}, {0}, {0, 1}}, []int{0, 1}, 3},
		{"a procedure that is never called", calling(3, [][]tree{{skip()}}, skip()), [][]int{{}, {}}, nil, 0},
		{"one that calls another", calling(3, [][]tree{{call(1)}, {skip()}}, skip()), [][]int{{1}, {}, {}}, nil, 0},
		{"one that calls itself", calling(3, [][]tree{{call(0)}}), [][]int{{0}, {}}, []int{0}, 0},
		{"a call of an empty procedure", calling(2, [][]tree{{}}, call(0)), [][]int{{}, {0}}, nil, 1},
		{"several calls", calling(2, [][]tree{{}, {}, {}}, call(2), call(0), call(2), call(0)), [][]int{{}, {}, {}, {0, 2}}, nil, 1},
		{"all calls in order", calling(2, [][]tree{{}, {}, {}}, call(2), call(1), call(0)), [][]int{{}, {}, {}, {0, 1, 2}}, nil, 1},
		{"the deepest of several", calling(3, [][]tree{{}, {call(0)}}, call(0), call(1), call(0)), [][]int{{}, {0}, {0, 1}}, nil, 2},
		{"the deepest comes first", calling(3, [][]tree{{}, {call(0)}}, call(1), skip(), call(0)), [][]int{{}, {0}, {0, 1}}, nil, 2},
	} {
		c.expect(t)
	}
}

func TestRecursiveProcedures(t *testing.T) {
	for _, c := range []callsOf{
		{"by another", calling(2, [][]tree{{call(1)}, {skip(), call(0)}}, call(1)), [][]int{{1}, {0}, {1}}, []int{0, 1}, 3},
		{"by two others", calling(3, [][]tree{{call(2)}, {call(0)}, {call(1)}}, call(0)), [][]int{{2}, {0}, {1}, {0}}, []int{0, 1, 2}, 4},
		{"reaches one", calling(3, [][]tree{{call(1)}, {call(1)}}, call(0)), [][]int{{1}, {1}, {0}}, []int{1}, 4},
		{"reaches one by another", calling(1, [][]tree{{call(2)}, {call(1)}, {call(1)}}, call(0)), [][]int{{2}, {1}, {1}, {0}}, []int{1}, 2},
		{"reaches two", calling(3, [][]tree{{call(1)}, {call(2)}, {call(1)}}, skip()), [][]int{{1}, {2}, {1}, {}}, []int{1, 2}, 0},
		{"is reached by one", calling(3, [][]tree{{}, {call(0), call(1)}}, call(1)), [][]int{{}, {0, 1}, {1}}, []int{1}, 4},
		{"reached twice", calling(3, [][]tree{{call(1), call(2)}, {call(2)}, {}}, call(0)), [][]int{{1, 2}, {2}, {}, {0}}, nil, 3},
		{"several ways", calling(3, [][]tree{{call(1), call(2)}, {}, {call(0), call(1)}}, call(1)), [][]int{{1, 2}, {}, {0, 1}, {1}}, []int{0, 2}, 1},
		{"all of all", calling(2, [][]tree{{call(0), call(1), call(2)}, {call(2), call(1)}, {call(0)}}, call(1)),
			[][]int{{0, 1, 2}, {1, 2}, {0}, {1}}, []int{0, 1, 2}, 3},
	} {
		c.expect(t)
	}
}

func TestCallsInNestedStatements(t *testing.T) {
	inner := []tree{repeat(2, while(exprA, 1, ifElse(exprA, nil, []tree{call(1)})))}
	for _, c := range []callsOf{
		{"then", calling(1, [][]tree{{}, {}}, ifElse(exprA, []tree{call(1)}, nil)), [][]int{{}, {}, {1}}, nil, 1},
		{"else", calling(1, [][]tree{{}, {}}, ifElse(exprA, nil, []tree{call(1)})), [][]int{{}, {}, {1}}, nil, 1},
		{"both", calling(1, [][]tree{{}, {}}, ifElse(exprA, []tree{call(1)}, []tree{call(0)})), [][]int{{}, {}, {0, 1}}, nil, 1},
		{"repeat", calling(1, [][]tree{{}}, repeat(4, call(0))), [][]int{{}, {0}}, nil, 1},
		{"while", calling(1, [][]tree{{}}, while(exprA, 1, call(0))), [][]int{{}, {0}}, nil, 1},
		{"while 0", calling(1, [][]tree{{}}, while(exprA, 0, call(0))), [][]int{{}, {0}}, nil, 0},
		{"nested in while 0", calling(1, [][]tree{{}}, while(exprA, 0, ifElse(exprA, []tree{repeat(1, call(0))}, nil))), [][]int{{}, {0}}, nil, 0},
		{"while 0 nested", calling(1, [][]tree{{}}, ifElse(exprA, nil, []tree{while(exprOne, 0, call(0))})), [][]int{{}, {0}}, nil, 0},
		{"beside while 0", calling(3, [][]tree{{call(1)}, {}}, call(1), while(exprA, 0, call(0))), [][]int{{1}, {}, {0, 1}}, nil, 1},
		{"deep", calling(2, [][]tree{inner, {}}, ifElse(exprA, nil, []tree{call(0)})), [][]int{{1}, {}, {0}}, nil, 2},
		{"recursive in a nested call", calling(2, [][]tree{{ifElse(exprA, []tree{call(0)}, nil)}}, call(0)), [][]int{{0}, {0}}, []int{0}, 3},
		{"recursive in while 0", calling(2, [][]tree{{while(exprA, 0, call(0))}}, call(0)), [][]int{{0}, {0}}, []int{0}, 1},
		{"while 0 on the way", calling(3, [][]tree{{while(exprA, 0, call(1))}, {call(0)}}, call(1)), [][]int{{1}, {0}, {1}}, []int{0, 1}, 2},
	} {
		c.expect(t)
	}
}

func TestDepthAndFuel(t *testing.T) {
	three := [][]tree{{call(1)}, {skip(), call(2)}, {skip()}}
	for fuel := range 4 {
		callsOf{"three in each other", calling(fuel, three, call(0)), [][]int{{1}, {2}, {}, {0}}, nil, min(3, fuel+1)}.expect(t)
		callsOf{"two of them", calling(fuel, three, call(1)), [][]int{{1}, {2}, {}, {1}}, nil, min(2, fuel+1)}.expect(t)
		callsOf{"one of them", calling(fuel, three, call(2), call(2), call(2)), [][]int{{1}, {2}, {}, {2}}, nil, 1}.expect(t)
		callsOf{"none of them", calling(fuel, three, skip()), [][]int{{1}, {2}, {}, {}}, nil, 0}.expect(t)
		callsOf{"endless", calling(fuel, [][]tree{{call(0)}}, call(0)), [][]int{{0}, {0}}, []int{0}, fuel + 1}.expect(t)
		callsOf{"many", calling(fuel, [][]tree{slices.Repeat([]tree{call(0)}, 18)}, slices.Repeat([]tree{call(0)}, 6)...), [][]int{{0}, {0}}, []int{0}, fuel + 1}.expect(t)
	}
}

func TestIndicesOfProcedures(t *testing.T) {
	for _, p := range []impl.Program{exampleOfInlining(), everyKind(), exampleG(), calling(3, [][]tree{{call(0)}, {call(1)}, {call(2)}}), {}} {
		for _, i := range []int{math.MinInt, -1, len(p.Procs), len(p.Procs) + 1, math.MaxInt} {
			if is, ok := impl.IsRecursive(p, i); is || ok {
				t.Errorf("%d of %d procedures: %v %v", i, len(p.Procs), is, ok)
			}
		}
	}
}

func TestIsUnrolled(t *testing.T) {
	for _, c := range []struct {
		what string
		p    impl.Program
		want bool
	}{
		{"example", exampleOfInlining(), false}, {"G", exampleG(), true}, {"no statements", manySkips(0), true}, {"with fuel", calling(3, nil, skip()), true},
		{"every other kind", calling(0, nil, skip(), assign(0, exprA), sample(1, 1, 1), observe(exprA), ifElse(exprA, []tree{skip()}, []tree{observe(exprB)})), true},
		{"exhausting", calling(0, nil, while(exprA, 0), while(exprOne, 0)), true},
		{"exhausting, nested", calling(1, nil, ifElse(exprA, []tree{while(exprA, 0)}, []tree{ifElse(exprB, nil, []tree{while(exprB, 0)})})), true},
		{"while 0 with a block", calling(0, nil, while(exprA, 0, skip())), false}, {"while 1", calling(0, nil, while(exprA, 1)), false},
		{"while 4", calling(0, nil, while(exprA, 4, skip())), false}, {"nested while", calling(0, nil, ifElse(exprA, nil, []tree{while(exprA, 1)})), false},
		{"the last of several", calling(0, nil, while(exprA, 0), while(exprB, 0), while(exprA, 2)), false},
		{"empty repeat", calling(0, nil, repeat(1)), false}, {"repeat", calling(0, nil, skip(), repeat(4, skip())), false},
		{"nested repeat", calling(0, nil, ifElse(exprA, []tree{repeat(1, skip())}, nil)), false},
		{"empty procedure", calling(0, [][]tree{{}}), false}, {"procedure", calling(1, [][]tree{{skip()}}, skip()), false},
		{"call", calling(1, [][]tree{{skip()}}, call(0)), false},
	} {
		if is, ok := impl.IsUnrolled(c.p); is != c.want || !ok || isUnrolledByTable(c.p) != c.want {
			t.Errorf("%s: %v %v", c.what, is, ok)
		}
	}
}

// expectInliningFailures checks that all functions of chapter 7 return zero values.
func expectInliningFailures(t *testing.T, what string, p impl.Program) {
	t.Helper()
	if graph, ok := impl.CallGraph(p); graph != nil || ok {
		t.Errorf("%s: graph %v %v", what, graph, ok)
	}
	for _, i := range []int{math.MinInt, -1, 0, 1, 2, math.MaxInt} {
		if is, ok := impl.IsRecursive(p, i); is || ok {
			t.Errorf("%s: procedure %d is recursive: %v %v", what, i, is, ok)
		}
	}
	if is, ok := impl.IsUnrolled(p); is || ok {
		t.Errorf("%s: unrolled %v %v", what, is, ok)
	}
	depth, ok := impl.CallDepth(p)
	expectInt(t, what, depth, ok, -1)
	for name, rewrite := range rewritings() {
		expectRewritten(t, what+": "+name, rewrite, p, impl.Program{})
	}
}

func TestInliningOfInvalidPrograms(t *testing.T) {
	for reason, p := range invalidPrograms() {
		expectInliningFailures(t, reason, p)
	}
	for _, p := range []impl.Program{{}, {Vars: make([]impl.Var, 1)}, {Stmts: make([]impl.Stmt, 1)}, {Exprs: make([]impl.Expr, 1)}, {Procs: make([]impl.Proc, 1)}} {
		expectInliningFailures(t, "zero values", p)
	}
	for what, edit := range map[string]func(p *impl.Program){
		"zero variable": func(p *impl.Program) { p.Vars[1] = impl.Var{} }, "zero expression": func(p *impl.Program) { p.Exprs[1] = impl.Expr{} },
		"zero statement": func(p *impl.Program) { p.Stmts[1] = impl.Stmt{} }, "zero procedure": func(p *impl.Program) { p.Procs[1] = impl.Proc{} },
		"zero choice": func(p *impl.Program) { p.Stmts[2].Choices[0] = impl.Choice{} }, "called procedure": func(p *impl.Program) { p.Stmts[1].Proc = 2 },
		"procedure -1": func(p *impl.Program) { p.Stmts[1].Proc = -1 }, "its own block": func(p *impl.Program) { p.Stmts[14].Then[0] = 14 },
	} {
		expectInliningFailures(t, what, changed(everyKind(), edit))
	}
}
