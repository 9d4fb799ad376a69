package tests

import (
	"math"
	"strconv"
	"strings"
	"testing"

	"loop.example/g00893/impl"
)

// programOf parses a text.
func programOf(t *testing.T, text string) impl.Program {
	t.Helper()
	p, ok := impl.ParseProgram(text)
	if !ok {
		t.Fatalf("%q is no program", text)
	}
	return p
}

// twoVars is the program of a text that follows the declarations of a variable of size 4 and one of size 2.
func twoVars(t *testing.T, text string) impl.Program {
	t.Helper()
	return programOf(t, "var a 4 var b 2 "+text)
}

// expectInferred checks the result of a program, and that of the functions that take no more than that.
func expectInferred(t *testing.T, what string, p impl.Program, wanted string) {
	t.Helper()
	r, ok := impl.Infer(p)
	evidence, evidenceOk := impl.Evidence(p)
	if wanted == fails {
		if ok || r.States != nil || r.Rejected != (impl.Rat{}) || r.Exhausted != (impl.Rat{}) {
			t.Errorf("%s: %+v %v instead of a failure", what, r, ok)
		}
		expectNumber(t, what+": evidence", evidence, evidenceOk, fails)
		return
	}
	want := resultOf(t, wanted)
	if !ok || !sameResults(r, want) {
		t.Errorf("%s: %+v %v instead of %s", what, r, ok, wanted)
	}
	if text, ok := impl.FormatResult(r); !ok || text != textOfResult(want) || !impl.IsValidResult(r) {
		t.Errorf("%s: %q %v", what, text, ok)
	}
	expectBig(t, what+": evidence", evidence, evidenceOk, massOfStates(t, want.States))
}

type inferCase struct{ what, text, wanted string }

func expectAllInferred(t *testing.T, cases []inferCase) {
	t.Helper()
	for _, c := range cases {
		p := twoVars(t, c.text)
		expectInferred(t, c.what, p, c.wanted)
		if r, ok := resultByReference(p); ok && !sameResults(r, resultOf(t, c.wanted)) {
			t.Errorf("%s: the reference returns %+v", c.what, r)
		}
	}
}

func TestInferOfExamples(t *testing.T) {
	expectInferred(t, "G", exampleG(), "01:1/6 10:1/3 11:1/3 R:1/6")
	p := program([]int{2}, []impl.Expr{variable(0), not(0)}, 0, nil, while(1, 2, sample(0, 1, 1)))
	expectInferred(t, "loop", p, "1:3/4 E:1/4")
}

func TestInferOfSimpleStatements(t *testing.T) {
	expectAllInferred(t, []inferCase{
		{"no statements", "fuel 0", "00:1"},
		{"skip", "fuel 0 skip", "00:1"},
		{"procedures that are not called", "proc f { a := 1 observe 0 } fuel 0", "00:1"},
		{"assignment", "fuel 0 a := 3 b := 1", "31:1"},
		{"value modulo the size", "fuel 0 a := 6 b := 3", "21:1"},
		{"value that is a multiple of the size", "fuel 0 a := 1 a := 20", "00:1"},
		{"the variable itself", "fuel 0 a := (a + 3) a := (a + 3)", "20:1"},
		{"choices", "fuel 0 flip a 0:1 1:2 2:3 3:4", "00:1/10 10:1/5 20:3/10 30:2/5"},
		{"choices without some values", "fuel 0 flip a 1:12 3:12", "10:1/2 30:1/2"},
		{"one choice", "fuel 0 flip a 3:5", "30:1"},
		{"greatest weights", "fuel 0 flip a 0:12 1:12 2:12 3:11", "00:12/47 10:12/47 20:12/47 30:11/47"},
		{"choices of a variable that had a value", "fuel 0 a := 2 b := 1 flip a 0:1 3:2", "01:1/3 31:2/3"},
		{"paths that end in one state", "fuel 0 flip a 0:1 1:1 flip b 0:1 1:1 a := (a + b) b := 0", "00:1/4 10:1/2 20:1/4"},
		{"paths that all end in one state", "fuel 0 flip a 0:1 1:2 2:3 3:4 flip b 0:1 1:6 a := 1 b := 1", "11:1"},
		{"second sample of a variable", "fuel 0 flip b 0:1 1:1 flip b 0:1 1:3", "00:1/4 01:3/4"},
		{"condition true", "fuel 0 if 2 { a := 1 } else { a := 2 }", "10:1"},
		{"condition false", "fuel 0 if 0 { a := 1 } else { a := 2 }", "20:1"},
		{"condition true on some paths", "fuel 0 flip b 0:1 1:2 if b { a := 1 } else { flip a 2:1 3:1 }", "11:2/3 20:1/6 30:1/6"},
		{"empty branches", "fuel 0 flip b 0:1 1:2 if b { } else { }", "00:1/3 01:2/3"},
	})
}

func TestInferOfObservations(t *testing.T) {
	expectAllInferred(t, []inferCase{
		{"true", "fuel 0 observe 1", "00:1"},
		{"true, not 1", "fuel 0 a := 3 observe a", "30:1"},
		{"false", "fuel 0 observe 0", "R:1"},
		{"false for the first values", "fuel 0 observe a a := 1", "R:1"},
		{"false on some paths", "fuel 0 flip b 0:1 1:2 observe b", "01:2/3 R:1/3"},
		{"false on all paths", "fuel 0 flip b 0:1 1:2 observe (b = 2)", "R:1"},
		{"false on other paths each", "fuel 0 flip b 0:1 1:2 observe b observe (not b)", "R:1"},
		{"in a branch", "fuel 0 flip b 0:1 1:2 flip a 0:1 1:1 if b { observe a } else { }", "00:1/6 10:1/6 11:1/3 R:1/3"},
		{"in the second iteration", "fuel 0 repeat 4 { a := (a + 1) observe (a < 2) }", "R:1"},
		{"in each iteration", "fuel 0 repeat 3 { flip b 0:1 1:1 observe b }", "01:1/8 R:7/8"},
		{"before a loop without end", "fuel 0 flip b 0:1 1:1 observe b while 1 max 0 { }", "R:1/2 E:1/2"},
		{"behind a loop without end", "fuel 0 flip b 0:1 1:1 while b max 1 { } observe b", "R:1/2 E:1/2"},
		{"in a procedure", "proc f { observe b } fuel 1 flip b 0:1 1:4 call f a := 1", "11:4/5 R:1/5"},
	})
}

func TestInferOfLoops(t *testing.T) {
	expectAllInferred(t, []inferCase{
		{"false at once", "fuel 0 while a max 4 { a := 1 b := 1 }", "00:1"},
		{"false before its limit", "fuel 0 a := 2 while a max 3 { a := (a - 1) }", "00:1"},
		{"false exactly at its limit", "fuel 0 a := 3 while a max 3 { a := (a - 1) }", "00:1"},
		{"true at its limit", "fuel 0 a := 3 while a max 2 { a := (a - 1) }", "E:1"},
		{"greatest limit, false at its limit", "fuel 0 while ((a + b) < 4) max 4 { if (a = 3) { b := 1 } else { a := (a + 1) } }", "31:1"},
		{"greatest limit but one, true at its limit", "fuel 0 while ((a + b) < 4) max 3 { if (a = 3) { b := 1 } else { a := (a + 1) } }", "E:1"},
		{"limit 0, true", "fuel 0 while 1 max 0 { }", "E:1"},
		{"limit 0, false", "fuel 0 while 0 max 0 { }", "00:1"},
		{"limit 0 with a block, true", "fuel 0 while (not a) max 0 { a := 1 }", "E:1"},
		{"limit 0 with a block, false", "fuel 0 while a max 0 { b := 1 }", "00:1"},
		{"limit 0, true on some paths", "fuel 0 flip b 0:2 1:1 while b max 0 { }", "00:2/3 E:1/3"},
		{"limit 1, false at its limit", "fuel 0 while (not b) max 1 { b := 1 }", "01:1"},
		{"limit 1, true at its limit", "fuel 0 while (not b) max 1 { }", "E:1"},
		{"sample in each iteration", "fuel 0 while (not b) max 4 { flip b 0:1 1:1 a := (a + 1) }", "01:1/16 11:1/2 21:1/4 31:1/8 E:1/16"},
		{"statements behind the loop", "fuel 0 while (not b) max 2 { flip b 0:1 1:1 } a := 3", "31:3/4 E:1/4"},
		{"rejected in the last iteration", "fuel 0 while 1 max 2 { observe (a < 1) a := 1 }", "R:1"},
		{"exhausted by an inner loop", "fuel 0 while (a < 3) max 4 { a := (a + 1) while (a = 2) max 3 { b := 1 } }", "E:1"},
		{"inner loop starts again", "fuel 0 repeat 4 { while (not b) max 1 { flip b 0:1 1:2 } b := 0 }", "00:16/81 E:65/81"},
		{"once", "fuel 0 repeat 1 { a := (a + 1) }", "10:1"},
		{"three times", "fuel 0 repeat 3 { a := (a + 1) }", "30:1"},
		{"four times", "fuel 0 repeat 4 { a := (a + 1) }", "00:1"},
		{"six times", "fuel 0 repeat 2 { repeat 3 { a := (a + 1) } b := (b + 1) }", "20:1"},
		{"nothing, four times", "fuel 0 repeat 4 { }", "00:1"},
		{"samples, twice", "fuel 0 repeat 2 { flip b 0:1 1:2 a := (a + b) }", "00:1/9 10:2/9 11:2/9 21:4/9"},
		{"exhausted in the second iteration", "fuel 0 repeat 3 { while b max 0 { } b := 1 }", "E:1"},
	})
}

func TestInferOfCalls(t *testing.T) {
	always := "proc f { a := (a + 1) call f } fuel "
	sometimes := "proc f { flip b 0:1 1:1 if b { call f } else { } a := (a + 1) } fuel "
	around := "proc f { if (a < 2) { a := (a + 1) call g } else { } } proc g { if (a < 3) { call f } else { } b := 1 } fuel "
	expectAllInferred(t, []inferCase{
		{"always, fuel 0", always + "0 call f", "E:1"},
		{"always, fuel 1", always + "1 call f", "E:1"},
		{"always, fuel 2", always + "2 call f", "E:1"},
		{"always, fuel 3", always + "3 call f", "E:1"},
		{"sometimes, fuel 0", sometimes + "0 call f", "E:1"},
		{"sometimes, fuel 1", sometimes + "1 call f", "10:1/2 E:1/2"},
		{"sometimes, fuel 2", sometimes + "2 call f", "10:1/2 20:1/4 E:1/4"},
		{"sometimes, fuel 3", sometimes + "3 call f", "10:1/2 20:1/4 30:1/8 E:1/8"},
		{"not called, fuel 0", always + "0 if a { call f } else { b := 1 }", "01:1"},
		{"several, fuel 0", "proc f { a := (a + 1) } fuel 0 call f", "E:1"},
		{"several one after the other, fuel 1", "proc f { a := (a + 1) } fuel 1 call f call f repeat 2 { call f }", "00:1"},
		{"one in the other, fuel 1", "proc f { call g } proc g { a := 2 } fuel 1 call f", "E:1"},
		{"one in the other, fuel 2", "proc f { call g call g b := 1 } proc g { a := (a + 1) } fuel 2 call f", "21:1"},
		{"three in each other, fuel 2", "proc f { call g } proc g { call h } proc h { a := 1 } fuel 2 call f", "E:1"},
		{"three in each other, fuel 3", "proc f { call g } proc g { call h } proc h { a := 1 } fuel 3 call f", "10:1"},
		{"around, fuel 3", around + "3 call f", "E:1"},
		{"around from the middle, fuel 3", around + "3 a := 1 call f", "21:1"},
		{"in a loop", "proc f { a := (a - 1) } fuel 1 a := 3 while a max 3 { call f }", "00:1"},
		{"empty procedure", "proc f { } fuel 1 call f call f", "00:1"},
	})
}

// pathsOf3000 are the statements of a program with exactly 3000 paths, of which as many can be taken as there are flips.
const pathsOf3000 = "flip a 0:1 1:1 2:1 3:1 flip b 0:1 1:1 flip c 0:1 1:1 2:1 " +
	"if b { flip a 0:1 1:2 2:3 3:4 } else { } if c { flip a 0:1 1:2 2:3 3:4 } else { } if (b + c) { flip a 0:1 1:2 2:3 3:4 } else { } "

func TestLimitOfPaths(t *testing.T) {
	most := "var a 4 var b 2 var c 3 fuel 0 " + pathsOf3000
	beyond := "var a 4 var b 2 var c 3 fuel 0 if 1 { " + pathsOf3000 + "} else { }"
	p, q := programOf(t, most), programOf(t, beyond)
	want, _ := resultByReference(p)
	r, ok := impl.Infer(p)
	if !ok || !sameResults(r, want) || len(r.States) != 24 {
		t.Errorf("3000 paths: %+v %v", r, ok)
	}
	if paths, _ := impl.CountPaths(p); paths != 3000 {
		t.Errorf("%d paths", paths)
	}
	if paths, _ := impl.CountPaths(q); paths != 3001 {
		t.Errorf("%d paths", paths)
	}
	for what, p := range map[string]impl.Program{"3001 paths": q, "1000000 paths": plain(million()...), "too many paths": plain(append(million(), two())...)} {
		expectNothingInferred(t, what, p)
	}
	// A block that is not executed counts all the same, and that of a loop with the limit 0 does not.
	expectNothingInferred(t, "paths that are not taken", plain(ifElse(0, nil, million())))
	expectInferred(t, "paths of a loop with the limit 0", program([]int{4}, []impl.Expr{constant(0)}, 0, nil, while(0, 0, million()...)), "0:1")
	expectInferred(t, "paths of a procedure without fuel", program([]int{4}, chain(1), 0, [][]tree{million()}, call(0)), "E:1")
}

// expectNothingInferred checks that all functions that take a program fail.
func expectNothingInferred(t *testing.T, what string, p impl.Program) {
	t.Helper()
	expectInferred(t, what, p, fails)
	for _, draws := range [][]int{nil, {}, {0}, {1, 2, 3}} {
		expectRun(t, what, p, draws, fails)
	}
	for _, e := range []int{0, 1} {
		expectQuery(t, what, p, e, fails, fails)
	}
}

// expectQuery checks the posterior probability and expectation of an expression.
func expectQuery(t *testing.T, what string, p impl.Program, e int, probability, mean string) {
	t.Helper()
	r, ok := impl.ProbabilityOf(p, e)
	expectNumber(t, what+": probability", r, ok, probability)
	r, ok = impl.ExpectedValue(p, e)
	expectNumber(t, what+": expectation", r, ok, mean)
}

func TestInvalidProgramsHaveNoResult(t *testing.T) {
	for reason, p := range invalidPrograms() {
		expectNothingInferred(t, reason, p)
	}
	for _, p := range []impl.Program{{Vars: make([]impl.Var, 1)}, {Stmts: make([]impl.Stmt, 1)}, {Exprs: make([]impl.Expr, 1)}, {Procs: make([]impl.Proc, 1)}} {
		expectNothingInferred(t, "zero values", p)
	}
}

func TestQueries(t *testing.T) {
	g := exampleG()
	expectQuery(t, "variable", g, 0, "4/5", "4/5")
	expectQuery(t, "other variable", g, 1, "3/5", "3/5")
	expectQuery(t, "observed expression", g, 2, "1", "1")
	for _, e := range []int{3, 40, -1, math.MinInt, math.MaxInt} {
		expectQuery(t, "no expression", g, e, fails, fails)
	}
	expectQuery(t, "no expressions", program([]int{2}, nil, 0, nil), 0, fails, fails)
	exprs := []impl.Expr{variable(0), constant(20), constant(0), binary(impl.OpAdd, 0, 1), binary(impl.OpMul, 0, 0), binary(impl.OpSub, 0, 2), not(0)}
	p := program([]int{4}, exprs, 0, nil, sample(0, 1, 2, 3, 4))
	for e, want := range [][2]string{{"9/10", "2"}, {"1", "20"}, {"0", "0"}, {"1", "20"}, {"9/10", "5"}, {"9/10", "2"}, {"1/10", "1/10"}} {
		expectQuery(t, "expression "+strconv.Itoa(e), p, e, want[0], want[1])
	}
	p.Stmts = append(p.Stmts, impl.Stmt{Kind: impl.StObserve, Expr: 0}, impl.Stmt{Kind: impl.StAssign, Expr: 4})
	p.Body = []int{0, 1, 2}
	expectQuery(t, "final values", p, 0, "2/3", "2/3")
	expectQuery(t, "values at the end, not before", p, 6, "1/3", "1/3")
	lost := "fuel 0 flip a 0:1 1:1 2:1 3:1 observe (a < 3) while (a = 2) max 0 { }"
	expectQuery(t, "without the lost masses", twoVars(t, lost), 0, "1/2", "1/2")
}

// TestQueriesWithoutFinishedExecution has programs that nothing is known of at the end.
func TestQueriesWithoutFinishedExecution(t *testing.T) {
	for _, text := range []string{"fuel 0 observe 0", "fuel 0 while 1 max 0 { }", "proc f { } fuel 0 call f observe 1", "fuel 0 flip b 0:1 1:1 observe b while b max 2 { }"} {
		p := twoVars(t, text)
		if r, ok := impl.Infer(p); !ok || len(r.States) != 0 {
			t.Errorf("%s: %+v %v", text, r, ok)
		}
		expectQuery(t, text, p, 0, fails, fails)
		evidence, ok := impl.Evidence(p)
		expectNumber(t, text, evidence, ok, "0")
	}
}

// nestOf returns a text in the given number of loops of four iterations each.
func nestOf(count int, text string) string {
	return strings.Repeat("repeat 4 { ", count) + text + strings.Repeat(" }", count)
}

// TestResultsOfNestedLoops has programs with far too many iterations to execute one by one.
func TestResultsOfNestedLoops(t *testing.T) {
	expectAllInferred(t, []inferCase{
		{"nothing", "fuel 0 " + nestOf(23, "skip"), "00:1"},
		{"a counter", "fuel 0 " + nestOf(22, "a := (a + 1)") + " b := 1", "01:1"},
		{"one choice", "fuel 0 " + nestOf(23, "flip a 3:2"), "30:1"},
		{"an observation", "fuel 0 " + nestOf(22, "observe (a < 1)") + " observe b", "R:1"},
		{"a false observation", "fuel 0 " + nestOf(21, "a := (a + 1) observe a"), "R:1"},
		{"a loop of the limit 0", "fuel 0 " + nestOf(22, "while b max 0 { a := 1 }"), "00:1"},
		{"an exhausted loop", "fuel 0 " + nestOf(21, "a := (a + 1) while (a = 3) max 0 { }"), "E:1"},
		{"after samples", "fuel 0 flip b 0:1 1:2 flip a 0:1 1:1 " + nestOf(21, "a := (a + b)"), "00:1/6 01:1/3 10:1/6 11:1/3"},
		{"before samples", "fuel 0 " + nestOf(20, "a := (a + 3)") + " flip b 0:1 1:2 flip a 0:1 1:1", "00:1/6 01:1/3 10:1/6 11:1/3"},
		{"between samples", "fuel 0 repeat 2 { flip b 0:1 1:2 " + nestOf(20, "a := (a + b)") + " a := (a + b) }", "00:1/9 10:2/9 11:2/9 21:4/9"},
		{"in procedures", "proc f { " + nestOf(7, "call g") + " } proc g { " + nestOf(7, "call h") + " } proc h { " + nestOf(4, "a := (a + 1)") + " } fuel 3 call f", "00:1"},
	})
	counter := "var a 4 var b 4 var c 4 var d 4 var e 4 fuel 0 flip e 1:1 2:2 " +
		nestOf(12, "a := (a + 1) b := (b + (not a)) c := (c + (not (a + b))) d := (d + (not (a + (b + c)))) e := (e + (not (a + (b + (c + d)))))")
	expectInferred(t, "a counter of 1024 states", programOf(t, counter), "00001:1/3 00002:2/3")
}
