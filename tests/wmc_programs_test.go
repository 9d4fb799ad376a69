package tests

import (
	"fmt"
	"math"
	"math/big"
	"slices"
	"strings"
	"testing"

	"loop.example/g00893/impl"
)

// expectCompiled checks CompileQuery for an expression against the reference.
func expectCompiled(t *testing.T, what string, w tosses, e int) {
	t.Helper()
	levels := len(w.coins)
	holds, finishes, probs, ok := impl.CompileQuery(w.p, e)
	expectFunction(t, what+": query", holds, ok, levels, w.truthTable(e))
	expectFunction(t, what+": condition", finishes, ok, levels, w.finishTable())
	var wanted []*big.Rat
	for _, c := range w.coins {
		wanted = append(wanted, c.chance('1'))
	}
	expectBigs(t, what+": coins", probs, ok, wanted)
}

// expectInference checks all functions of chapter 11 that take a program.
func expectInference(t *testing.T, what string, p impl.Program) {
	t.Helper()
	w := tossesOf(p)
	finishes := strings.Contains(w.finishTable(), "1")
	for e := range p.Exprs {
		expectCompiled(t, what, w, e)
		probability, ok := impl.ProbabilityByDiagram(p, e)
		expectShare(t, fmt.Sprint(what, ": expression ", e), probability, ok, w.probability(e))
	}
	for v := range p.Vars {
		marginal, ok := impl.MarginalByDiagram(p, v)
		if !finishes {
			expectDist(t, what, marginal, ok, fails)
			continue
		}
		expectBigDist(t, fmt.Sprint(what, ": variable ", v), marginal, ok, w.marginal(v))
	}
}

// inferenceCase tells the probabilities of all expressions of a program of threeVars, and the marginals of its variables. Of
// a program of which no execution finishes there are none.
type inferenceCase struct{ what, text, probabilities, a, b, c string }

func expectAllInferences(t *testing.T, cases []inferenceCase) {
	t.Helper()
	for _, c := range cases {
		p := threeVars(t, c.text)
		expectInference(t, c.what, p)
		var probabilities []string
		for e := range p.Exprs {
			probability, ok := impl.ProbabilityByDiagram(p, e)
			if !ok {
				probabilities = append(probabilities, fails)
				continue
			}
			probabilities = append(probabilities, textOfRat(probability))
		}
		if text := strings.Join(probabilities, " "); text != c.probabilities {
			t.Errorf("%s: probabilities %s instead of %s", c.what, text, c.probabilities)
		}
		for v, wanted := range []string{c.a, c.b, c.c} {
			marginal, ok := impl.MarginalByDiagram(p, v)
			expectDist(t, fmt.Sprint(c.what, ": variable ", v), marginal, ok, wanted)
		}
	}
}

func TestInferenceByDiagrams(t *testing.T) {
	expectAllInferences(t, []inferenceCase{
		{"no statements", "", "", "0:1", "0:1", "0:1"}, {"no coins", "skip b := 2 a := b observe (b = 2)", "1 1 1 1 1", "0:1", "2:1", "0:1"}, {"no coins, assigned", "a := 1 c := (a + 2)", "1 1 1 1", "1:1", "0:1", "3:1"},
		{"no expressions", "flip a 0:1 1:2 flip c 0:1 3:5", "", "0:1/3 1:2/3", "0:1", "0:1/6 3:5/6"}, {"a single choice", "flip c 3:7 b := c", "1", "0:1", "0:1", "3:1"}, {"all values", "flip c 0:1 1:2 2:3 3:4", "", "0:1", "0:1", "0:1/10 1:1/5 2:3/10 3:2/5"},
		{"some values", "flip c 1:1 3:2 flip b 0:12 2:1", "", "0:1", "0:12/13 2:1/13", "1:1/3 3:2/3"}, {"copied", "flip c 0:1 1:1 2:1 3:1 a := c b := c", "3/4 3/4", "0:1/2 1:1/2", "0:1/2 1:1/4 2:1/4", "0:1/4 1:1/4 2:1/4 3:1/4"},
		{"overwritten", "flip a 0:1 1:2 flip a 0:1 1:3 a := 1", "1", "1:1", "0:1", "0:1"}, {"observed", "flip a 0:1 1:2 flip b 0:1 2:1 observe (a + b)", "4/5 3/5 1", "0:1/5 1:4/5", "0:2/5 2:3/5", "0:1"},
		{"certain", "flip a 0:1 1:2 observe a", "1", "1:1", "0:1", "0:1"}, {"nearly impossible", "flip a 0:12 1:1 flip b 0:12 1:1 observe ((a + b) = 2)", "1 1 1 1 1", "1:1", "1:1", "0:1"},
		{"exhausted by one", "flip b 0:1 1:1 2:2 while (b = 1) max 0 { }", "2/3 1 0", "0:1", "0:1/3 2:2/3", "0:1"}, {"rejected in a branch", "flip a 0:1 1:1 if a { flip c 0:1 1:3 observe c } else { }", "3/7 3/7", "0:4/7 1:3/7", "0:1", "0:4/7 1:3/7"},
		{"a coin that is not always reached", "flip a 0:2 1:1 if a { flip b 1:1 2:1 } else { b := 2 }", "1/3 1", "0:2/3 1:1/3", "1:1/6 2:5/6", "0:1"}, {"not reached", "if 0 { flip a 0:1 1:1 } else { }", "0", "0:1", "0:1", "0:1"}, {"expressions that are false", "flip a 0:1 1:1 c := (a - a)", "1/2 1/2 0", "0:1/2 1:1/2", "0:1", "0:1"},
		{"equal in two ways", "flip a 0:1 1:1 flip b 0:1 1:1 observe (a = b)", "1/2 1/2 1", "0:1/2 1:1/2", "0:1/2 1:1/2", "0:1"},
	})
}

func TestProgramsThatNeverFinish(t *testing.T) {
	expectAllInferences(t, []inferenceCase{
		{"rejected without coins", "observe 0", fails, fails, fails, fails}, {"exhausted without coins", "b := 2 while b max 0 { }", "fails fails", fails, fails, fails}, {"rejected", "flip a 0:1 1:1 observe 0 flip c 0:1 1:2", fails, fails, fails, fails},
		{"exhausted", "flip a 0:1 1:1 while 1 max 0 { }", fails, fails, fails, fails}, {"either", "flip a 0:1 1:1 observe a while a max 0 { }", "fails fails", fails, fails, fails}, {"an observation that never holds", "flip a 0:1 1:1 flip b 0:1 1:1 observe ((a + b) = 3)", "fails fails fails fails fails", fails, fails, fails},
		{"a value that it does not have", "flip c 0:1 2:1 observe (c = 3)", "fails fails fails", fails, fails, fails}, {"in both branches", "flip a 0:1 1:1 if a { observe 0 } else { while 1 max 0 { } }", "fails fails fails", fails, fails, fails},
	})
}

func TestInferenceOfExamples(t *testing.T) {
	for what, p := range map[string]impl.Program{
		"G": exampleG(), "out of order": outOfOrder(), "no coins": manySkips(24), "slicing": threeVars(t, exampleOfSlicing), "one variable": program([]int{4}, chain(3), 3, nil),
		"unused expressions": program([]int{2, 3}, []impl.Expr{variable(0), variable(1), binary(impl.OpMul, 0, 1), constant(0), not(2)}, 0, nil, sample(0, 1, 1), sample(1, 1, 0, 1)),
		"ten coins":          manyCoins(samplesOf(4, 4, 4, 2)...), "ten flips": manyCoins(samplesOf(slices.Repeat([]int{2}, 10)...)...), "greatest weights": manyCoins(sample(0, 12, 12, 12, 12), sample(1, 12, 11), observe(0), sample(0, 11, 12, 12)),
		"eleven statements": manyCoins(append(samplesOf(slices.Repeat([]int{2}, 9)...), observe(0), sample(1, 12, 1))...), "branches": manyCoins(ifElse(0, samplesOf(2, 3), samplesOf(4)), observe(0), sample(1, 5, 7)),
	} {
		expectInference(t, what, p)
	}
}

// expectNoInference checks that all functions of chapter 11 fail for a program.
func expectNoInference(t *testing.T, what string, p impl.Program, e, v int) {
	t.Helper()
	holds, finishes, probs, ok := impl.CompileQuery(p, e)
	expectDiagram(t, what, holds, ok, "")
	expectDiagram(t, what, finishes, ok, "")
	expectRats(t, what, probs, ok, fails)
	probability, ok := impl.ProbabilityByDiagram(p, e)
	expectRat(t, what, probability, ok, "")
	marginal, ok := impl.MarginalByDiagram(p, v)
	expectDist(t, what, marginal, ok, fails)
}

func TestProgramsWithoutCoins(t *testing.T) {
	for reason, p := range invalidPrograms() {
		expectNoInference(t, reason, p, 0, 0)
	}
	for _, p := range []impl.Program{{Vars: make([]impl.Var, 1)}, {Stmts: make([]impl.Stmt, 1)}, {Exprs: make([]impl.Expr, 1)}, {Procs: make([]impl.Proc, 1)}} {
		expectNoInference(t, "zero values", p, 0, 0)
	}
	for what, p := range map[string]impl.Program{
		"eleven coins": manyCoins(samplesOf(slices.Repeat([]int{2}, 11)...)...), "twelve coins": manyCoins(samplesOf(4, 4, 4, 4)...), "many coins": manyCoins(samplesOf(slices.Repeat([]int{4}, 24)...)...),
		"a procedure that is not called": program([]int{2}, chain(1), 0, [][]tree{{}}, skip()), "a call": program([]int{2}, chain(1), 1, [][]tree{{sample(0, 1, 1)}}, call(0)),
		"a loop": manyCoins(repeat(1, sample(0, 1, 1))), "a loop without block": manyCoins(repeat(2)), "a condition": manyCoins(while(0, 1)), "a condition with a block": manyCoins(while(0, 0, skip())),
		"a nested loop": manyCoins(ifElse(0, nil, []tree{repeat(2, sample(1, 1, 1))})), "every kind": everyKind(), "no variables": program(nil, nil, 0, nil),
	} {
		expectNoInference(t, what, p, 0, 0)
	}
}

func TestExpressionsAndVariablesThatThereAreNot(t *testing.T) {
	p := program([]int{2, 3, 4}, chain(5), 0, nil, sample(2, 1, 1), skip(), observe(0))
	for _, i := range []int{math.MinInt, math.MinInt + 1, -5, -2, -1, 5, 6, 40, 64, 1 << 32, math.MaxInt - 1, math.MaxInt} {
		expectNoInference(t, fmt.Sprint(i), p, i, i)
	}
	for v := range 6 {
		marginal, ok := impl.MarginalByDiagram(p, v)
		if ok != (v < 3) || !ok && marginal.Points != nil {
			t.Errorf("variable %d: %+v %v", v, marginal, ok)
		}
		_, ok = impl.ProbabilityByDiagram(p, v)
		if _, _, _, okCompiled := impl.CompileQuery(p, v); ok != (v < 5) || okCompiled != ok {
			t.Errorf("expression %d: %v %v", v, ok, okCompiled)
		}
	}
	bare := program([]int{2}, nil, 0, nil, sample(0, 1, 1))
	for _, e := range []int{-1, 0, 1} {
		holds, finishes, probs, ok := impl.CompileQuery(bare, e)
		expectDiagram(t, "no expressions", holds, ok, "")
		expectDiagram(t, "no expressions", finishes, ok, "")
		expectRats(t, "no expressions", probs, ok, fails)
		probability, ok := impl.ProbabilityByDiagram(bare, e)
		expectRat(t, "no expressions", probability, ok, "")
	}
}
