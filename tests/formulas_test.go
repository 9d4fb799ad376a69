package tests

import (
	"fmt"
	"math"
	"slices"
	"strconv"
	"strings"
	"testing"

	"loop.example/g00893/impl"
)

// textOfCoins lists coins as "statement.choice:probability".
func textOfCoins(coins []impl.Coin) string {
	var list []string
	for _, c := range coins {
		list = append(list, fmt.Sprintf("%d.%d:%s", c.Stmt, c.Choice, textOfRat(c.Prob)))
	}
	return strings.Join(list, " ")
}

// textOfCoinRun writes an execution as a letter for its outcome, the values, and the executed statements in base 36, such
// as "F010:0134" for one that finishes.
func textOfCoinRun(r impl.CoinRun) string {
	text := "?FRE"[r.Outcome : r.Outcome+1]
	for _, value := range r.Values {
		text += strconv.Itoa(value)
	}
	text += ":"
	for _, at := range r.Reached {
		text += strconv.FormatInt(int64(at), 36)
	}
	return text
}

// expectTable checks a truth table or its form, which is not empty unless the call is to fail.
func expectTable(t *testing.T, what, got string, ok bool, wanted string) {
	t.Helper()
	if got != wanted || ok != (wanted != "") {
		t.Errorf("%s: got %q %v, want %q", what, got, ok, wanted)
	}
}

// expectTosses checks all results of chapter 9 for a program against the reference.
func expectTosses(t *testing.T, what string, p impl.Program) {
	t.Helper()
	w := tossesOf(p)
	coins, ok := impl.CoinsOf(p)
	if wanted := strings.Trim(fmt.Sprint(w.coins), "[]"); !ok || textOfCoins(coins) != wanted {
		t.Errorf("%s: coins %v %v instead of %s", what, coins, ok, wanted)
	}
	for _, x := range w.all {
		r, ok := impl.RunWithCoins(p, x.bits)
		if wanted := textOfCoinRun(w.run(x)); !ok || textOfCoinRun(r) != wanted {
			t.Errorf("%s: with %q %+v %v instead of %s", what, x.bits, r, ok, wanted)
		}
		mass, ok := impl.CoinMass(p, x.bits)
		expectBig(t, what+": mass of "+x.bits, mass, ok, w.mass(x))
	}
	table, ok := impl.FinishTable(p)
	expectTable(t, what+": finished", table, ok, w.finishTable())
	for at := range p.Stmts {
		table, ok := impl.ReachTable(p, at)
		expectTable(t, fmt.Sprint(what, ": reached ", at), table, ok, w.reachTable(at))
	}
	for v := range p.Vars {
		for value := range p.Vars[v].Size {
			table, ok := impl.ValueTable(p, v, value)
			expectTable(t, fmt.Sprint(what, ": variable ", v, " is ", value), table, ok, w.valueTable(v, value))
		}
	}
	for e := range p.Exprs {
		table, ok := impl.TruthTable(p, e)
		expectTable(t, fmt.Sprint(what, ": expression ", e), table, ok, w.truthTable(e))
	}
}

// tossCase tells the coins of a program and what happens with each assignment of them, in order, as texts.
type tossCase struct{ what, text, coins, runs string }

// expectTossesOf checks the coins and the executions of a program, and all results against the reference.
func expectTossesOf(t *testing.T, what string, p impl.Program, coins, runs string) {
	t.Helper()
	expectTosses(t, what, p)
	list, ok := impl.CoinsOf(p)
	if !ok || textOfCoins(list) != coins {
		t.Errorf("%s: coins %v %v", what, list, ok)
	}
	wanted := strings.Fields(runs)
	assignments := assignmentsOf(len(list))
	if len(assignments) != len(wanted) {
		t.Fatalf("%s: %d executions instead of %d", what, len(assignments), len(wanted))
	}
	for i, bits := range assignments {
		if r, ok := impl.RunWithCoins(p, bits); !ok || textOfCoinRun(r) != wanted[i] {
			t.Errorf("%s: with %q %+v %v instead of %s", what, bits, r, ok, wanted[i])
		}
	}
}

func expectAllTosses(t *testing.T, cases []tossCase) {
	t.Helper()
	for _, c := range cases {
		expectTossesOf(t, c.what, threeVars(t, c.text), c.coins, c.runs)
	}
}

func TestExampleOfCoins(t *testing.T) {
	p := exampleG()
	expectTossesOf(t, "G", p, "0.0:1/3 1.0:1/2", "F11:012 F10:012 F01:012 R00:012")
	table, ok := impl.FinishTable(p)
	expectTable(t, "finished", table, ok, "1110")
	table, ok = impl.ValueTable(p, 0, 1)
	expectTable(t, "a is 1", table, ok, "1100")
	table, ok = impl.ValueTable(p, 1, 0)
	expectTable(t, "b is 0", table, ok, "0100")
	for e, wanted := range []string{"1100", "1010", "1110"} {
		table, ok = impl.TruthTable(p, e)
		expectTable(t, "expression", table, ok, wanted)
	}
	for at := range 3 {
		table, ok = impl.ReachTable(p, at)
		expectTable(t, "reached", table, ok, "1111")
	}
	for bits, wanted := range map[string]string{"00": "1/3", "01": "1/3", "10": "1/6", "11": "1/6"} {
		mass, ok := impl.CoinMass(p, bits)
		expectRat(t, "mass of "+bits, mass, ok, wanted)
	}
	form, ok := impl.FormatDNF("1110")
	expectTable(t, "form", form, ok, "00 + 01 + 10")
}

func TestCoinsOfSamples(t *testing.T) {
	expectAllTosses(t, []tossCase{
		{"no statements", "", "", "F000:"}, {"no samples", "skip b := 2 observe b", "", "F020:012"},
		{"one choice", "flip b 2:5", "", "F020:0"}, {"several of one choice", "flip c 3:1 flip b 1:12 flip c 0:7", "", "F010:012"},
		{"two choices", "flip a 0:1 1:2", "0.0:1/3", "F100:0 F000:0"}, {"two that are not 0", "flip c 1:3 3:1", "0.0:3/4", "F003:0 F001:0"},
		{"three choices", "flip b 0:1 1:2 2:3", "0.0:1/6 0.1:2/5", "F020:0 F010:0 F000:0 F000:0"},
		{"four choices", "flip c 0:1 1:1 2:1 3:1", "0.0:1/4 0.1:1/3 0.2:1/2", "F003:0 F002:0 F001:0 F001:0 F000:0 F000:0 F000:0 F000:0"},
		{"four of the greatest weight", "flip c 0:12 1:12 2:12 3:12", "0.0:1/4 0.1:1/3 0.2:1/2", "F003:0 F002:0 F001:0 F001:0 F000:0 F000:0 F000:0 F000:0"},
		{"three of four", "flip c 0:11 2:7 3:5", "0.0:11/23 0.1:7/12", "F003:0 F002:0 F000:0 F000:0"},
		{"a small last weight", "flip a 0:12 1:1", "0.0:12/13", "F100:0 F000:0"}, {"a large last weight", "flip a 0:1 1:12", "0.0:1/13", "F100:0 F000:0"},
		{"a variable twice", "flip a 0:1 1:1 flip a 0:1 1:3", "0.0:1/2 1.0:1/4", "F100:01 F000:01 F100:01 F000:01"},
		{"two variables", "flip a 0:1 1:1 flip b 1:2 2:1", "0.0:1/2 1.0:2/3", "F120:01 F110:01 F020:01 F010:01"},
		{"among others", "skip flip b 0:1 1:2 2:3 a := b flip c 2:1", "1.0:1/6 1.1:2/5", "F022:0123 F112:0123 F002:0123 F002:0123"},
		{"two and three", "flip a 0:1 1:1 flip b 0:1 1:1 2:2", "0.0:1/2 1.0:1/4 1.1:1/3", "F120:01 F110:01 F100:01 F100:01 F020:01 F010:01 F000:01 F000:01"},
		{"assigned", "flip c 1:1 3:1 b := (c + 1) a := c", "0.0:1/2", "F113:012 F121:012"}, {"overwritten", "flip c 1:1 3:1 c := 2", "0.0:1/2", "F002:01 F002:01"},
	})
}

func TestCoinsThatEndTheExecution(t *testing.T) {
	expectAllTosses(t, []tossCase{
		{"observe 0", "observe 0 skip", "", "R000:0"}, {"observe 20", "observe 20 skip", "", "F000:01"}, {"exhausted", "while 1 max 0 { } skip", "", "E000:0"},
		{"not exhausted", "while a max 0 { } skip", "", "F000:01"}, {"exhausted by 2", "b := 2 while b max 0 { } c := 1", "", "E020:01"},
		{"nothing behind it", "flip a 0:1 1:1 observe a", "0.0:1/2", "F100:01 R000:01"}, {"exhausted at the end", "flip a 0:1 1:1 while a max 0 { }", "0.0:1/2", "E100:01 F000:01"},
		{"values of a rejected one", "flip b 1:1 2:1 c := b observe (c = 1) c := 0", "0.0:1/2", "R022:012 F010:0123"},
		{"values of an exhausted one", "flip b 1:1 2:1 c := b while (c = 1) max 0 { } c := 0", "0.0:1/2", "F020:0123 E011:012"},
		{"a sample behind a false observation", "observe a flip a 0:1 1:1", "1.0:1/2", "R000:0 R000:0"},
		{"a sample behind an exhausted execution", "while 1 max 0 { } flip b 0:1 1:2 2:1", "1.0:1/4 1.1:2/3", "E000:0 E000:0 E000:0 E000:0"},
		{"a sample behind either", "flip a 0:1 1:1 observe a flip b 1:1 2:1", "0.0:1/2 2.0:1/2", "F120:012 F110:012 R000:01 R000:01"},
		{"both", "flip a 0:1 1:1 flip b 0:1 1:1 while a max 0 { } observe b", "0.0:1/2 1.0:1/2", "E110:012 E100:012 F010:0123 R000:0123"},
		{"in the other order", "flip a 0:1 1:1 flip b 0:1 1:1 observe b while a max 0 { }", "0.0:1/2 1.0:1/2", "E110:0123 R100:012 F010:0123 R000:012"},
		{"rejected only once", "observe 0 observe 1 while 1 max 0 { }", "", "R000:0"}, {"exhausted only once", "while 1 max 0 { } observe 0", "", "E000:0"},
	})
}

func TestCoinsInBranches(t *testing.T) {
	expectAllTosses(t, []tossCase{
		{"empty", "if a { } else { } skip", "", "F000:01"}, {"Then", "if 20 { skip } else { b := 1 }", "", "F000:01"}, {"Else", "if 0 { skip } else { b := 1 }", "", "F010:02"},
		{"by a coin", "flip a 0:1 1:1 if a { b := 1 } else { c := 2 }", "0.0:1/2", "F110:012 F002:013"},
		{"by a value of 3", "flip c 0:1 3:1 if c { b := 1 } else { skip } skip", "0.0:1/2", "F013:0124 F000:0134"},
		{"its variable assigned in it", "flip a 0:1 1:1 if a { a := 0 b := a } else { a := 1 b := 2 }", "0.0:1/2", "F000:0123 F120:0145"},
		{"samples in it that are never reached", "if a { flip b 0:1 1:1 } else { flip c 0:1 1:1 }", "1.0:1/2 2.0:1/2", "F001:02 F000:02 F001:02 F000:02"},
		{"samples in it", "flip a 0:1 1:1 if a { flip b 1:1 2:1 } else { flip b 1:1 2:3 }", "0.0:1/2 2.0:1/2 3.0:1/4", "F120:012 F120:012 F110:012 F110:012 F020:013 F010:013 F020:013 F010:013"},
		{"rejected in it", "flip a 0:1 1:1 if a { observe b c := 3 } else { } c := 1", "0.0:1/2", "R100:012 F001:014"},
		{"exhausted in it", "flip a 0:1 1:1 if a { } else { while 1 max 0 { } skip } skip", "0.0:1/2", "F100:014 E000:012"},
		{"in each other", "flip a 0:1 1:1 flip c 0:1 1:1 if a { if c { b := 1 } else { b := 2 skip } } else { if c { } else { skip } skip } c := 0", "0.0:1/2 1.0:1/2", "F110:01234a F120:012356a F000:01279a F000:012789a"},
		{"rejected deep in it", "flip a 0:1 1:1 if a { if a { if a { observe 0 } else { } skip } else { } skip } else { } skip", "0.0:1/2", "R100:01234 F000:017"},
	})
}

// TestCoinsGoByTheNumbersOfStatements has programs whose statements are not executed in the order of their numbers.
func TestCoinsGoByTheNumbersOfStatements(t *testing.T) {
	expectTossesOf(t, "out of order", outOfOrder(), "2.0:1/2", "F020:01235 R000:12")
	p := program([]int{2, 3}, nil, 0, nil, sample(0, 1, 2), sample(1, 0, 3, 1), sample(0, 1, 1))
	expectTossesOf(t, "in order", p, "0.0:1/3 1.0:3/4 2.0:1/2", "F12:012 F02:012 F11:012 F01:012 F12:012 F02:012 F11:012 F01:012")
	p.Body = []int{2, 1, 0}
	expectTossesOf(t, "backward", p, "0.0:1/3 1.0:3/4 2.0:1/2", "F12:012 F12:012 F11:012 F11:012 F02:012 F02:012 F01:012 F01:012")
	p = program([]int{2, 2}, []impl.Expr{variable(0)}, 0, nil, ifElse(0, nil, nil), sample(1, 1, 1), sample(0, 1, 3))
	p.Body, p.Stmts[0].Else = []int{2, 0}, []int{1}
	expectTossesOf(t, "nested", p, "1.0:1/2 2.0:1/4", "F10:02 F01:012 F10:02 F00:012")
}

func TestCoinsOfBarePrograms(t *testing.T) {
	bare := program([]int{2, 4, 2, 2, 3}, nil, 2, nil, sample(0, 1, 1), sample(1, 0, 0, 0, 1), skip())
	expectTossesOf(t, "no expressions", bare, "0.0:1/2", "F13000:012 F03000:012")
	empty := program([]int{4}, nil, 3, nil)
	expectTossesOf(t, "no statements", empty, "", "F0:")
	mass, ok := impl.CoinMass(empty, "")
	expectRat(t, "no coins", mass, ok, "1")
	table, ok := impl.FinishTable(empty)
	expectTable(t, "no coins", table, ok, "1")
	for value, wanted := range []string{"1", "0", "0", "0"} {
		table, ok := impl.ValueTable(empty, 0, value)
		expectTable(t, "no coins", table, ok, wanted)
	}
	table, ok = impl.FinishTable(program([]int{2}, []impl.Expr{variable(0)}, 0, nil, observe(0)))
	expectTable(t, "no coins, rejected", table, ok, "0")
	skips := manySkips(24)
	expectTossesOf(t, "24 skips", skips, "", "F0:0123456789abcdefghijklmn")
}

// TestCoinsGoByExpressions has expressions that are part of others, and one that no statement uses.
func TestCoinsGoByExpressions(t *testing.T) {
	exprs := []impl.Expr{variable(0), variable(1), binary(impl.OpMul, 0, 1), constant(0), binary(impl.OpAnd, 2, 3), not(4), binary(impl.OpSub, 1, 0)}
	p := program([]int{2, 3}, exprs, 0, nil, sample(0, 1, 1), sample(1, 1, 0, 1), observe(5))
	expectTossesOf(t, "expressions", p, "0.0:1/2 1.0:1/2", "F12:012 F10:012 F02:012 F00:012")
	for e, wanted := range []string{"1100", "1010", "1000", "0000", "0000", "1111", "1010"} {
		table, ok := impl.TruthTable(p, e)
		expectTable(t, fmt.Sprint("expression ", e), table, ok, wanted)
	}
	p.Stmts[2].Expr = 6
	for e, wanted := range []string{"1000", "1010", "1000", "0000", "0000", "1010", "1010"} {
		table, ok := impl.TruthTable(p, e)
		expectTable(t, fmt.Sprint("expression ", e, " if 6 is observed"), table, ok, wanted)
	}
}

// samplesOf returns as many samples of a variable of size 4 as there are numbers, each with that many choices of weight 1.
func samplesOf(choices ...int) []tree {
	var list []tree
	for _, count := range choices {
		list = append(list, sample(0, slices.Repeat([]int{1}, count)...))
	}
	return list
}

// manyCoins returns a program with a variable of size 4 and one of size 2.
func manyCoins(body ...tree) impl.Program {
	return program([]int{4, 2}, []impl.Expr{variable(0)}, 0, nil, body...)
}

func TestTenCoins(t *testing.T) {
	for _, choices := range [][]int{slices.Repeat([]int{2}, 10), {4, 4, 4, 2}, {3, 3, 3, 3, 3}, {2, 4, 3, 1, 4, 2, 1}, append(slices.Repeat([]int{1}, 14), slices.Repeat([]int{2}, 10)...)} {
		p := manyCoins(samplesOf(choices...)...)
		expectTosses(t, fmt.Sprint("choices ", choices), p)
		finished, ok := impl.FinishTable(p)
		expectTable(t, "finished", finished, ok, strings.Repeat("1", 1024))
	}
	p := manyCoins(samplesOf(slices.Repeat([]int{2}, 10)...)...)
	last, ok := impl.ValueTable(p, 0, 0)
	expectTable(t, "the last coin", last, ok, strings.Repeat("01", 512))
	mass, ok := impl.CoinMass(p, "0110100101")
	expectRat(t, "mass", mass, ok, "1/1024")
	slices.Reverse(p.Body)
	first, ok := impl.ValueTable(p, 0, 0)
	expectTable(t, "the first coin", first, ok, strings.Repeat("0", 512)+strings.Repeat("1", 512))
	p = manyCoins(append([]tree{sample(0, 1, 1), observe(0)}, samplesOf(slices.Repeat([]int{2}, 9)...)...)...)
	finished, ok := impl.FinishTable(p)
	expectTable(t, "observed", finished, ok, strings.Repeat("1", 512)+strings.Repeat("0", 512))
	reached, ok := impl.ReachTable(p, 10)
	expectTable(t, "the last statement", reached, ok, finished)
	reached, ok = impl.ReachTable(p, 1)
	expectTable(t, "the observation", reached, ok, strings.Repeat("1", 1024))
}

// TestMassesOfTheGreatestWeights has masses with denominators as large as they can be.
func TestMassesOfTheGreatestWeights(t *testing.T) {
	for _, last := range []int{1, 11, 12} {
		p := manyCoins(sample(0, 12, 12, 12, last), sample(0, 12, 12, 11, last), sample(0, 12, 11, 12, last), sample(1, 12, last))
		expectTosses(t, fmt.Sprint("weights with ", last), p)
	}
	p := manyCoins(slices.Repeat([]tree{sample(1, 12, 11)}, 10)...)
	mass, ok := impl.CoinMass(p, "1111111111")
	expectRat(t, "the greatest mass", mass, ok, "61917364224/41426511213649")
	mass, ok = impl.CoinMass(p, "0000000000")
	expectRat(t, "the least mass", mass, ok, "25937424601/41426511213649")
}

// expectNoTosses checks that all functions that take a program fail.
func expectNoTosses(t *testing.T, what string, p impl.Program, bits ...string) {
	t.Helper()
	if coins, ok := impl.CoinsOf(p); coins != nil || ok {
		t.Errorf("%s: coins %v", what, coins)
	}
	for _, bits := range append(bits, "", "0", "1", "01", "0000000000", "00000000000") {
		if r, ok := impl.RunWithCoins(p, bits); r.Outcome != 0 || r.Values != nil || r.Reached != nil || ok {
			t.Errorf("%s: with %q %+v", what, bits, r)
		}
		mass, ok := impl.CoinMass(p, bits)
		expectRat(t, what, mass, ok, "")
	}
	table, ok := impl.FinishTable(p)
	expectTable(t, what+": finished", table, ok, "")
	table, ok = impl.ReachTable(p, 0)
	expectTable(t, what+": reached", table, ok, "")
	table, ok = impl.ValueTable(p, 0, 0)
	expectTable(t, what+": value", table, ok, "")
	table, ok = impl.TruthTable(p, 0)
	expectTable(t, what+": truth", table, ok, "")
}

func TestTooManyCoins(t *testing.T) {
	for _, choices := range [][]int{slices.Repeat([]int{2}, 11), {4, 4, 4, 3}, {4, 4, 4, 2, 2}, {3, 3, 3, 3, 3, 2}, slices.Repeat([]int{4}, 24), slices.Repeat([]int{2}, 24)} {
		expectNoTosses(t, fmt.Sprint("choices ", choices), manyCoins(samplesOf(choices...)...), strings.Repeat("0", len(choices)))
	}
	ten := samplesOf(slices.Repeat([]int{2}, 10)...)
	expectNoTosses(t, "one that is never reached", manyCoins(ifElse(0, samplesOf(2), ten)))
	expectNoTosses(t, "one behind a false observation", manyCoins(append(ten, observe(0), sample(1, 1, 1))...))
	for _, one := range []tree{skip(), sample(1, 1), sample(1, 0, 12), ifElse(0, nil, samplesOf(1, 1))} {
		expectTosses(t, "ten and another statement", manyCoins(append(slices.Clone(ten), one)...))
	}
}

func TestCoinsOfOtherPrograms(t *testing.T) {
	for reason, p := range invalidPrograms() {
		expectNoTosses(t, reason, p)
	}
	for _, p := range []impl.Program{{Vars: make([]impl.Var, 1)}, {Stmts: make([]impl.Stmt, 1)}, {Exprs: make([]impl.Expr, 1)}, {Procs: make([]impl.Proc, 1)}} {
		expectNoTosses(t, "zero values", p)
	}
	for what, p := range map[string]impl.Program{
		"a procedure that is not called": program([]int{2}, chain(1), 0, [][]tree{{}}, skip()), "a sample in a procedure": program([]int{2}, chain(1), 1, [][]tree{{sample(0, 1, 1)}}, call(0)),
		"a loop": manyCoins(repeat(1, skip())), "a loop without block": manyCoins(repeat(2)), "a nested loop": manyCoins(ifElse(0, nil, []tree{repeat(2, sample(1, 1, 1))})),
		"a condition": manyCoins(while(0, 1)), "a condition with a block": manyCoins(while(0, 0, skip())), "a condition with both": manyCoins(while(0, 2, sample(0, 1, 1))),
		"every kind": everyKind(), "no variables": program(nil, nil, 0, nil),
	} {
		expectNoTosses(t, what, p)
	}
}

func TestBitsThatAreNoAssignment(t *testing.T) {
	for coins := range 11 {
		p := manyCoins(samplesOf(slices.Repeat([]int{2}, coins)...)...)
		good := "1010010110"[:coins]
		expectOnlyGood := func(bits string) {
			t.Helper()
			r, ok := impl.RunWithCoins(p, bits)
			if ok != (bits == good) || !ok && (r.Outcome != 0 || r.Values != nil || r.Reached != nil) {
				t.Errorf("%d coins: with %q %+v %v", coins, bits, r, ok)
			}
			mass, okMass := impl.CoinMass(p, bits)
			if okMass != ok || !ok && mass != (impl.Rat{}) {
				t.Errorf("%d coins: mass of %q %+v %v", coins, bits, mass, okMass)
			}
		}
		expectOnlyGood(good)
		for _, more := range []string{"0", "1", "00", " ", "\x00", strings.Repeat("0", 11), strings.Repeat("1", 1000)} {
			expectOnlyGood(good + more)
			expectOnlyGood(more + good)
		}
		for at := range coins {
			expectOnlyGood(good[:at])
			expectOnlyGood(good[:at] + good[at+1:])
			for _, other := range []string{"2", "/", ":", " ", "\x00", "\x01", "\x80", "\xb0", "\xff", "a", "O", "l", "\n", "-", "+"} {
				expectOnlyGood(good[:at] + other + good[at+1:])
			}
		}
	}
}

func TestIndicesOfTables(t *testing.T) {
	p := program([]int{2, 3, 4}, chain(4), 0, nil, sample(2, 1, 1), skip(), observe(0))
	for _, i := range []int{math.MinInt, -4, -2, -1, 0, 1, 2, 3, 4, 5, 40, math.MaxInt - 1, math.MaxInt} {
		table, ok := impl.ReachTable(p, i)
		expectTable(t, fmt.Sprint("statement ", i), table, ok, map[bool]string{true: "11"}[i >= 0 && i < 3])
		table, ok = impl.TruthTable(p, i)
		if wanted := i >= 0 && i < 4; ok != wanted || ok == (table == "") {
			t.Errorf("expression %d: %q %v", i, table, ok)
		}
		for v, size := range []int{2, 3, 4} {
			table, ok = impl.ValueTable(p, v, i)
			if wanted := i >= 0 && i < size; ok != wanted || ok == (table == "") {
				t.Errorf("value %d of %d: %q %v", i, v, table, ok)
			}
		}
		table, ok = impl.ValueTable(p, i, 1)
		if wanted := i >= 0 && i < 3; ok != wanted || ok == (table == "") {
			t.Errorf("value 1 of %d: %q %v", i, table, ok)
		}
	}
}

func TestFormatDNF(t *testing.T) {
	zeros := strings.Repeat("0", 1023)
	for table, wanted := range map[string]string{
		"0": "0", "1": "1", "00": "0", "01": "1", "10": "0", "11": "0 + 1", "0000": "0", "0001": "11", "0110": "01 + 10", "1000": "00", "1110": "00 + 01 + 10", "1111": "00 + 01 + 10 + 11",
		"00000000": "0", "00000001": "111", "10000000": "000", "01010010": "001 + 011 + 110", zeros + "0": "0", zeros + "1": "1111111111", "1" + zeros: "0000000000",
		zeros[:511] + "11" + zeros[:511]: "0111111111 + 1000000000", zeros[:255] + "1" + zeros[:256]: "011111111",
	} {
		form, ok := impl.FormatDNF(table)
		expectTable(t, "form of "+table, form, ok, wanted)
	}
	for n := range 11 {
		all, some := assignmentsOf(n), []string{}
		ones, mixed := strings.Repeat("1", len(all)), []byte(strings.Repeat("0", len(all)))
		for i := range mixed {
			if i*i%7 == 1 {
				mixed[i] = '1'
				some = append(some, all[i])
			}
		}
		form, ok := impl.FormatDNF(ones)
		expectTable(t, fmt.Sprint("all of ", n), form, ok, map[bool]string{true: "1", false: strings.Join(all, " + ")}[n == 0])
		if form, ok = impl.FormatDNF(string(mixed)); n > 0 {
			expectTable(t, fmt.Sprint("some of ", n), form, ok, strings.Join(some, " + "))
		}
	}
}

func TestNoTruthTables(t *testing.T) {
	for _, length := range []int{0, 3, 5, 6, 7, 9, 12, 15, 17, 24, 100, 255, 257, 768, 1000, 1023, 1025, 1536, 2047, 2048, 2049, 4096, 1 << 16} {
		for _, digit := range []string{"0", "1"} {
			form, ok := impl.FormatDNF(strings.Repeat(digit, length))
			expectTable(t, fmt.Sprint(length, " bytes"), form, ok, "")
		}
	}
	for n := range 11 {
		table := strings.Repeat("0110", 256)[:1<<n]
		for _, other := range []string{"2", "/", ":", " ", "\x00", "\x01", "\x80", "\xb0", "\xff", "a", "O", "\n", "+"} {
			for _, at := range []int{0, len(table) / 2, len(table) - 1} {
				form, ok := impl.FormatDNF(table[:at] + other + table[at+1:])
				expectTable(t, fmt.Sprintf("%q at %d of %d", other, at, len(table)), form, ok, "")
			}
		}
		form, ok := impl.FormatDNF(table + " ")
		expectTable(t, "a blank behind it", form, ok, "")
	}
	for _, table := range []string{"é", "０", "1é1", "00 + 01", "true", "12", "21", "0b", "0x01"} {
		form, ok := impl.FormatDNF(table)
		expectTable(t, table, form, ok, "")
	}
}
