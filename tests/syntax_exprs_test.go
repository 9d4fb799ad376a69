package tests

import (
	"math"
	"slices"
	"strings"
	"testing"

	"loop.example/g00893/impl"
)

func variables(names ...string) []impl.Var {
	var list []impl.Var
	for i, name := range names {
		list = append(list, impl.Var{Name: name, Size: 2 + i%3})
	}
	return list
}

// expectParsedExpr checks the expressions of a text; wanted nil means that the text must be rejected.
func expectParsedExpr(t *testing.T, vars []impl.Var, text string, wanted []impl.Expr) {
	t.Helper()
	got, ok := impl.ParseExpr(vars, text)
	if ok != (wanted != nil) || !slices.Equal(got, wanted) {
		t.Errorf("%.60q over %v: %v %v instead of %v", text, vars, got, ok, wanted)
	}
}

func TestParseExpr(t *testing.T) {
	a, b, one := variable(0), variable(1), constant(1)
	cases := []struct {
		text   string
		wanted []impl.Expr
	}{
		{"a", []impl.Expr{a}}, {"b", []impl.Expr{b}}, {"x1", []impl.Expr{variable(2)}}, {" \n a\n ", []impl.Expr{a}},
		{"0", []impl.Expr{constant(0)}}, {"9", []impl.Expr{constant(9)}}, {"10", []impl.Expr{constant(10)}}, {"20", []impl.Expr{constant(20)}},
		{"(a + 1)", []impl.Expr{a, one, binary(impl.OpAdd, 0, 1)}}, {"(a+1)", []impl.Expr{a, one, binary(impl.OpAdd, 0, 1)}},
		{"(1 - a)", []impl.Expr{one, a, binary(impl.OpSub, 0, 1)}}, {"(a*b)", []impl.Expr{a, b, binary(impl.OpMul, 0, 1)}},
		{"(a=b)", []impl.Expr{a, b, binary(impl.OpEq, 0, 1)}}, {"(a<b)", []impl.Expr{a, b, binary(impl.OpLess, 0, 1)}},
		{"(a and b)", []impl.Expr{a, b, binary(impl.OpAnd, 0, 1)}}, {"(\na\nor\nb\n)", []impl.Expr{a, b, binary(impl.OpOr, 0, 1)}},
		{"(not a)", []impl.Expr{a, not(0)}}, {"(not(not b))", []impl.Expr{b, not(0), not(1)}},
		{"((a + b) - (a * 1))", []impl.Expr{a, b, binary(impl.OpAdd, 0, 1), a, one, binary(impl.OpMul, 3, 4), binary(impl.OpSub, 2, 5)}},
		{"(a or (not (b = 1)))", []impl.Expr{a, b, one, binary(impl.OpEq, 1, 2), not(3), binary(impl.OpOr, 0, 4)}},
		{"((not a) < b)", []impl.Expr{a, not(0), b, binary(impl.OpLess, 1, 2)}}, {"(a + a)", []impl.Expr{a, a, binary(impl.OpAdd, 0, 1)}},
	}
	for _, c := range cases {
		expectParsedExpr(t, variables("a", "b", "x1"), c.text, c.wanted)
	}
	expectParsedExpr(t, variables("abcdefgh"), "abcdefgh", []impl.Expr{a})
	expectParsedExpr(t, variables("a", "b", "c", "d", "e"), "e", []impl.Expr{variable(4)})
}

func TestRejectedExprs(t *testing.T) {
	texts := []string{
		"", " ", "\n", "21", "99", "100", "00", "01", "020", "0 0", "-1", "+1", "a b", "a 1", "1 a", "a a", "(a)", "((a + b))", "()", "(", ")", "a)", "(a",
		"(a +)", "(+ a)", "(a + b", "a + b", "a+b)", "(a b)", "(a + + b)", "(a + b c)", "(a + b + c)", "(a + b) c", "(a + b))", "(a + b)(a + b)",
		"(a not b)", "(not)", "not a", "(not a b)", "(not a + b)", "(a and)", "(and a)", "(a := b)", "(a : b)", "(a == b)", "(a <= b)", "(a, b)", "{a + b}",
		"(a > b)", "(a & b)", "A", "aB", "ab", "x2", "c", "abcdefghi", "1a", "a_", "\ta", "a\t", "a\r", "a\x00", "\x00", "a\xff", "é", "(a choose b)", "(a skip b)",
		"(a + 21)", "(21 + a)", "(not 21)", "(a + z)", "(z + a)", "(not z)", "z", "((a + b) - 100)",
	}
	for _, text := range append(texts, strings.Fields("skip flip observe if else repeat while max call var proc fuel and or not choose")...) {
		expectParsedExpr(t, variables("a", "b", "x1"), text, nil)
	}
}

func TestVariablesOfParsedExprs(t *testing.T) {
	good := impl.Var{Name: "a", Size: 2}
	for _, name := range []string{"", "1a", "A", "a b", "abcdefghi", "not", "choose", "skip", "a\n", "\xff"} {
		expectParsedExpr(t, []impl.Var{good, {Name: name, Size: 2}}, "a", nil)
		expectParsedExpr(t, []impl.Var{{Name: name, Size: 2}}, "1", nil)
	}
	for _, size := range []int{math.MinInt, -1, 0, 1, 5, math.MaxInt} {
		expectParsedExpr(t, []impl.Var{good, {Name: "b", Size: size}}, "a", nil)
	}
	for _, vars := range [][]impl.Var{nil, {}, {{}}, variables("a", "a"), variables("a", "b", "a"), variables("a", "b", "c", "d", "e", "f"), make([]impl.Var, 100000)} {
		expectParsedExpr(t, vars, "a", nil)
		expectParsedExpr(t, vars, "1", nil)
	}
	for size := 2; size <= 4; size++ {
		expectParsedExpr(t, []impl.Var{{Name: "a", Size: size}}, "a", []impl.Expr{variable(0)})
	}
}

// longSum returns a sum of the given number of variables a, nested to the right.
func longSum(count int) string {
	return strings.Repeat("(a+", count-1) + "a" + strings.Repeat(")", count-1)
}

func notText(count int, text string) string {
	return strings.Repeat("(not ", count) + text + strings.Repeat(")", count)
}

func TestSizeOfParsedExprs(t *testing.T) {
	vars := variables("a")
	accepted := []string{
		notText(39, "a"), notText(1, longSum(20)), longSum(20), strings.Repeat(" ", 5999) + "a", "a" + strings.Repeat("\n", 5999),
		notText(39, strings.Repeat(" ", 5765)+"1"),
	}
	for _, text := range accepted {
		exprs, ok := impl.ParseExpr(vars, text)
		if !ok || len(exprs) > 40 || !impl.IsValidExprs(exprs, 1) {
			t.Errorf("%.60q: %v", text, exprs)
		}
	}
	if exprs, ok := impl.ParseExpr(vars, notText(39, "a")); len(exprs) != 40 || exprs[39] != not(38) {
		t.Error(exprs, ok)
	}
	rejected := []string{
		notText(40, "a"), longSum(21), notText(2, longSum(20)), longSum(1000), notText(900, "a"), strings.Repeat("(", 6000), strings.Repeat("(", 6001),
		strings.Repeat("(not ", 1200), strings.Repeat("(", 2999) + "a" + strings.Repeat(")", 2999), strings.Repeat(")", 6000), strings.Repeat("(a+", 2000),
		strings.Repeat("a", 6000), strings.Repeat("1", 6000), strings.Repeat(" ", 6000), strings.Repeat(" ", 6000) + "a", "a" + strings.Repeat(" ", 6000),
	}
	for _, text := range rejected {
		expectParsedExpr(t, vars, text, nil)
	}
}

// expectExprText checks a text; wanted "" means that the call must fail.
func expectExprText(t *testing.T, p impl.Program, e int, wanted string) {
	t.Helper()
	if got, ok := impl.FormatExpr(p, e); got != wanted || ok != (wanted != "") {
		t.Errorf("expression %d of %v: %.60q %v instead of %.60q", e, p.Exprs, got, ok, wanted)
	}
}

func TestFormatExpr(t *testing.T) {
	wanted := []string{
		"a", "20", "(a + 20)", "((a + 20) - a)", "(((a + 20) - a) * ((a + 20) - a))", "((((a + 20) - a) * ((a + 20) - a)) = 20)",
		"(a < ((((a + 20) - a) * ((a + 20) - a)) = 20))", "((a < ((((a + 20) - a) * ((a + 20) - a)) = 20)) and a)",
		"(((a < ((((a + 20) - a) * ((a + 20) - a)) = 20)) and a) or 20)", "(not (((a < ((((a + 20) - a) * ((a + 20) - a)) = 20)) and a) or 20))", "c",
	}
	for e, text := range wanted {
		expectExprText(t, everyKind(), e, text)
	}
	expectExprText(t, exampleG(), 2, "(a or b)")
	for _, e := range []int{-1, 3, 4, 40, math.MinInt, math.MaxInt} {
		expectExprText(t, exampleG(), e, "")
	}
	for _, p := range invalidPrograms() {
		expectExprText(t, p, 0, "")
	}
	expectExprText(t, manySkips(1), 0, "")
	// The expression precedes the one that is too long, and the program has no normal form.
	tower := program([]int{2}, doubling(variable(0), impl.OpAdd, 40), 0, nil, observe(39))
	expectExprText(t, tower, 2, "((a + a) + (a + a))")
	for e, x := range []int{impl.OpAdd, impl.OpSub, impl.OpMul, impl.OpEq, impl.OpLess, impl.OpAnd, impl.OpOr} {
		expectExprText(t, program([]int{2}, doubling(constant(e), x, 40), 0, nil), 39, "")
	}
}

// exprOfLength returns a program with an expression whose text has the given length.
func exprOfLength(length int) impl.Program {
	p := program([]int{2}, nil, 0, nil)
	var add func(length int)
	add = func(length int) {
		if length <= 8 {
			p.Vars[0].Name = "abcdefgh"[:length]
			p.Exprs = append(p.Exprs, variable(0))
			return
		}
		op, rest := impl.OpMul, length-len("( * )")
		if rest%2 == 1 {
			op, rest = impl.OpOr, length-len("( or )")
		}
		add(rest / 2)
		p.Exprs = append(p.Exprs, binary(op, len(p.Exprs)-1, len(p.Exprs)-1))
	}
	add(length)
	return p
}

func TestLengthOfFormattedExprs(t *testing.T) {
	for _, length := range []int{1, 8, 21, 1000, 2999, 3000, 5990, 5999, 6000, 6001, 6002, 7000, 11999, 12000, 12010, 100000, 1 << 40} {
		p := exprOfLength(length)
		last := len(p.Exprs) - 1
		_, lengths := exprCosts(p)
		if lengths[last] != length || !impl.IsValidProgram(p) {
			t.Fatalf("the expression has the length %d instead of %d", lengths[last], length)
		}
		wanted := ""
		if length <= 6000 {
			wanted = exprText(p, last)
		}
		expectExprText(t, p, last, wanted)
		p.Exprs = append(p.Exprs, not(last))
		if length > 5994 {
			expectExprText(t, p, last+1, "")
		} else {
			expectExprText(t, p, last+1, "(not "+wanted+")")
		}
	}
}
