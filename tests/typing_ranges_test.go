package tests

import (
	"math"
	"slices"
	"testing"

	"loop.example/g00893/impl"
)

// exampleOfTyping is the program of the example of chapter 5: b := a + a; a := b.
func exampleOfTyping() impl.Program {
	exprs := []impl.Expr{variable(0), binary(impl.OpAdd, 0, 0), variable(1)}
	return program([]int{2, 3}, exprs, 0, nil, assign(1, 1), assign(0, 2))
}

// expectRange checks a range; a wanted least value below 0 means that the call must fail.
func expectRange(t *testing.T, p impl.Program, e, least, greatest int) {
	t.Helper()
	low, high, ok := impl.RangeOf(p, e)
	if ok != (least >= 0) || ok && (low != least || high != greatest) || !ok && (low != 0 || high != 0) {
		t.Errorf("expression %d of %+v: %d to %d, %v instead of %d to %d", e, p.Exprs, low, high, ok, least, greatest)
	}
}

// withRange appends expressions of which the last one has the given range, over variables of the sizes 2, 3 and 4.
func withRange(exprs []impl.Expr, r [2]int) []impl.Expr {
	exprs = append(exprs, constant(r[0]))
	if r[0] < r[1] {
		exprs = append(exprs, variable(r[1]-r[0]-1), binary(impl.OpAdd, len(exprs)-1, len(exprs)))
	}
	return exprs
}

// operation is a program whose last expression applies an operator to operands with the given ranges.
func operation(op int, a, b [2]int) impl.Program {
	exprs := withRange(nil, a)
	first := len(exprs) - 1
	exprs = withRange(exprs, b)
	x := binary(op, first, len(exprs)-1)
	if op == impl.OpNot {
		x = not(first)
	}
	return program([]int{2, 3, 4}, append(exprs, x), 0, nil)
}

func TestRangesOfArithmetic(t *testing.T) {
	cases := []struct {
		op      int
		a, b, r [2]int
	}{
		{impl.OpAdd, [2]int{0, 1}, [2]int{0, 1}, [2]int{0, 2}}, {impl.OpAdd, [2]int{2, 3}, [2]int{5, 8}, [2]int{7, 11}},
		{impl.OpAdd, [2]int{9, 10}, [2]int{9, 10}, [2]int{18, 20}}, {impl.OpAdd, [2]int{9, 10}, [2]int{9, 11}, [2]int{18, 20}},
		{impl.OpAdd, [2]int{9, 10}, [2]int{11, 11}, [2]int{20, 20}}, {impl.OpAdd, [2]int{9, 10}, [2]int{10, 10}, [2]int{19, 20}},
		{impl.OpAdd, [2]int{20, 20}, [2]int{20, 20}, [2]int{20, 20}}, {impl.OpAdd, [2]int{20, 20}, [2]int{0, 0}, [2]int{20, 20}},
		{impl.OpMul, [2]int{0, 3}, [2]int{0, 3}, [2]int{0, 9}}, {impl.OpMul, [2]int{2, 4}, [2]int{3, 5}, [2]int{6, 20}},
		{impl.OpMul, [2]int{2, 3}, [2]int{7, 7}, [2]int{14, 20}}, {impl.OpMul, [2]int{4, 5}, [2]int{5, 6}, [2]int{20, 20}},
		{impl.OpMul, [2]int{0, 0}, [2]int{20, 20}, [2]int{0, 0}}, {impl.OpMul, [2]int{0, 1}, [2]int{20, 20}, [2]int{0, 20}},
		{impl.OpMul, [2]int{20, 20}, [2]int{20, 20}, [2]int{20, 20}}, {impl.OpMul, [2]int{1, 1}, [2]int{17, 19}, [2]int{17, 19}},
		{impl.OpSub, [2]int{5, 7}, [2]int{1, 2}, [2]int{3, 6}}, {impl.OpSub, [2]int{2, 3}, [2]int{1, 2}, [2]int{0, 2}},
		{impl.OpSub, [2]int{0, 3}, [2]int{0, 2}, [2]int{0, 3}}, {impl.OpSub, [2]int{1, 3}, [2]int{2, 4}, [2]int{0, 1}},
		{impl.OpSub, [2]int{1, 2}, [2]int{2, 4}, [2]int{0, 0}}, {impl.OpSub, [2]int{1, 2}, [2]int{3, 4}, [2]int{0, 0}},
		{impl.OpSub, [2]int{0, 0}, [2]int{20, 20}, [2]int{0, 0}}, {impl.OpSub, [2]int{20, 20}, [2]int{0, 0}, [2]int{20, 20}},
		{impl.OpSub, [2]int{3, 3}, [2]int{3, 3}, [2]int{0, 0}}, {impl.OpSub, [2]int{3, 4}, [2]int{3, 3}, [2]int{0, 1}},
	}
	for _, c := range cases {
		p := operation(c.op, c.a, c.b)
		expectRange(t, p, len(p.Exprs)-1, c.r[0], c.r[1])
	}
}

func TestConstantComparisons(t *testing.T) {
	never, always, either := [2]int{0, 0}, [2]int{1, 1}, [2]int{0, 1}
	cases := []struct {
		op      int
		a, b, r [2]int
	}{
		{impl.OpEq, [2]int{0, 1}, [2]int{2, 3}, never}, {impl.OpEq, [2]int{2, 3}, [2]int{0, 1}, never},
		{impl.OpEq, [2]int{0, 1}, [2]int{1, 2}, either}, {impl.OpEq, [2]int{1, 2}, [2]int{0, 1}, either},
		{impl.OpEq, [2]int{2, 2}, [2]int{2, 2}, always}, {impl.OpEq, [2]int{0, 0}, [2]int{0, 0}, always},
		{impl.OpEq, [2]int{2, 2}, [2]int{3, 3}, never}, {impl.OpEq, [2]int{3, 3}, [2]int{2, 2}, never},
		{impl.OpEq, [2]int{2, 2}, [2]int{2, 3}, either}, {impl.OpEq, [2]int{2, 3}, [2]int{3, 3}, either},
		{impl.OpEq, [2]int{2, 3}, [2]int{2, 3}, either}, {impl.OpEq, [2]int{0, 3}, [2]int{1, 2}, either}, {impl.OpEq, [2]int{1, 2}, [2]int{0, 3}, either},
		{impl.OpLess, [2]int{0, 1}, [2]int{2, 3}, always}, {impl.OpLess, [2]int{0, 1}, [2]int{1, 3}, either}, {impl.OpLess, [2]int{0, 2}, [2]int{2, 3}, either},
		{impl.OpLess, [2]int{2, 3}, [2]int{0, 2}, never}, {impl.OpLess, [2]int{2, 3}, [2]int{0, 3}, either}, {impl.OpLess, [2]int{1, 3}, [2]int{0, 2}, either},
		{impl.OpLess, [2]int{3, 4}, [2]int{0, 2}, never}, {impl.OpLess, [2]int{2, 2}, [2]int{2, 2}, never}, {impl.OpLess, [2]int{2, 2}, [2]int{3, 3}, always},
		{impl.OpLess, [2]int{3, 3}, [2]int{2, 2}, never}, {impl.OpLess, [2]int{1, 2}, [2]int{2, 2}, either}, {impl.OpLess, [2]int{1, 2}, [2]int{1, 2}, either},
		{impl.OpLess, [2]int{2, 2}, [2]int{1, 2}, never}, {impl.OpLess, [2]int{0, 3}, [2]int{0, 0}, never}, {impl.OpLess, [2]int{0, 0}, [2]int{0, 3}, either},
		{impl.OpAnd, [2]int{0, 0}, [2]int{0, 1}, never}, {impl.OpAnd, [2]int{0, 1}, [2]int{0, 0}, never}, {impl.OpAnd, [2]int{0, 0}, [2]int{2, 3}, never},
		{impl.OpAnd, [2]int{2, 3}, [2]int{0, 0}, never}, {impl.OpAnd, [2]int{0, 0}, [2]int{0, 0}, never}, {impl.OpAnd, [2]int{1, 2}, [2]int{3, 3}, always},
		{impl.OpAnd, [2]int{1, 2}, [2]int{0, 1}, either}, {impl.OpAnd, [2]int{0, 3}, [2]int{20, 20}, either}, {impl.OpAnd, [2]int{0, 1}, [2]int{0, 1}, either},
		{impl.OpOr, [2]int{0, 0}, [2]int{0, 0}, never}, {impl.OpOr, [2]int{0, 0}, [2]int{0, 1}, either}, {impl.OpOr, [2]int{0, 3}, [2]int{0, 0}, either},
		{impl.OpOr, [2]int{0, 1}, [2]int{0, 1}, either}, {impl.OpOr, [2]int{1, 2}, [2]int{0, 1}, always}, {impl.OpOr, [2]int{0, 1}, [2]int{3, 4}, always},
		{impl.OpOr, [2]int{1, 1}, [2]int{0, 0}, always}, {impl.OpOr, [2]int{0, 0}, [2]int{20, 20}, always}, {impl.OpOr, [2]int{1, 2}, [2]int{1, 2}, always},
		{impl.OpNot, [2]int{0, 0}, [2]int{1, 1}, always}, {impl.OpNot, [2]int{0, 1}, [2]int{0, 0}, either}, {impl.OpNot, [2]int{0, 3}, [2]int{2, 2}, either},
		{impl.OpNot, [2]int{1, 1}, [2]int{0, 0}, never}, {impl.OpNot, [2]int{1, 4}, [2]int{0, 0}, never}, {impl.OpNot, [2]int{20, 20}, [2]int{0, 0}, never},
	}
	for _, c := range cases {
		p := operation(c.op, c.a, c.b)
		expectRange(t, p, len(p.Exprs)-1, c.r[0], c.r[1])
	}
}

// TestRangesOfAllOperands compares the range of each operator with all values that it has for operands in their ranges.
func TestRangesOfAllOperands(t *testing.T) {
	var operands [][2]int
	for low := range impl.MaxConst + 1 {
		for high := low; high <= min(low+3, impl.MaxConst); high++ {
			operands = append(operands, [2]int{low, high})
		}
	}
	for op := impl.OpAdd; op <= impl.OpNot; op++ {
		for _, a := range operands {
			for _, b := range operands {
				p := operation(op, a, b)
				bounds := boundsByValues(p)
				expectRange(t, p, len(p.Exprs)-1, bounds[len(bounds)-1][0], bounds[len(bounds)-1][1])
			}
		}
	}
}

func TestRangeOf(t *testing.T) {
	example, all := exampleOfTyping(), everyKind()
	towers := map[int]impl.Program{}
	for op := impl.OpAdd; op <= impl.OpOr; op++ {
		towers[op] = program([]int{4}, doubling(variable(0), op, 40), 0, nil)
	}
	cases := []struct {
		p               impl.Program
		e               int
		least, greatest int
	}{
		{example, 1, 0, 2}, {example, 0, 0, 1}, {example, 2, 0, 2}, {example, 3, -1, 0}, {example, -1, -1, 0},
		{example, math.MinInt, -1, 0}, {example, math.MaxInt, -1, 0}, {program([]int{2}, nil, 0, nil), 0, -1, 0}, {impl.Program{}, 0, -1, 0},
		{program([]int{2, 3, 4}, []impl.Expr{variable(2), constant(0), constant(20)}, 0, nil), 0, 0, 3},
		{program([]int{2, 3, 4}, []impl.Expr{variable(2), constant(0), constant(20)}, 0, nil), 1, 0, 0},
		{program([]int{2, 3, 4}, []impl.Expr{variable(2), constant(0), constant(20)}, 0, nil), 2, 20, 20},
		{all, 0, 0, 1}, {all, 1, 20, 20}, {all, 2, 20, 20}, {all, 3, 19, 20}, {all, 4, 20, 20}, {all, 5, 1, 1}, {all, 6, 0, 1}, {all, 7, 0, 1},
		{all, 8, 1, 1}, {all, 9, 0, 0}, {all, 10, 0, 3},
		{towers[impl.OpAdd], 2, 0, 12}, {towers[impl.OpAdd], 3, 0, 20}, {towers[impl.OpAdd], 39, 0, 20}, {towers[impl.OpAdd], 40, -1, 0},
		{towers[impl.OpMul], 1, 0, 9}, {towers[impl.OpMul], 2, 0, 20}, {towers[impl.OpMul], 39, 0, 20}, {towers[impl.OpSub], 39, 0, 3},
		{towers[impl.OpEq], 39, 0, 1}, {towers[impl.OpLess], 39, 0, 1}, {towers[impl.OpAnd], 39, 0, 1}, {towers[impl.OpOr], 1, 0, 1},
	}
	for _, c := range cases {
		expectRange(t, c.p, c.e, c.least, c.greatest)
	}
	for i, e := range slices.Repeat([]impl.Expr{constant(1)}, 40) {
		p := program([]int{2}, append(chain(40)[:i:i], e), 0, nil)
		expectRange(t, p, i, 1, 1)
		expectRange(t, p, i+1, -1, 0)
	}
}

// usedOften returns expressions of which the last one contains variable v the given number of times.
func usedOften(v, count int) []impl.Expr {
	if count == 1 {
		return []impl.Expr{variable(v)}
	}
	exprs := usedOften(v, count/2)
	exprs = append(exprs, binary(impl.OpMul, len(exprs)-1, len(exprs)-1))
	if count%2 == 1 {
		exprs = append(exprs, binary(impl.OpLess, 0, len(exprs)-1))
	}
	return exprs
}

func TestCountUses(t *testing.T) {
	example, all := exampleOfTyping(), everyKind()
	mixed := program([]int{2, 2, 2, 2, 2}, []impl.Expr{
		variable(4), constant(4), not(0), variable(2), binary(impl.OpLess, 3, 2), variable(0), not(4), binary(impl.OpMul, 6, 6),
		binary(impl.OpEq, 1, 3), not(1), binary(impl.OpAdd, 7, 5), binary(impl.OpSub, 10, 7), binary(impl.OpOr, 11, 11),
	}, 0, nil)
	tower := program([]int{2, 2, 2}, doubling(variable(1), impl.OpOr, 40), 0, nil, observe(39))
	cases := []struct {
		p      impl.Program
		e      int
		wanted []int
	}{
		{example, 1, []int{2, 0}}, {example, 0, []int{1, 0}}, {example, 2, []int{0, 1}}, {example, 3, nil}, {example, -1, nil},
		{example, math.MinInt, nil}, {example, math.MaxInt, nil}, {impl.Program{}, 0, nil}, {program([]int{2}, nil, 0, nil), 0, nil},
		{all, 1, []int{0, 0, 0}}, {all, 3, []int{2, 0, 0}}, {all, 4, []int{4, 0, 0}}, {all, 7, []int{6, 0, 0}}, {all, 9, []int{6, 0, 0}}, {all, 10, []int{0, 0, 1}},
		{mixed, 1, []int{0, 0, 0, 0, 0}}, {mixed, 2, []int{0, 0, 0, 0, 1}}, {mixed, 4, []int{0, 0, 1, 0, 1}}, {mixed, 7, []int{0, 0, 2, 0, 2}},
		{mixed, 8, []int{0, 0, 1, 0, 0}}, {mixed, 9, []int{0, 0, 0, 0, 0}}, {mixed, 10, []int{1, 0, 2, 0, 2}}, {mixed, 11, []int{1, 0, 4, 0, 4}},
		{mixed, 12, []int{2, 0, 8, 0, 8}}, {mixed, 13, nil},
		{tower, 0, []int{0, 1, 0}}, {tower, 9, []int{0, 512, 0}}, {tower, 10, nil}, {tower, 11, nil}, {tower, 39, nil}, {tower, 40, nil},
	}
	for i, c := range cases {
		got, ok := impl.CountUses(c.p, c.e)
		if expectList(t, "uses", got, ok, c.wanted); t.Failed() {
			t.Fatalf("case %d", i)
		}
	}
}

func TestGreatestCounts(t *testing.T) {
	for _, v := range []int{0, 2} {
		for _, count := range []int{1, 2, 3, 511, 512, 999, 1000, 1001, 1002, 1500, 2000, 2001} {
			p := program([]int{2, 2, 2}, usedOften(v, count), 0, nil)
			last := len(p.Exprs) - 1
			wanted := make([]int, 3)
			wanted[v] = count
			if count > 1000 {
				wanted = nil
			}
			got, ok := impl.CountUses(p, last)
			expectList(t, "uses", got, ok, wanted)
			p.Exprs = append(p.Exprs, not(last), constant(3), binary(impl.OpSub, last+1, last+2))
			got, ok = impl.CountUses(p, last+3)
			expectList(t, "uses with more expressions", got, ok, wanted)
		}
	}
}

// TestCountsOfSeveralVars checks that the limit holds for each variable alone.
func TestCountsOfSeveralVars(t *testing.T) {
	exprs := usedOften(1, 1000)
	big := len(exprs) - 1
	exprs = append(exprs, variable(0), binary(impl.OpAnd, big, big+1))
	for e := big + 2; e < big+12; e++ {
		exprs = append(exprs, binary(impl.OpOr, big+1, e))
	}
	p := program([]int{2, 2}, append(exprs, binary(impl.OpOr, 0, big+2)), 0, nil)
	for e, wanted := range map[int][]int{big + 1: {1, 0}, big + 2: {1, 1000}, big + 12: {11, 1000}, big + 13: nil} {
		got, ok := impl.CountUses(p, e)
		expectList(t, "uses", got, ok, wanted)
	}
	both := program([]int{2, 2}, append(usedOften(0, 999), variable(1)), 0, nil)
	last := len(both.Exprs) - 1
	both.Exprs = append(both.Exprs, binary(impl.OpAnd, last, last-1), binary(impl.OpAnd, 0, last+1), binary(impl.OpAnd, 0, last+2))
	for e, wanted := range map[int][]int{last + 1: {999, 1}, last + 2: {1000, 1}, last + 3: nil} {
		got, ok := impl.CountUses(both, e)
		expectList(t, "uses", got, ok, wanted)
	}
}
