package tests

import (
	"fmt"
	"math"
	"math/big"
	"math/rand"
	"reflect"
	"slices"
	"testing"

	"loop.example/g00893/impl"
)

// valueByMemo is the reference for EvalExpr: it follows the operands from the top, and remembers the values.
func valueByMemo(exprs []impl.Expr, e int, values []int, known map[int]int) int {
	if value, ok := known[e]; ok {
		return value
	}
	x := exprs[e]
	operand := func(i int) float64 { return float64(valueByMemo(exprs, i, values, known)) }
	value := 0.0
	switch x.Op {
	case impl.OpConst:
		value = float64(x.Val)
	case impl.OpVar:
		value = float64(values[x.Val])
	case impl.OpAdd:
		value = math.Min(20, operand(x.A)+operand(x.B))
	case impl.OpSub:
		value = math.Dim(operand(x.A), operand(x.B))
	case impl.OpMul:
		value = math.Min(20, operand(x.A)*operand(x.B))
	case impl.OpEq:
		value = float64(truthOf(operand(x.A) == operand(x.B)))
	case impl.OpLess:
		value = float64(truthOf(operand(x.A) < operand(x.B)))
	case impl.OpAnd:
		value = math.Min(1, operand(x.A)*operand(x.B))
	case impl.OpOr:
		value = math.Min(1, operand(x.A)+operand(x.B))
	case impl.OpNot:
		value = math.Dim(1, operand(x.A))
	}
	known[e] = int(value)
	return known[e]
}

// run is one execution, in which the samples select the choices with the indices in picks. Those after them select a random
// choice if there is a source, and the one of the next draw, or of the draw 0, if there is none.
type run struct {
	p        impl.Program
	picks    []int
	draws    []int
	source   *rand.Rand
	sizes    []int
	chances  []*big.Rat
	values   []int
	rejected bool
	steps    int
}

// maxSteps ends an execution of nested loops that would take too long for a test.
const maxSteps = 2000

func (r *run) holds(e int) bool { return valueByMemo(r.p.Exprs, e, r.values, map[int]int{}) != 0 }

// block executes a block, and reports whether the execution goes on after it.
func (r *run) block(block []int, fuel int) bool {
	for _, i := range block {
		r.steps++
		if r.steps > maxSteps || !r.stmt(r.p.Stmts[i], fuel) {
			return false
		}
	}
	return true
}

// pick returns the index of the choice of a draw: of as many lots as the sum of the weights, each choice has its weight.
func (r *run) pick(choices []impl.Choice) int {
	if r.source != nil {
		return r.source.Intn(len(choices))
	}
	draw := 0
	if n := len(r.sizes); n < len(r.draws) {
		draw = r.draws[n]
	}
	var lots []int
	for i, c := range choices {
		lots = append(lots, slices.Repeat([]int{i}, c.Weight)...)
	}
	return lots[draw%len(lots)]
}

// sample selects one of the choices.
func (r *run) sample(s impl.Stmt) {
	if len(r.sizes) == len(r.picks) {
		r.picks = append(r.picks, r.pick(s.Choices))
	}
	selected, total := s.Choices[r.picks[len(r.sizes)]], 0
	for _, c := range s.Choices {
		total += c.Weight
	}
	r.values[s.Var] = selected.Value
	r.sizes = append(r.sizes, len(s.Choices))
	r.chances = append(r.chances, big.NewRat(int64(selected.Weight), int64(total)))
}

func (r *run) stmt(s impl.Stmt, fuel int) bool {
	switch s.Kind {
	case impl.StAssign:
		r.values[s.Var] = valueByMemo(r.p.Exprs, s.Expr, r.values, map[int]int{}) % r.p.Vars[s.Var].Size
	case impl.StSample:
		r.sample(s)
	case impl.StObserve:
		r.rejected = !r.holds(s.Expr)
		return !r.rejected
	case impl.StIf:
		if r.holds(s.Expr) {
			return r.block(s.Then, fuel)
		}
		return r.block(s.Else, fuel)
	case impl.StRepeat:
		for range s.Times {
			if !r.block(s.Then, fuel) {
				return false
			}
		}
	case impl.StWhile:
		for done := 0; r.holds(s.Expr); done++ {
			if done == s.Times || !r.block(s.Then, fuel) {
				return false
			}
		}
	case impl.StCall:
		return fuel > 0 && r.block(r.p.Procs[s.Proc].Body, fuel-1)
	}
	return true
}

// next returns the picks of the next execution, or nil after the last one.
func (r *run) next() []int {
	for at := len(r.picks) - 1; at >= 0; at-- {
		if r.picks[at]+1 < r.sizes[at] {
			r.picks[at]++
			return r.picks[:at+1]
		}
	}
	return nil
}

// pathsAndStates counts the executions and the final states, and reports whether it found them all.
func pathsAndStates(p impl.Program, limit int) (int, int, bool) {
	states := map[string]bool{}
	picks := []int{}
	for paths := 0; paths < limit; paths++ {
		r := run{p: p, picks: picks, values: make([]int, len(p.Vars))}
		if r.block(p.Body, p.Fuel) {
			states[fmt.Sprint(r.values)] = true
		}
		if r.steps > maxSteps {
			return 0, 0, false
		}
		if picks = r.next(); picks == nil {
			return paths + 1, len(states), true
		}
	}
	return 0, 0, false
}

// boundByFloats is the reference for CountPaths; it is exact wherever it is not much too large.
func boundByFloats(p impl.Program, block []int, fuel int) float64 {
	bound := 1.0
	for _, i := range block {
		s := p.Stmts[i]
		switch s.Kind {
		case impl.StSample:
			bound *= float64(len(s.Choices))
		case impl.StIf:
			bound *= boundByFloats(p, s.Then, fuel) + boundByFloats(p, s.Else, fuel)
		case impl.StRepeat:
			bound *= math.Pow(boundByFloats(p, s.Then, fuel), float64(s.Times))
		case impl.StWhile:
			sum, inner := 0.0, boundByFloats(p, s.Then, fuel)
			for n := range s.Times + 1 {
				sum += math.Pow(inner, float64(n))
			}
			bound *= sum
		case impl.StCall:
			if fuel > 0 {
				bound *= boundByFloats(p, p.Procs[s.Proc].Body, fuel-1)
			}
		}
	}
	return bound
}

func TestPromise3NumberOfPathsBoundsFinalStates(t *testing.T) {
	source := rand.New(rand.NewSource(31))
	checked, sharp, several := 0, 0, 0
	for i := range 6000 {
		p := randomProgram(source, 1+i%24)
		bound, ok := impl.CountPaths(p)
		reference := boundByFloats(p, p.Body, p.Fuel)
		if ok != (reference <= 1000000) || ok && float64(bound) != reference || !ok && bound != 0 {
			t.Fatalf("%+v: %d %v instead of %v", p, bound, ok, reference)
		}
		paths, states, all := pathsAndStates(p, 3000)
		if !ok || !all {
			continue
		}
		if paths > bound || states > bound {
			t.Fatalf("%+v: %d paths and %d states are more than %d", p, paths, states, bound)
		}
		checked++
		sharp += truthOf(states == bound)
		several += truthOf(states == bound && states > 1)
	}
	if checked < 3000 || sharp < 500 || several < 100 {
		t.Errorf("%d programs, %d with as many states as paths, %d of them with several", checked, sharp, several)
	}
}

func TestPromise3ExpressionsDependOnTheirVariablesOnly(t *testing.T) {
	source := rand.New(rand.NewSource(32))
	different := 0
	for range 3000 {
		p := randomProgram(source, 3)
		e := source.Intn(len(p.Exprs))
		vars, ok := impl.VarsOfExpr(p, e)
		if !ok || !slices.IsSorted(vars) || len(slices.Compact(slices.Clone(vars))) != len(vars) {
			t.Fatalf("%+v: variables %v %v of %d", p, vars, ok, e)
		}
		values, others := make([]int, len(p.Vars)), make([]int, len(p.Vars))
		for v := range values {
			values[v], others[v] = source.Intn(p.Vars[v].Size), source.Intn(p.Vars[v].Size)
			if slices.Contains(vars, v) {
				others[v] = values[v]
			}
		}
		a, okA := impl.EvalExpr(p, e, values)
		b, okB := impl.EvalExpr(p, e, others)
		if a != b || !okA || !okB || a != valueByMemo(p.Exprs, e, values, map[int]int{}) {
			t.Fatalf("%+v: expression %d is %d for %v and %d for %v", p, e, a, values, b, others)
		}
		different += truthOf(!slices.Equal(values, others) && len(vars) > 0)
		if found := slices.Sorted(slices.Values(slices.Compact(varsBelow(p.Exprs, e)))); !slices.Equal(vars, slices.Compact(found)) {
			t.Fatalf("%+v: variables %v instead of %v", p, vars, found)
		}
	}
	if different < 500 {
		t.Errorf("only %d expressions with other values", different)
	}
}

// varsBelow returns the variables that an expression reaches through its operands, in the order of a search.
func varsBelow(exprs []impl.Expr, e int) []int {
	var found []int
	reached := []int{e}
	for n := 0; n < len(reached); n++ {
		x := exprs[reached[n]]
		if x.Op == impl.OpVar {
			found = append(found, x.Val)
		}
		operands := []int{x.A, x.B}
		if x.Op == impl.OpNot {
			operands = operands[:1]
		}
		for _, i := range operands {
			if x.Op > impl.OpVar && !slices.Contains(reached, i) {
				reached = append(reached, i)
			}
		}
	}
	return found
}

func TestAssignedVarsAreTheOnesThatChange(t *testing.T) {
	source := rand.New(rand.NewSource(33))
	changes := 0
	for range 3000 {
		p := randomProgram(source, 12)
		block := slices.Sorted(slices.Values(p.Body))
		assigned, ok := impl.AssignedVars(p, block)
		if !ok {
			t.Fatalf("%+v: fails", p)
		}
		for _, i := range block {
			part, _ := impl.AssignedVars(p, []int{i})
			for _, v := range part {
				if !slices.Contains(assigned, v) {
					t.Fatalf("%+v: %v without %d of statement %d", p, assigned, v, i)
				}
			}
		}
		r := run{p: p, source: source, values: make([]int, len(p.Vars))}
		r.block(block, p.Fuel)
		for v, value := range r.values {
			if value != 0 && !slices.Contains(assigned, v) {
				t.Fatalf("%+v: variable %d changes", p, v)
			}
			changes += value
		}
	}
	if changes < 300 {
		t.Errorf("only %d changes", changes)
	}
}

func TestValidityAgreesWithReference(t *testing.T) {
	source := rand.New(rand.NewSource(34))
	valid := 0
	for i := range 20000 {
		p := randomProgram(source, i%25)
		if !impl.IsValidProgram(p) || !isProgramByTable(p) {
			t.Fatalf("not valid: %+v", p)
		}
		for range 1 + source.Intn(2) {
			spoil(source, &p)
		}
		want := isProgramByTable(p)
		if impl.IsValidProgram(p) != want {
			t.Fatalf("%+v: validity is not %v", p, want)
		}
		valid += truthOf(want)
		if !want {
			expectProgramFailures(t, "spoilt", p)
		}
	}
	if valid < 1000 || valid > 15000 {
		t.Errorf("%d spoilt programs are valid", valid)
	}
}

// programCalls returns the results of all functions of chapter 3 for one program.
func programCalls(p, q impl.Program, e int, values, block []int) ([]any, [][]int) {
	value, okValue := impl.EvalExpr(p, e, values)
	vars, okVars := impl.VarsOfExpr(p, e)
	assigned, okAssigned := impl.AssignedVars(p, block)
	paths, okPaths := impl.CountPaths(p)
	straight, okStraight := impl.IsStraightLine(p)
	name := ""
	if len(p.Vars) > 0 {
		name = p.Vars[0].Name
	}
	results := []any{
		value, okValue, okVars, okAssigned, paths, okPaths, straight, okStraight, fmt.Sprint(vars), fmt.Sprint(assigned),
		impl.IsValidName(name), impl.IsValidExprs(p.Exprs, len(p.Vars)), impl.IsValidExprs(p.Exprs, e), impl.IsValidProgram(p),
		impl.EqualPrograms(p, q),
	}
	return results, [][]int{vars, assigned}
}

func TestPromise33AllProgramsAreAccepted(t *testing.T) {
	programs := validPrograms()
	for _, p := range invalidPrograms() {
		programs = append(programs, p)
	}
	source := rand.New(rand.NewSource(35))
	for range 1000 {
		p := randomProgram(source, 24)
		for range source.Intn(6) {
			spoil(source, &p)
		}
		programs = append(programs, p)
	}
	ints := []int{math.MinInt, -1, 0, 1, 2, 39, 40, math.MaxInt}
	lists := [][]int{nil, {}, {0}, {1}, {0, 1}, {0, 0}, {1, 0, 1}, {-1}, {math.MinInt, math.MaxInt}, {math.MaxInt, math.MinInt}, ints, make([]int, 5)}
	for i, p := range programs {
		for j, e := range ints {
			values, block := lists[(i+j)%len(lists)], lists[(i*5+j*7)%len(lists)]
			results, _ := programCalls(p, programs[(i+j)%len(programs)], e, values, block)
			expectConsistent(t, p, e, values, block, results)
		}
	}
}

// expectConsistent checks which calls succeed, and that those that fail return zero values.
func expectConsistent(t *testing.T, p impl.Program, e int, values, block []int, results []any) {
	t.Helper()
	valid := isProgramByTable(p)
	inExprs := valid && e >= 0 && e < len(p.Exprs)
	inVars := valid && len(values) == len(p.Vars)
	for v := 0; inVars && v < len(values); v++ {
		inVars = values[v] >= 0 && values[v] < p.Vars[v].Size
	}
	increasing := valid
	for i, at := range block {
		increasing = increasing && at >= 0 && at < len(p.Stmts) && (i == 0 || at > block[i-1])
	}
	counted := valid && boundByFloats(p, p.Body, p.Fuel) <= 1000000
	wanted := []any{results[0], inExprs && inVars, inExprs, increasing, results[4], counted, results[6], valid}
	if !reflect.DeepEqual(results[:8], wanted) || results[13] != valid {
		t.Errorf("%+v with %d, %v and %v: %v instead of %v", p, e, values, block, results, wanted)
	}
	if results[1] == false && results[0] != 0 || results[2] == false && results[8] != "[]" || results[3] == false && results[9] != "[]" ||
		results[5] == false && results[4] != 0 || results[7] == false && results[6] != false {
		t.Errorf("%+v with %d, %v and %v: %v", p, e, values, block, results)
	}
}

// withSpare returns a copy of a list that has other elements in its spare capacity.
func withSpare[T any](list []T, others ...T) []T {
	return append(slices.Clone(list), others...)[:len(list)]
}

func withSpareInts(list []int) []int { return withSpare(list, 0, 1, -7) }

// programWithSpare returns a copy of a program in which all lists have spare capacity.
func programWithSpare(p impl.Program) impl.Program {
	p = clonedProgram(p)
	for i, s := range p.Stmts {
		p.Stmts[i].Choices = withSpare(s.Choices, impl.Choice{Value: 3, Weight: 3}, impl.Choice{Value: -1})
	}
	for _, block := range blocksIn(&p) {
		*block = withSpareInts(*block)
	}
	p.Vars = withSpare(p.Vars, impl.Var{Name: "y", Size: 3}, impl.Var{Name: "if"})
	p.Exprs = withSpare(p.Exprs, constant(1), binary(impl.OpAdd, 50, 60))
	p.Stmts = withSpare(p.Stmts, impl.Stmt{Kind: impl.StSkip}, impl.Stmt{Kind: 99})
	p.Procs = withSpare(p.Procs, impl.Proc{Name: "z"}, impl.Proc{})
	return p
}

// whole returns a copy of a program whose lists include their spare capacity.
func whole(p impl.Program) impl.Program {
	p.Vars, p.Exprs = p.Vars[:cap(p.Vars)], p.Exprs[:cap(p.Exprs)]
	p.Stmts, p.Procs = slices.Clone(p.Stmts[:cap(p.Stmts)]), slices.Clone(p.Procs[:cap(p.Procs)])
	for _, block := range blocksIn(&p) {
		*block = (*block)[:cap(*block)]
	}
	for i, s := range p.Stmts {
		p.Stmts[i].Choices = s.Choices[:cap(s.Choices)]
	}
	return clonedProgram(p)
}

func TestPromise33ProgramsAreNeitherModifiedNorShared(t *testing.T) {
	source := rand.New(rand.NewSource(36))
	programs := append(validPrograms(), exampleG(), impl.Program{})
	for range 1000 {
		p := randomProgram(source, 24)
		if source.Intn(4) == 0 {
			spoil(source, &p)
		}
		programs = append(programs, p)
	}
	for i, plain := range programs {
		p, q := programWithSpare(plain), programWithSpare(plain)
		values := withSpareInts(make([]int, len(p.Vars)))
		block := withSpareInts(slices.Sorted(slices.Values(p.Body)))
		before, valuesBefore, blockBefore := whole(p), slices.Clone(values[:cap(values)]), slices.Clone(block[:cap(block)])
		first, lists := programCalls(p, q, len(p.Exprs)-1, values, block)
		for _, list := range lists {
			for k := range list[:cap(list)] {
				list[:cap(list)][k] = 77
			}
		}
		if !reflect.DeepEqual(whole(p), before) || !reflect.DeepEqual(whole(q), before) {
			t.Fatalf("case %d: the program was modified, or a result shares its memory", i)
		}
		if !slices.Equal(values[:cap(values)], valuesBefore) || !slices.Equal(block[:cap(block)], blockBefore) {
			t.Fatalf("case %d: a list was modified, or a result shares its memory", i)
		}
		again, _ := programCalls(plain, q, len(p.Exprs)-1, slices.Clone(values), slices.Clone(block))
		if !reflect.DeepEqual(first, again) || first[len(first)-1] != true {
			t.Fatalf("case %d: the results depend on more than the arguments: %v and %v", i, first, again)
		}
	}
}
