package tests

import (
	"math"
	"math/rand"
	"reflect"
	"slices"
	"testing"

	"loop.example/g00893/impl"
)

// randomThriftyProgram returns a valid program in which most statements that have an expression read few variables, so
// that resources are often used affinely.
func randomThriftyProgram(source *rand.Rand, maxStmts int) impl.Program {
	p := randomProgram(source, maxStmts)
	var exprs []impl.Expr
	for v := range p.Vars {
		exprs = append(exprs, constant(v), variable(v))
	}
	few := len(exprs)
	a, b := source.Intn(few), source.Intn(few)
	p.Exprs = append(exprs, binary(impl.OpAdd, a, b), not(few), binary(impl.OpSub, few+1, source.Intn(few)))
	for i, s := range p.Stmts {
		if !hasExpression(s) {
			continue
		}
		p.Stmts[i].Expr = source.Intn(few)
		if source.Intn(5) == 0 {
			p.Stmts[i].Expr = source.Intn(len(p.Exprs))
		}
	}
	return p
}

func randomResources(source *rand.Rand, vars int) []int {
	var resources []int
	for v := range vars {
		if source.Intn(3) > 0 {
			resources = append(resources, v)
		}
	}
	return resources
}

func TestPromise5ValuesLieInTheRanges(t *testing.T) {
	source := rand.New(rand.NewSource(51))
	attained, narrow := 0, 0
	for range 2000 {
		p := randomProgram(source, 2)
		bounds := boundsByValues(p)
		values := make([]int, len(p.Vars))
		for e, bound := range bounds {
			expectRange(t, p, e, bound[0], bound[1])
			low, high, _ := impl.RangeOf(p, e)
			narrow += truthOf(low > 0 || high < 1)
			for range 4 {
				for v := range values {
					values[v] = source.Intn(p.Vars[v].Size)
				}
				value, ok := impl.EvalExpr(p, e, values)
				if !ok || value < low || value > high {
					t.Fatalf("%+v: expression %d is %d for %v, but %d to %d", p.Exprs, e, value, values, low, high)
				}
				attained += truthOf(value == high)
			}
		}
	}
	if attained < 10000 || narrow < 2000 {
		t.Errorf("%d values were the greatest, and %d ranges had no 0 or 1", attained, narrow)
	}
}

// TestPromise5AssignmentsWithoutErrorsDoNotWrap executes programs: only an assignment with ErrWraps may reduce a value.
func TestPromise5AssignmentsWithoutErrorsDoNotWrap(t *testing.T) {
	source := rand.New(rand.NewSource(52))
	wrapping, fitting := 0, 0
	for range 2000 {
		p := randomProgram(source, 8)
		faults, _ := impl.TypeErrors(p)
		values := make([]int, len(p.Vars))
		for range 10 {
			for v := range values {
				values[v] = source.Intn(p.Vars[v].Size)
			}
			for at, s := range p.Stmts {
				value := 0
				if hasExpression(s) {
					value, _ = impl.EvalExpr(p, s.Expr, values)
				}
				wraps := slices.Contains(faults, impl.TypeError{Code: impl.ErrWraps, Stmt: at, Var: s.Var})
				if s.Kind == impl.StAssign && value >= p.Vars[s.Var].Size && !wraps {
					t.Fatalf("%+v: statement %d assigns %d for %v", p, at, value, values)
				}
				wrapping += truthOf(s.Kind == impl.StAssign && wraps)
				fitting += truthOf(s.Kind == impl.StAssign && !wraps)
			}
		}
	}
	if wrapping < 1000 || fitting < 1000 {
		t.Errorf("%d assignments may wrap, and %d may not", wrapping, fitting)
	}
}

func TestCountsAgreeWithReference(t *testing.T) {
	source := rand.New(rand.NewSource(53))
	counted, tooOften := 0, 0
	for range 2000 {
		p := randomProgram(source, 2)
		for range source.Intn(4) {
			steepen(source, p.Exprs)
		}
		for e := range p.Exprs {
			wanted := usesFromTop(p, e)
			if slices.Max(wanted) > 1000 {
				wanted = nil
				tooOften++
			}
			got, ok := impl.CountUses(p, e)
			expectList(t, "uses", got, ok, wanted)
			counted += truthOf(ok && slices.Max(got) > 20)
		}
	}
	if counted < 1000 || tooOften < 200 {
		t.Errorf("%d large counts, and %d too large", counted, tooOften)
	}
}

func TestTypeErrorsAgreeWithReference(t *testing.T) {
	source := rand.New(rand.NewSource(54))
	var codes [4]int
	none := 0
	for i := range 6000 {
		p := randomProgram(source, 1+i%24)
		if i%2 == 0 {
			p = randomThriftyProgram(source, 1+i%24)
		}
		wanted := errorsByTable(p)
		expectErrors(t, "random program", p, wanted...)
		for _, fault := range wanted {
			codes[fault.Code]++
		}
		none += truthOf(len(wanted) == 0)
		unread, ok := impl.UnreadVars(p)
		expectList(t, "unread", unread, ok, unreadByTable(p))
	}
	if min(codes[1], codes[2], codes[3]) < 500 || none < 300 {
		t.Errorf("%v errors, and %d programs without", codes, none)
	}
}

// affineCounts tells how many programs of each kind a test has seen.
type affineCounts struct {
	programs, affine, misused, consumed, ended, unreached, others int
}

func (c *affineCounts) add(p impl.Program, seen uses, resources []int) {
	misuse := seen.misuseOf(resources)
	c.programs++
	c.affine += truthOf(misuse == nil && len(resources) > 0 && len(seen.consumedOf(resources)) > 0)
	c.misused += truthOf(misuse != nil)
	c.consumed += truthOf(len(seen.consumedOf(resources)) > 0)
	c.ended += truthOf(misuse != nil && len(seen.consumedOf(resources)) == 0)
	c.unreached += truthOf(len(seen.reached) < len(p.Stmts))
	c.others += truthOf(misuse != nil && misuse[1] != resources[0])
}

func TestPromise5ResourcesAreAffineExactlyWithoutMisuse(t *testing.T) {
	source := rand.New(rand.NewSource(55))
	var counts affineCounts
	for i := range 12000 {
		p := randomThriftyProgram(source, 4+i%21)
		if i%4 == 0 {
			p = randomProgram(source, 1+i%12)
		}
		seen, ok := usesOnPaths(p, 1500)
		if !ok {
			continue
		}
		resources := randomResources(source, len(p.Vars))
		expectMisuse(t, "random program", p, resources, seen.misuseOf(resources), seen.consumedOf(resources))
		alone := []int{}
		for v := range p.Vars {
			expectMisuse(t, "one variable", p, []int{v}, seen.misuseOf([]int{v}), seen.consumedOf([]int{v}))
			if seen.misuseOf([]int{v}) == nil {
				alone = append(alone, v)
			}
		}
		vars, ok := impl.AffineVars(p)
		expectList(t, "affine variables", vars, ok, alone)
		if t.Failed() {
			t.Fatalf("%+v", p)
		}
		counts.add(p, seen, resources)
	}
	if counts.programs < 8000 || min(counts.affine, counts.misused, counts.consumed, counts.ended, counts.unreached, counts.others) < 300 {
		t.Errorf("too few programs: %+v", counts)
	}
}

// typingCalls returns the results of all functions of chapter 5.
func typingCalls(p impl.Program, e int, resources []int) []any {
	low, high, okRange := impl.RangeOf(p, e)
	counts, okCounts := impl.CountUses(p, e)
	faults, okFaults := impl.TypeErrors(p)
	affine, okAffine := impl.IsAffine(p, resources)
	stmt, v, okMisuse := impl.FirstMisuse(p, resources)
	consumed, okConsumed := impl.ConsumedAfter(p, resources)
	vars, okVars := impl.AffineVars(p)
	unread, okUnread := impl.UnreadVars(p)
	return []any{[2]int{low, high}, okRange, counts, okCounts, faults, okFaults, affine, okAffine, [2]int{stmt, v}, okMisuse,
		consumed, okConsumed, vars, okVars, unread, okUnread}
}

// expectTypingConsistent checks which calls succeed, and that those that fail return zero values.
func expectTypingConsistent(t *testing.T, p impl.Program, e int, resources []int) {
	t.Helper()
	results := typingCalls(p, e, resources)
	valid := isProgramByTable(p)
	okExpr, okResources := valid && e >= 0 && e < len(p.Exprs), valid
	for i, v := range resources {
		okResources = okResources && v >= 0 && v < len(p.Vars) && (i == 0 || v > resources[i-1])
	}
	okCounts := okExpr && slices.Max(usesFromTop(p, e)) <= 1000
	okMisuse := okResources && results[6] == false
	wanted := []bool{okExpr, okCounts, valid, okResources, okMisuse, okResources, valid, valid}
	zeros := []any{[2]int{}, []int(nil), []impl.TypeError(nil), false, [2]int{}, []int(nil), []int(nil), []int(nil)}
	for i, ok := range wanted {
		if results[2*i+1] != ok || !ok && !reflect.DeepEqual(results[2*i], zeros[i]) {
			t.Fatalf("function %d, success %v: %d and %.60v of %+v: %v", i, ok, e, resources, p, results[2*i])
		}
	}
}

func TestPromise33TypingAcceptsAllArguments(t *testing.T) {
	programs := append(validPrograms(), programOfAll(), ladder(), exampleOfTyping())
	for _, p := range invalidPrograms() {
		programs = append(programs, p)
	}
	source := rand.New(rand.NewSource(56))
	for i := range 1000 {
		p := randomProgram(source, 24)
		if i%2 == 0 {
			p = randomThriftyProgram(source, 24)
		}
		for range source.Intn(6) {
			spoil(source, &p)
		}
		programs = append(programs, p)
	}
	ints := []int{math.MinInt, -1, 0, 1, 2, 39, 40, math.MaxInt}
	lists := [][]int{nil, {}, {0}, {1}, {0, 1}, {0, 0}, {1, 0, 1}, {-1}, {0, 1, 2, 3, 4}, {math.MinInt, math.MaxInt}, {math.MaxInt, math.MinInt}, ints, make([]int, 5)}
	for i, p := range programs {
		for j, e := range ints {
			expectTypingConsistent(t, p, e, lists[(i*5+j*7)%len(lists)])
		}
		expectTypingConsistent(t, p, len(p.Exprs)-1, lists[i%5])
	}
}

func TestPromise33TypingNeitherModifiesNorShares(t *testing.T) {
	source := rand.New(rand.NewSource(57))
	programs := append(validPrograms(), exampleG(), exampleOfTyping(), programOfAll(), impl.Program{})
	for i := range 1500 {
		p := randomThriftyProgram(source, 24)
		if i%3 == 0 {
			p = randomProgram(source, 24)
		}
		if source.Intn(5) == 0 {
			spoil(source, &p)
		}
		programs = append(programs, p)
	}
	for i, plain := range programs {
		p, resources := programWithSpare(plain), withSpareInts(randomResources(source, len(plain.Vars)))
		before, resourcesBefore := whole(p), slices.Clone(resources[:cap(resources)])
		results := typingCalls(p, len(p.Exprs)-1, resources)
		first := describe(results)
		expectUnshared(t, results, overwrite)
		if !reflect.DeepEqual(whole(p), before) || !slices.Equal(resources[:cap(resources)], resourcesBefore) {
			t.Fatalf("case %d: an argument was modified, or a result shares its memory", i)
		}
		again := describe(typingCalls(plain, len(p.Exprs)-1, slices.Clone(resources)))
		if again != first {
			t.Fatalf("case %d: the results depend on more than the arguments: %s and %s", i, first, again)
		}
	}
}
