package tests

import (
	"fmt"
	"maps"
	"math"
	"math/big"
	"math/rand"
	"reflect"
	"slices"
	"testing"

	"loop.example/g00893/impl"
)

// randomFactors calls check with random valid lists of factors of few variables.
func randomFactors(seed int64, count int, check func(source *rand.Rand, factors []impl.Factor)) {
	source := rand.New(rand.NewSource(seed))
	for range count {
		sizes, number := randomSizes(source, 2+source.Intn(3)), numbersFrom(source)
		names := slices.Sorted(slices.Values(source.Perm(10)[:1+source.Intn(7)]))
		var factors []impl.Factor
		for range 1 + source.Intn(5) {
			factors = append(factors, renamed(randomFactor(source, sizes[:len(names)], 4, number), names))
		}
		check(source, factors)
	}
}

// renamed gives the variables of a factor other numbers, which must increase.
func renamed(f impl.Factor, names []int) impl.Factor {
	var vars []int
	for _, v := range f.Vars {
		vars = append(vars, names[v])
	}
	f.Vars = vars
	return f
}

// randomOrder returns some of the variables of factors in any order, and sometimes other or repeated numbers.
func randomOrder(source *rand.Rand, factors []bigFactor) []int {
	vars := bigFactor{sizes: jointSizes(factors)}.vars()
	source.Shuffle(len(vars), func(i, k int) { vars[i], vars[k] = vars[k], vars[i] })
	order := vars[:source.Intn(len(vars)+1)]
	if source.Intn(8) == 0 {
		order = slices.Insert(order, source.Intn(len(order)+1), source.Intn(10))
	}
	return order
}

// expectBigFactor checks a result against one of a reference.
func expectBigFactor(t *testing.T, what string, got impl.Factor, ok bool, wanted impl.Factor, exists bool) {
	t.Helper()
	text := fails
	if exists {
		text = textOfFactor(wanted)
	}
	expectFactor(t, what, got, ok, text)
}

func TestEliminationsAgreeWithReference(t *testing.T) {
	succeeded, failed, wide := 0, 0, 0
	randomFactors(132, 1500, func(source *rand.Rand, factors []impl.Factor) {
		list := bigFactorsOf(t, factors)
		order := randomOrder(source, list)
		what := fmt.Sprint(factors, order)
		f, ok := impl.Eliminate(factors, order)
		wanted, exists := eliminatedByReference(list, order)
		expectBigFactor(t, what, f, ok, wanted, exists)
		width, okWidth := impl.EliminationWidth(factors, order)
		expectInt(t, what, width, okWidth, widthByReference(list, order))
		keep := slices.Sorted(slices.Values(source.Perm(10)[:source.Intn(10)*source.Intn(2)]))
		least, okLeast := impl.MinDegreeOrder(factors, keep)
		expectList(t, what, least, okLeast, minDegreeByReference(list, keep))
		if t.Failed() {
			t.FailNow()
		}
		succeeded += truthOf(ok)
		failed += truthOf(!ok)
		wide += truthOf(width > 4)
	})
	if min(succeeded, failed, wide) < 40 {
		t.Errorf("%d succeeded, %d failed, %d wide", succeeded, failed, wide)
	}
}

// TestFactorChangesAgreeWithReference checks the functions that take one or two factors.
func TestFactorChangesAgreeWithReference(t *testing.T) {
	succeeded, failed := 0, 0
	randomFactors(133, 500, func(source *rand.Rand, factors []impl.Factor) {
		a, b := factors[0], factors[len(factors)-1]
		x, y := bigFactorOf(t, a), bigFactorOf(t, b)
		both, ok := impl.MultiplyFactors(a, b)
		product, exists := eliminatedByReference([]bigFactor{x, y}, nil)
		expectBigFactor(t, "product", both, ok, product, exists)
		for v := range 10 {
			sum, okSum := impl.SumOut(a, v)
			wanted, exists := eliminatedByReference([]bigFactor{x}, []int{v})
			expectBigFactor(t, "sum", sum, okSum, wanted, exists)
			for value := range 5 {
				part, ok := impl.RestrictFactor(a, v, value)
				wanted, exists := restrictedByReference(x, v, value)
				expectBigFactor(t, "restriction", part, ok, wanted, exists)
			}
		}
		for i, setting := range settingsOf(x.sizes) {
			var assignment []int
			for _, v := range a.Vars {
				assignment = append(assignment, setting[v])
			}
			entry, ok := impl.FactorAt(a, assignment)
			expectRat(t, "entry", entry, ok, textOfRat(a.Table[i]))
		}
		normal, okNormal := impl.NormalizeFactor(a)
		wanted, exists := normalizedByReference(x)
		expectBigFactor(t, "normalized", normal, okNormal, wanted, exists)
		if t.Failed() {
			t.Fatal(textOfFactor(a), textOfFactor(b))
		}
		succeeded += truthOf(ok && okNormal && len(a.Vars) > 0)
		failed += truthOf(!ok || !okNormal)
	})
	if min(succeeded, failed) < 20 {
		t.Errorf("%d succeeded, %d failed", succeeded, failed)
	}
}

// restrictedByReference is the reference for RestrictFactor.
func restrictedByReference(b bigFactor, v, value int) (impl.Factor, bool) {
	if value >= b.sizes[v] {
		return impl.Factor{}, false
	}
	indicator := bigFactor{map[int]int{v: b.sizes[v]}, map[string]*big.Rat{}}
	for other := range b.sizes[v] {
		indicator.entries[fmt.Sprint(other)] = big.NewRat(int64(truthOf(other == value)), 1)
	}
	return summed([]bigFactor{b, indicator}, func(w int) bool { return w != v }).factor()
}

// normalizedByReference is the reference for NormalizeFactor.
func normalizedByReference(b bigFactor) (impl.Factor, bool) {
	sum := summed([]bigFactor{b}, func(int) bool { return false }).entries[""]
	if sum.Sign() == 0 {
		return impl.Factor{}, false
	}
	share := bigFactor{map[int]int{}, map[string]*big.Rat{"": new(big.Rat).Inv(sum)}}
	return summed([]bigFactor{b, share}, func(int) bool { return true }).factor()
}

func TestRandomFactorsOfStates(t *testing.T) {
	source := rand.New(rand.NewSource(134))
	succeeded := 0
	for range 600 {
		list := randomStates(source)
		var sizes []int
		for v := range list[0].Values {
			greatest := 1
			for _, w := range list {
				greatest = max(greatest, w.Values[v])
			}
			sizes = append(sizes, max(2, min(4, greatest+1+(source.Intn(8)-4)/3)))
		}
		b := bigFactor{map[int]int{}, map[string]*big.Rat{}}
		for v, size := range sizes {
			b.sizes[v] = size
		}
		for _, setting := range settingsOf(b.sizes) {
			b.entries[digitsOf(setting, b.vars())] = new(big.Rat)
		}
		fit := true
		for _, w := range list {
			digits := ""
			for v, value := range w.Values {
				digits += fmt.Sprint(value)
				fit = fit && value < sizes[v]
			}
			b.entries[digits] = bigOfRat(t, w.Mass)
		}
		wanted, exists := b.factor()
		f, ok := impl.FactorOfStates(sizes, list)
		expectBigFactor(t, fmt.Sprint(sizes, list), f, ok, wanted, exists && fit)
		succeeded += truthOf(ok)
	}
	if succeeded < 100 || succeeded > 500 {
		t.Errorf("%d succeeded", succeeded)
	}
}

// TestPromise12EliminationYieldsTheSameFactorForEveryOrder tries all orders of the same variables.
func TestPromise12EliminationYieldsTheSameFactorForEveryOrder(t *testing.T) {
	compared, partly := 0, 0
	randomFactors(135, 500, func(source *rand.Rand, factors []impl.Factor) {
		vars := bigFactor{sizes: jointSizes(bigFactorsOf(t, factors))}.vars()
		source.Shuffle(len(vars), func(i, k int) { vars[i], vars[k] = vars[k], vars[i] })
		vars = vars[:min(source.Intn(5), len(vars))]
		results, failures := map[string]bool{}, 0
		for _, permutation := range allOrders(len(vars)) {
			var order []int
			for _, k := range permutation {
				order = append(order, vars[k])
			}
			for _, list := range [][]impl.Factor{factors, shuffledFactors(source, factors)} {
				if f, ok := impl.Eliminate(list, order); ok {
					results[textOfFactor(f)] = true
				} else {
					failures++
				}
			}
		}
		if len(results) > 1 {
			t.Fatalf("%v without %v: %v", factors, vars, results)
		}
		compared += truthOf(len(results) == 1 && len(vars) > 1)
		partly += truthOf(len(results) == 1 && failures > 0)
	})
	if compared < 150 {
		t.Errorf("%d compared, %d that fail for some orders", compared, partly)
	}
}

func shuffledFactors(source *rand.Rand, factors []impl.Factor) []impl.Factor {
	shuffled := slices.Clone(factors)
	source.Shuffle(len(shuffled), func(i, k int) { shuffled[i], shuffled[k] = shuffled[k], shuffled[i] })
	return shuffled
}

// TestPromise12OfSteps compares an elimination with products and sums of single factors, and one that follows
// MinDegreeOrder with one that goes through the variables in order.
func TestPromise12OfSteps(t *testing.T) {
	compared, least := 0, 0
	randomFactors(136, 800, func(source *rand.Rand, factors []impl.Factor) {
		all, ok := factors[0], true
		for _, f := range factors[1:] {
			if ok {
				all, ok = impl.MultiplyFactors(all, f)
			}
		}
		vars := bigFactor{sizes: jointSizes(bigFactorsOf(t, factors))}.vars()
		order := slices.Clone(vars[:source.Intn(len(vars)+1)])
		left := all
		for _, v := range order {
			if ok {
				left, ok = impl.SumOut(left, v)
			}
		}
		if f, okAll := impl.Eliminate(factors, order); ok && (!okAll || !impl.EqualFactors(f, left)) {
			t.Fatalf("%v without %v: %s and %s", factors, order, textOfFactor(left), textOfFactor(f))
		}
		compared += truthOf(ok && len(order) > 0)
		keep := vars[len(order):]
		other, _ := impl.MinDegreeOrder(factors, keep)
		f, okLeast := impl.Eliminate(factors, other)
		if ok && okLeast && !impl.EqualFactors(f, left) {
			t.Fatalf("%v without %v: %s and %s", factors, other, textOfFactor(left), textOfFactor(f))
		}
		least += truthOf(ok && okLeast && !slices.Equal(order, other))
	})
	if min(compared, least) < 60 {
		t.Errorf("%d compared, %d with another order", compared, least)
	}
}

func TestPromise12SummingOutEqualsAddingRestrictions(t *testing.T) {
	compared, failed := 0, 0
	randomFactors(137, 600, func(source *rand.Rand, factors []impl.Factor) {
		f := factors[0]
		for i, v := range f.Vars {
			sum, ok := impl.SumOut(f, v)
			if !ok {
				failed++
				continue
			}
			var parts []impl.Factor
			for value := range f.Sizes[i] {
				part, ok := impl.RestrictFactor(f, v, value)
				if !ok || !slices.Equal(part.Vars, sum.Vars) || !slices.Equal(part.Sizes, sum.Sizes) {
					t.Fatalf("%s with %d = %d: %s", textOfFactor(f), v, value, textOfFactor(part))
				}
				parts = append(parts, part)
			}
			for at, entry := range sum.Table {
				var list []impl.Rat
				for _, part := range parts {
					list = append(list, part.Table[at])
				}
				if total, ok := impl.SumRats(list); ok && total != entry || !ok {
					t.Fatalf("%s without %d: %+v instead of %+v", textOfFactor(f), v, entry, total)
				}
			}
			compared++
		}
	})
	if compared < 300 || failed < 10 {
		t.Errorf("%d compared, %d failed", compared, failed)
	}
}

// factorArguments are arguments of the functions of chapter 12.
type factorArguments struct {
	factors    []impl.Factor
	a, b       impl.Factor
	assignment []int
	sizes      []int
	states     []impl.Weighted
	v, value   int
	order      []int
	keep       []int
}

// factorCalls returns the results of all functions of chapter 12, each list of them followed by whether the call succeeded.
func factorCalls(x factorArguments) [][]any {
	entry, okEntry := impl.FactorAt(x.a, x.assignment)
	states, okStates := impl.FactorOfStates(x.sizes, x.states)
	both, okBoth := impl.MultiplyFactors(x.a, x.b)
	sum, okSum := impl.SumOut(x.a, x.v)
	part, okPart := impl.RestrictFactor(x.a, x.v, x.value)
	normal, okNormal := impl.NormalizeFactor(x.a)
	left, okLeft := impl.Eliminate(x.factors, x.order)
	width, okWidth := impl.EliminationWidth(x.factors, x.order)
	least, okLeast := impl.MinDegreeOrder(x.factors, x.keep)
	return [][]any{
		{impl.IsValidFactor(x.a)}, {impl.EqualFactors(x.a, x.b)}, {entry, okEntry}, {states, okStates}, {both, okBoth}, {sum, okSum}, {part, okPart},
		{normal, okNormal}, {left, okLeft}, {width, okWidth}, {least, okLeast},
	}
}

// isFactorByTable reports whether a factor is valid.
func isFactorByTable(t *testing.T, f impl.Factor) bool {
	t.Helper()
	sizes := map[int]int{}
	for i, v := range f.Vars {
		if v < 0 || v > 9 || i > 0 && v <= f.Vars[i-1] || len(f.Sizes) != len(f.Vars) || f.Sizes[i] < 2 || f.Sizes[i] > 4 {
			return false
		}
		sizes[v] = f.Sizes[i]
	}
	for _, r := range f.Table {
		if !isNumber(r) || r.Neg {
			return false
		}
	}
	return len(f.Sizes) == len(f.Vars) && fits(sizes) && len(f.Table) == len(settingsOf(sizes))
}

// areFactorsByTable reports whether a list of factors is valid.
func areFactorsByTable(t *testing.T, factors []impl.Factor) bool {
	t.Helper()
	sizes := map[int]int{}
	for _, f := range factors {
		if !isFactorByTable(t, f) {
			return false
		}
		for i, v := range f.Vars {
			if sizes[v] != 0 && sizes[v] != f.Sizes[i] {
				return false
			}
			sizes[v] = f.Sizes[i]
		}
	}
	return len(factors) >= 1 && len(factors) <= 12
}

// factorSuccesses returns which calls must succeed. The numbers of the factors must be so short that no result exceeds the
// limit.
func factorSuccesses(t *testing.T, x factorArguments) []bool {
	t.Helper()
	okA, okPair, okList := isFactorByTable(t, x.a), areFactorsByTable(t, []impl.Factor{x.a, x.b}), areFactorsByTable(t, x.factors)
	at := slices.Index(x.a.Vars, x.v)
	okEntry := okA && len(x.assignment) == len(x.a.Vars)
	for i, value := range x.assignment {
		okEntry = okEntry && value >= 0 && value < x.a.Sizes[i]
	}
	okSum := okA && slices.ContainsFunc(x.a.Table, func(r impl.Rat) bool { return r != zeroRat })
	okBoth, okOrder, okLeft := okPair && fits(jointSizes(bigFactorsOf(t, []impl.Factor{x.a, x.b}))), false, false
	if okList {
		list := bigFactorsOf(t, x.factors)
		okOrder = isOrderByReference(list, x.order)
		okLeft = okOrder && !slices.ContainsFunc(clusters(list, x.order), func(cluster map[int]int) bool { return !fits(cluster) })
	}
	okKeep := slices.IsSorted(x.keep) && len(slices.Compact(slices.Clone(x.keep))) == len(x.keep)
	for _, v := range x.keep {
		okKeep = okKeep && v >= 0 && v <= 9
	}
	okPart := okA && at >= 0 && x.value >= 0 && x.value < x.a.Sizes[at]
	return []bool{okA, impl.EqualFactors(x.a, x.b), okEntry, areStatesFor(t, x.sizes, x.states), okBoth, okA && at >= 0, okPart, okSum, okLeft, okOrder, okList && okKeep}
}

// areStatesFor reports whether FactorOfStates must succeed.
func areStatesFor(t *testing.T, sizes []int, states []impl.Weighted) bool {
	t.Helper()
	bySize := map[int]int{}
	for v, size := range sizes {
		if size < 2 || size > 4 {
			return false
		}
		bySize[v] = size
	}
	for _, w := range states {
		if len(w.Values) != len(sizes) {
			return false
		}
		for v, value := range w.Values {
			if value >= sizes[v] {
				return false
			}
		}
	}
	return fits(bySize) && isListByTable(t, states)
}

// expectFactorsConsistent checks which calls succeed, and that those that fail return zero values.
func expectFactorsConsistent(t *testing.T, x factorArguments) []bool {
	t.Helper()
	wanted := factorSuccesses(t, x)
	for i, results := range factorCalls(x) {
		last := len(results) - 1
		if results[last] != wanted[i] {
			t.Fatalf("function %d, success %v: %+v: %v", i, wanted[i], x, results)
		}
		for _, result := range results[:last] {
			if f, isFactor := result.(impl.Factor); !wanted[i] && !reflect.ValueOf(result).IsZero() || wanted[i] && isFactor && !isFactorByTable(t, f) {
				t.Fatalf("function %d: %+v: %v", i, x, results)
			}
		}
	}
	return wanted
}

// randomFactorArguments returns arguments that are valid or nearly so, with short numbers.
func randomFactorArguments(source *rand.Rand, lists [][]impl.Weighted) factorArguments {
	sizes := randomSizes(source, 2+source.Intn(3))
	number := func() *big.Rat { return big.NewRat(int64(source.Intn(4)), int64(1+source.Intn(3))) }
	x := factorArguments{v: source.Intn(8) - 1, value: source.Intn(4), states: lists[source.Intn(len(lists))]}
	for range 1 + source.Intn(4) {
		x.factors = append(x.factors, randomFactor(source, sizes[:7], 3, number))
	}
	x.a, x.b = x.factors[0], x.factors[len(x.factors)-1]
	for _, size := range x.a.Sizes {
		x.assignment = append(x.assignment, source.Intn(size))
	}
	x.sizes = randomSizes(source, 4)[:source.Intn(7)]
	if len(x.states) > 0 && source.Intn(8) > 0 {
		x.sizes = slices.Repeat([]int{4}, len(x.states[0].Values))
	}
	if len(x.a.Vars) > 0 && source.Intn(3) > 0 {
		x.v = x.a.Vars[source.Intn(len(x.a.Vars))]
	}
	x.order = source.Perm(8)[:source.Intn(4)]
	x.keep = slices.Sorted(slices.Values(source.Perm(10)[:source.Intn(11)]))
	spoilFactors(source, &x)
	return x
}

// spoilFactors makes one of the arguments invalid in half of all cases.
func spoilFactors(source *rand.Rand, x *factorArguments) {
	lists := []*[]int{&x.assignment, &x.sizes, &x.order, &x.keep, &x.a.Vars, &x.a.Sizes}
	number := []int{math.MinInt, -1, 0, 1, 2, 3, 4, 5, 9, 10, math.MaxInt}[source.Intn(11)]
	switch at := source.Intn(16); {
	case at < len(lists):
		*lists[at] = slices.Clone(*lists[at])
		if list := *lists[at]; len(list) > 0 && source.Intn(4) > 0 {
			list[source.Intn(len(list))] = number
		} else {
			*lists[at] = append(list, number)
		}
	case at == 6:
		x.a.Table = slices.Clone(x.a.Table)
		others := append(invalidRats(), impl.Rat{Neg: true, Num: "1", Den: "2"})
		x.a.Table[source.Intn(len(x.a.Table))] = others[source.Intn(len(others))]
	case at == 7:
		x.a.Table = x.a.Table[:source.Intn(len(x.a.Table))]
	case at == 8:
		x.v, x.value = number, []int{0, -1, math.MaxInt, math.MinInt}[source.Intn(4)]
	case at == 9:
		x.factors = slices.Repeat(x.factors, source.Intn(6))
	}
	if len(x.factors) > 0 {
		x.factors[0] = x.a
	}
}

func TestPromise33FactorsAcceptAllArguments(t *testing.T) {
	source := rand.New(rand.NewSource(138))
	lists := append(validLists(t), nil, nil)
	for _, what := range slices.Sorted(maps.Keys(invalidLists(t))) {
		lists = append(lists, invalidLists(t)[what])
	}
	lists = slices.DeleteFunc(lists, func(list []impl.Weighted) bool { return len(list) > 100 })
	succeeded := map[int]int{}
	for range 3000 {
		for function, ok := range expectFactorsConsistent(t, randomFactorArguments(source, lists)) {
			succeeded[function] += truthOf(ok)
		}
	}
	for function := range 11 {
		if succeeded[function] < 300 || succeeded[function] > 2900 {
			t.Errorf("function %d succeeded %d times", function, succeeded[function])
		}
	}
	for _, f := range invalidFactors(t) {
		expectFactorsConsistent(t, factorArguments{factors: []impl.Factor{f}, a: f, b: factorOf(t, "= 1"), sizes: f.Sizes, order: f.Vars, keep: f.Vars})
	}
	expectFactorsConsistent(t, factorArguments{})
}

// factorWithSpare returns a copy of a factor whose lists have spare capacity.
func factorWithSpare(f impl.Factor) impl.Factor {
	return impl.Factor{Vars: withSpareInts(f.Vars), Sizes: withSpareInts(f.Sizes), Table: withSpare(f.Table, impl.Rat{Num: "1", Den: "7"}, impl.Rat{Num: "7"})}
}

// factorArgumentsWithSpare returns a copy of arguments all of whose lists have spare capacity.
func factorArgumentsWithSpare(x factorArguments) factorArguments {
	var factors []impl.Factor
	for _, f := range x.factors {
		factors = append(factors, factorWithSpare(f))
	}
	var states []impl.Weighted
	for _, w := range x.states {
		states = append(states, impl.Weighted{Values: withSpareInts(w.Values), Mass: w.Mass})
	}
	x.factors, x.states = withSpare(factors, factorWithSpare(x.a), impl.Factor{}), withSpare(states, impl.Weighted{Values: []int{3}})
	x.a, x.b = factorWithSpare(x.a), factorWithSpare(x.b)
	x.assignment, x.sizes, x.order, x.keep = withSpareInts(x.assignment), withSpareInts(x.sizes), withSpareInts(x.order), withSpareInts(x.keep)
	return x
}

// wholeFactors returns copies of factors whose lists include their spare capacity.
func wholeFactors(factors []impl.Factor) []impl.Factor {
	var all []impl.Factor
	for _, f := range factors[:cap(factors)] {
		all = append(all, impl.Factor{Vars: slices.Clone(f.Vars[:cap(f.Vars)]), Sizes: slices.Clone(f.Sizes[:cap(f.Sizes)]), Table: slices.Clone(f.Table[:cap(f.Table)])})
	}
	return all
}

// wholeFactorArguments returns copies of all lists of arguments, which include their spare capacity.
func wholeFactorArguments(x factorArguments) []any {
	var values [][]int
	for _, w := range x.states[:cap(x.states)] {
		values = append(values, slices.Clone(w.Values[:cap(w.Values)]))
	}
	for _, list := range [][]int{x.assignment, x.sizes, x.order, x.keep} {
		values = append(values, slices.Clone(list[:cap(list)]))
	}
	return []any{wholeFactors(x.factors), wholeFactors([]impl.Factor{x.a, x.b}), values}
}

// memoryOfFactors returns the memory of the lists of results.
func memoryOfFactors(results []any) []span {
	spans := memoryOfCounts(results)
	for _, result := range results {
		if f, ok := result.(impl.Factor); ok {
			spans = append(spans, spanOf(f.Vars), spanOf(f.Sizes), spanOf(f.Table))
		}
	}
	return slices.DeleteFunc(spans, func(s span) bool { return s.start == s.end })
}

// overwriteFactors changes the lists of a result of chapter 12, with their spare capacity.
func overwriteFactors(result any) {
	if f, ok := result.(impl.Factor); ok {
		fill(f.Vars, 77)
		fill(f.Sizes, 77)
		fill(f.Table, impl.Rat{Num: "77"})
		return
	}
	overwriteCounts(result)
}

func TestPromise33FactorsNeitherModifiesNorShares(t *testing.T) {
	source := rand.New(rand.NewSource(139))
	lists := append(validLists(t)[3:], nil)
	for i := range 1500 {
		x := randomFactorArguments(source, lists)
		spare := factorArgumentsWithSpare(x)
		before := wholeFactorArguments(spare)
		calls := slices.Concat(factorCalls(spare)...)
		first := describe(calls)
		var arguments []any
		for _, f := range append(spare.factors[:len(spare.factors):len(spare.factors)], spare.a, spare.b) {
			arguments = append(arguments, f)
		}
		for _, list := range [][]int{spare.assignment, spare.sizes, spare.order, spare.keep} {
			arguments = append(arguments, list)
		}
		expectApart(t, fmt.Sprint("case ", i), memoryOfFactors(calls), memoryOfFactors(arguments))
		expectUnshared(t, calls, overwriteFactors)
		if !reflect.DeepEqual(before, wholeFactorArguments(spare)) {
			t.Fatalf("case %d: an argument was modified, or a result shares its memory", i)
		}
		if again := describe(slices.Concat(factorCalls(x)...)); again != first {
			t.Fatalf("case %d: the results depend on more than the arguments: %s and %s", i, first, again)
		}
	}
}
