package tests

import (
	"fmt"
	"math"
	"math/big"
	"math/rand"
	"reflect"
	"slices"
	"strings"
	"testing"

	"loop.example/g00893/impl"
)

// randomChances returns probabilities of small or large numbers, often 0 or 1 and often equal ones.
func randomChances(source *rand.Rand, levels int) chances {
	kind := source.Intn(5)
	c := chances{}
	for range levels {
		chance := big.NewRat(int64(source.Intn(5)), 4)
		switch {
		case kind == 1:
			den := 1 + source.Intn(40)
			chance.SetFrac64(int64(source.Intn(den+1)), int64(den))
		case kind == 2:
			chance.SetFrac64(int64(1+levels%3), 4)
		case kind >= 3 && source.Intn(3) > 0:
			if _, x := randomRat(source); x.Sign() != 0 {
				// Of a number and its inverse, one is at most 1.
				if x.Abs(x); x.Cmp(big.NewRat(1, 1)) > 0 {
					x.Inv(x)
				}
				chance = x
			}
		}
		c = append(c, chance)
	}
	return c
}

// randomCounts calls check with three random diagrams, their tables, and probabilities.
func randomCounts(seed int64, count, most int, check func(source *rand.Rand, c chances, diagrams []impl.Diagram, tables []string)) {
	randomDiagrams(seed, count, most, func(source *rand.Rand, levels int, diagrams []impl.Diagram, tables []string) {
		check(source, randomChances(source, levels), diagrams, tables)
	})
}

func TestWeightedCountsAgreeWithReference(t *testing.T) {
	within, beyond, certain := 0, 0, 0
	randomCounts(111, 900, 6, func(source *rand.Rand, c chances, diagrams []impl.Diagram, tables []string) {
		expectWeighted(t, c, tables[0])
		expectConditional(t, c, tables[0], tables[1])
		expectConditional(t, c, tables[2], combinedTable(impl.BoolOr, tables[2], tables[1]))
		count, ok := ratOfBig(c.count(tables[0]))
		within += truthOf(ok && len(count.Den) > 20)
		beyond += truthOf(!ok)
		certain += truthOf(ok && len(count.Den) == 1)
		if t.Failed() {
			t.FailNow()
		}
	})
	if within < 40 || min(beyond, certain) < 80 {
		t.Errorf("%d long counts, %d beyond the limit, %d of 0 or 1", within, beyond, certain)
	}
}

func TestWeightedCountsOfManyLevels(t *testing.T) {
	randomCounts(112, 110, 10, func(source *rand.Rand, c chances, diagrams []impl.Diagram, tables []string) {
		if len(c) < 7 {
			return
		}
		expectWeighted(t, c, tables[0])
		expectConditional(t, c, tables[0], tables[1])
		if t.Failed() {
			t.FailNow()
		}
	})
}

func TestOrdersAgreeWithReference(t *testing.T) {
	better, same := 0, 0
	randomCounts(113, 240, 5, func(source *rand.Rand, c chances, diagrams []impl.Diagram, tables []string) {
		levels := len(c)
		expectReordered(t, levels, tables[0], source.Perm(levels))
		expectBestOrder(t, levels, tables[0])
		order, nodes, _ := impl.BestOrder(diagrams[0])
		better += truthOf(nodes < len(diagrams[0].Nodes))
		same += truthOf(nodes > 2 && slices.IsSorted(order))
		if t.Failed() {
			t.FailNow()
		}
	})
	source := rand.New(rand.NewSource(114))
	for range 6 {
		expectBestOrder(t, 6, randomTable(source, 6))
	}
	for levels := range 11 {
		expectReordered(t, levels, randomTable(source, levels), source.Perm(levels))
	}
	if min(better, same) < 30 {
		t.Errorf("%d better orders, %d that stay", better, same)
	}
}

// counting counts diagrams, which must succeed.
type counting struct {
	algebra
	probs []impl.Rat
}

func (x counting) count(d impl.Diagram) *big.Rat {
	x.t.Helper()
	r, ok := impl.WeightedCount(d, x.probs)
	if !ok {
		x.t.Fatalf("%s has no count", diagramText(d))
	}
	return bigOfRat(x.t, r)
}

// given returns a conditional count, and nil if the condition has the count 0.
func (x counting) given(query, given impl.Diagram) *big.Rat {
	x.t.Helper()
	r, ok := impl.ConditionalCount(query, given, x.probs)
	if ok != (x.count(given).Sign() > 0) {
		x.t.Fatalf("%s given %s: %v", diagramText(query), diagramText(given), ok)
	}
	if !ok {
		return nil
	}
	return bigOfRat(x.t, r)
}

func (x counting) expectEqual(law string, a, b *big.Rat) {
	x.t.Helper()
	if a.Cmp(b) != 0 {
		x.t.Fatalf("%s: %s and %s", law, a, b)
	}
}

func sumOf(list ...*big.Rat) *big.Rat {
	sum := new(big.Rat)
	for _, x := range list {
		sum.Add(sum, x)
	}
	return sum
}

func timesOf(a, b *big.Rat) *big.Rat { return new(big.Rat).Mul(a, b) }

// shortCounts calls check with probabilities with which no count exceeds the limit.
func shortCounts(t *testing.T, seed int64, count int, check func(source *rand.Rand, x counting, c chances, diagrams []impl.Diagram)) {
	randomDiagrams(seed, count, 10, func(source *rand.Rand, levels int, diagrams []impl.Diagram, tables []string) {
		c := chances{}
		for range levels {
			den := 1 + source.Intn(50)
			c = append(c, big.NewRat(int64(source.Intn(den+1)), int64(den)))
		}
		check(source, counting{algebra{t}, c.rats()}, c, diagrams)
	})
}

func TestPromise11LawsOfCounts(t *testing.T) {
	shortCounts(t, 115, 700, func(source *rand.Rand, x counting, c chances, diagrams []impl.Diagram) {
		a, b := diagrams[0], diagrams[1]
		one := big.NewRat(1, 1)
		x.expectEqual("negation", sumOf(x.count(a), x.count(x.not(a))), one)
		x.expectEqual("or and and", sumOf(x.count(x.or(a, b)), x.count(x.and(a, b))), sumOf(x.count(a), x.count(b)))
		x.expectEqual("xor", x.count(x.xor(a, b)), sumOf(x.count(x.and(a, x.not(b))), x.count(x.and(x.not(a), b))))
		slopes, ok := impl.CountGradient(a, x.probs)
		if !ok || len(slopes) != len(c) {
			t.Fatalf("%s: gradient %v %v", diagramText(a), slopes, ok)
		}
		for v, chance := range c {
			low, high := x.count(x.at(a, v, false)), x.count(x.at(a, v, true))
			slope := bigOfRat(t, slopes[v])
			x.expectEqual("expansion", x.count(a), sumOf(low, timesOf(chance, slope)))
			x.expectEqual("gradient", sumOf(low, slope), high)
			x.expectEqual("variable", x.count(x.variable(len(c), v)), chance)
		}
	})
}

func TestPromise11LawsOfConditions(t *testing.T) {
	conditions, impossible := 0, 0
	shortCounts(t, 116, 700, func(source *rand.Rand, x counting, c chances, diagrams []impl.Diagram) {
		a, b := diagrams[0], diagrams[1]
		share := x.given(a, b)
		if impossible += truthOf(share == nil); share == nil {
			return
		}
		x.expectEqual("product", timesOf(share, x.count(b)), x.count(x.and(a, b)))
		x.expectEqual("negation", sumOf(share, x.given(x.not(a), b)), big.NewRat(1, 1))
		x.expectEqual("itself", x.given(b, b), big.NewRat(1, 1))
		x.expectEqual("true", x.given(a, x.constant(len(c), true)), x.count(a))
		x.expectEqual("more", x.given(x.and(a, b), b), share)
		if v := source.Intn(len(c) + 1); v < len(c) && c[v].Sign() > 0 {
			x.expectEqual("a level", x.given(a, x.variable(len(c), v)), x.count(x.at(a, v, true)))
		}
		conditions++
	})
	if conditions < 400 || impossible < 40 {
		t.Errorf("%d conditions, %d of them with the count 0", conditions, impossible)
	}
}

func TestPromise11MostProbable(t *testing.T) {
	falsities := 0
	shortCounts(t, 117, 700, func(source *rand.Rand, x counting, c chances, diagrams []impl.Diagram) {
		d := diagrams[0]
		bits, r, ok := impl.MostProbable(d, x.probs)
		if ok != (d.Root != 0) {
			t.Fatalf("%s: %q %v", diagramText(d), bits, ok)
		}
		if falsities += truthOf(!ok); !ok {
			return
		}
		holds, okHolds := impl.EvaluateDiagram(d, bits)
		only := x.made(impl.DiagramOf(len(c), tableWith(len(c), func(other string) bool { return other == bits })))
		if !holds || !okHolds {
			t.Fatalf("%s is false at %q", diagramText(d), bits)
		}
		x.expectEqual("its count", x.count(only), bigOfRat(t, r))
		// Without the assignment, no better one is left, and no equal one that comes before it.
		next, other, ok := impl.MostProbable(x.and(d, x.not(only)), x.probs)
		if better := ok && bigOfRat(t, other).Cmp(bigOfRat(t, r)) > 0; better || ok && other == r && next < bits {
			t.Fatalf("%s: %q and then %q", diagramText(d), bits, next)
		}
	})
	if falsities < 10 {
		t.Errorf("%d functions that are false everywhere", falsities)
	}
}

func TestPromise11OrdersPreserveCounts(t *testing.T) {
	shortCounts(t, 118, 500, func(source *rand.Rand, x counting, c chances, diagrams []impl.Diagram) {
		order := source.Perm(len(c))
		a := x.made(impl.ReorderLevels(diagrams[0], order))
		b := x.made(impl.ReorderLevels(diagrams[1], order))
		y := counting{x.algebra, reorderedChances(c, order).rats()}
		x.expectEqual("count", x.count(diagrams[0]), y.count(a))
		if share := x.given(diagrams[0], diagrams[1]); share != nil {
			x.expectEqual("condition", share, y.given(a, b))
		}
		before, _ := impl.CountGradient(diagrams[0], x.probs)
		after, _ := impl.CountGradient(a, y.probs)
		back := make([]int, len(order))
		for k, level := range order {
			back[level] = k
			if before[level] != after[k] {
				t.Fatalf("slopes %+v and %+v of level %d", before[level], after[k], level)
			}
		}
		x.expectLaws(map[string][2]impl.Diagram{
			"back": {x.made(impl.ReorderLevels(a, back)), diagrams[0]}, "and": {x.made(impl.ReorderLevels(x.and(diagrams[0], diagrams[1]), order)), x.and(a, b)}, "not": {x.made(impl.ReorderLevels(x.not(diagrams[0]), order)), x.not(a)},
		})
		if best, nodes, ok := impl.BestOrder(diagrams[0]); ok {
			if other, again, _ := impl.BestOrder(a); len(a.Nodes) < nodes || again != nodes || len(other) != len(best) || len(x.made(impl.ReorderLevels(diagrams[0], best)).Nodes) != nodes {
				t.Fatalf("%s: %d nodes in the order %v, %d in %v", diagramText(diagrams[0]), nodes, best, again, other)
			}
		}
	})
}

// expectSameInference compares inference by diagrams with the path enumeration of chapter 6, and returns whether an
// execution finishes.
func expectSameInference(t *testing.T, p impl.Program) bool {
	t.Helper()
	r, ok := impl.Infer(p)
	if !ok {
		t.Fatalf("no result of %+v", p)
	}
	states, finishes := impl.Posterior(r)
	for e := range p.Exprs {
		byPaths, okPaths := impl.ProbabilityOf(p, e)
		byDiagram, ok := impl.ProbabilityByDiagram(p, e)
		if byPaths != byDiagram || ok != okPaths || ok != finishes {
			t.Fatalf("expression %d of %+v: %+v %v by paths, %+v %v by diagrams", e, p, byPaths, okPaths, byDiagram, ok)
		}
	}
	for v := range p.Vars {
		byPaths, okPaths := impl.Marginal(states, v)
		byDiagram, ok := impl.MarginalByDiagram(p, v)
		if okPaths = okPaths && finishes; !equalDists(byPaths, byDiagram) || ok != okPaths || ok != finishes {
			t.Fatalf("variable %d of %+v: %+v %v by paths, %+v %v by diagrams", v, p, byPaths, okPaths, byDiagram, ok)
		}
		if total, _ := impl.MassOf(byDiagram); ok && total != rat(t, "1") {
			t.Fatalf("variable %d of %+v: %+v", v, p, byDiagram)
		}
	}
	if len(p.Exprs) > 0 {
		_, condition, probs, _ := impl.CompileQuery(p, 0)
		count, _ := impl.WeightedCount(condition, probs)
		if evidence, ok := impl.Evidence(p); count != evidence || !ok {
			t.Fatalf("%+v: count %+v, evidence %+v", p, count, evidence)
		}
	}
	return finishes
}

func TestPromise11InferenceAgreesWithPathEnumeration(t *testing.T) {
	finished, never, lost, many := 0, 0, 0, 0
	randomTossablePrograms(119, 1600, func(source *rand.Rand, p impl.Program) {
		r, ok := impl.Infer(p)
		if !ok {
			return
		}
		if expectSameInference(t, p) {
			finished++
			lost += truthOf(len(r.States) > 1 && (r.Rejected != zeroRat || r.Exhausted != zeroRat))
		} else {
			never++
		}
		many += truthOf(len(coinsByReference(p)) > 7)
	})
	if finished < 600 || min(never, lost, many) < 80 {
		t.Errorf("%d programs that finish, %d that never do, %d with lost mass, %d with many coins", finished, never, lost, many)
	}
}

func TestPromise11OfExamples(t *testing.T) {
	for _, p := range []impl.Program{
		exampleG(), outOfOrder(), manySkips(24), threeVars(t, exampleOfSlicing), manyCoins(samplesOf(4, 4, 4, 2)...), manyCoins(samplesOf(slices.Repeat([]int{2}, 10)...)...), program([]int{2}, chain(1), 0, nil, observe(0)),
		threeVars(t, "flip a 0:1 1:12 flip b 0:12 1:11 2:7 flip c 0:5 1:12 2:7 3:11 observe (a + (b * c)) if (b = c) { while a max 0 { } } else { c := (b + 1) }"),
	} {
		expectSameInference(t, p)
	}
}

func TestInferenceAgreesWithReference(t *testing.T) {
	randomTossablePrograms(120, 400, func(source *rand.Rand, p impl.Program) {
		if len(coinsByReference(p)) > 6 && source.Intn(6) > 0 {
			return
		}
		if expectInference(t, "random program", p); t.Failed() {
			t.Fatalf("%+v", p)
		}
	})
}

// countArguments are arguments of the functions of chapter 11.
type countArguments struct {
	a, b  impl.Diagram
	probs []impl.Rat
	order []int
	p     impl.Program
	e, v  int
}

// countCalls returns the results of all functions of chapter 11, each list of them followed by whether the call succeeded.
func countCalls(x countArguments) [][]any {
	count, okCount := impl.WeightedCount(x.a, x.probs)
	slopes, okSlopes := impl.CountGradient(x.a, x.probs)
	share, okShare := impl.ConditionalCount(x.a, x.b, x.probs)
	bits, prob, okBits := impl.MostProbable(x.a, x.probs)
	holds, finishes, coins, okCoins := impl.CompileQuery(x.p, x.e)
	probability, okProbability := impl.ProbabilityByDiagram(x.p, x.e)
	marginal, okMarginal := impl.MarginalByDiagram(x.p, x.v)
	moved, okMoved := impl.ReorderLevels(x.a, x.order)
	order, nodes, okOrder := impl.BestOrder(x.a)
	return [][]any{
		{count, okCount}, {slopes, okSlopes}, {share, okShare}, {bits, prob, okBits}, {holds, finishes, coins, okCoins},
		{probability, okProbability}, {marginal, okMarginal}, {moved, okMoved}, {order, nodes, okOrder},
	}
}

// areChances reports whether numbers are valid arguments for a diagram with that many levels.
func areChances(t *testing.T, probs []impl.Rat, levels int) bool {
	t.Helper()
	for _, r := range probs {
		if !isNumber(r) || bigOfRat(t, r).Sign() < 0 || bigOfRat(t, r).Cmp(big.NewRat(1, 1)) > 0 {
			return false
		}
	}
	return len(probs) == levels
}

// expectCountsConsistent checks which calls succeed, and that those that fail return zero values. The probabilities must be
// so short that no result exceeds the limit. It returns which calls must succeed.
func expectCountsConsistent(t *testing.T, x countArguments) []bool {
	t.Helper()
	okA := isDiagramByReference(x.a)
	okProbs := okA && areChances(t, x.probs, x.a.Levels)
	okShare := okProbs && isDiagramByReference(x.b) && x.a.Levels == x.b.Levels
	if okShare {
		count, ok := impl.WeightedCount(x.b, x.probs)
		okShare = ok && count != zeroRat
	}
	okProgram := isTossable(x.p)
	okQuery, okVar := okProgram && x.e >= 0 && x.e < len(x.p.Exprs), okProgram && x.v >= 0 && x.v < len(x.p.Vars)
	finishes := okProgram && strings.Contains(tossesOf(x.p).finishTable(), "1")
	okOrder := okA && slices.Equal(slices.Sorted(slices.Values(x.order)), forward(x.a.Levels))
	wanted := []bool{okProbs, okProbs, okShare, okProbs && x.a.Root != 0, okQuery, okQuery && finishes, okVar && finishes, okOrder, okA && x.a.Levels <= 6}
	for i, results := range countCalls(x) {
		last := len(results) - 1
		if results[last] != wanted[i] {
			t.Fatalf("function %d, success %v: %+v: %v", i, wanted[i], x, results)
		}
		for _, result := range results[:last] {
			if !wanted[i] && !reflect.ValueOf(result).IsZero() {
				t.Fatalf("function %d: %+v: %v", i, x, results)
			}
		}
	}
	return wanted
}

// randomArguments returns arguments for a diagram, which are valid or nearly so.
func randomArguments(source *rand.Rand, d impl.Diagram) countArguments {
	levels := max(0, min(10, d.Levels))
	x := countArguments{a: d, b: impl.Diagram{Levels: levels, Root: source.Intn(2)}, order: source.Perm(levels)}
	for range levels {
		r, _ := impl.RatOf(source.Intn(4), 3)
		x.probs = append(x.probs, r)
	}
	others := slices.Concat(invalidRats(), validRats())
	switch at := source.Intn(levels + 1); {
	case source.Intn(2) == 0 || at == levels:
	case source.Intn(3) > 0:
		x.probs[at] = others[source.Intn(len(others))]
	default:
		x.probs = x.probs[:at]
	}
	switch at := source.Intn(levels + 1); {
	case source.Intn(2) == 0 || at == levels:
	case source.Intn(3) > 0:
		x.order[at] = []int{-1, 0, levels, 10, math.MinInt, math.MaxInt}[source.Intn(6)]
	default:
		x.order = append(x.order, at)
	}
	indices := []int{math.MinInt, -1, 0, 0, 1, 1, 2, 3, 4, 5, 24, 40, math.MaxInt}
	x.e, x.v = indices[source.Intn(len(indices))], indices[source.Intn(len(indices))]
	return x
}

func TestPromise33CountingAcceptsAllArguments(t *testing.T) {
	diagrams := manyDiagrams(t, 121)
	programs := append(examplesAndFaults(), impl.Program{})
	add := addWithSpoiled(&programs)
	randomTossablePrograms(122, 150, add)
	randomUnrolledPrograms(123, 100, add)
	randomCallingPrograms(124, 100, add)
	source := rand.New(rand.NewSource(125))
	succeeded := map[int]int{}
	for i := range max(len(diagrams), len(programs)) {
		x := randomArguments(source, diagrams[i%len(diagrams)])
		x.p = programs[i%len(programs)]
		if source.Intn(2) == 0 {
			x.b = diagrams[max(0, i%len(diagrams)-source.Intn(3))]
		}
		// The length of a number only shows in the results of some diagrams.
		for at, r := range x.probs {
			if isNumber(r) && len(r.Den) > 3 {
				x.probs[at] = zeroRat
			}
		}
		for function, ok := range expectCountsConsistent(t, x) {
			succeeded[function] += truthOf(ok)
		}
	}
	for function := range 9 {
		if succeeded[function] < 100 || succeeded[function] > 1600 {
			t.Errorf("function %d succeeded %d times", function, succeeded[function])
		}
	}
}

// memoryOfCounts returns the memory of the results of one call.
func memoryOfCounts(results []any) []span {
	spans := memoryOfResults(results)
	for _, result := range results {
		switch r := result.(type) {
		case []impl.Rat:
			spans = append(spans, spanOf(r))
		case impl.Dist:
			spans = append(spans, spanOf(r.Points))
		}
	}
	return slices.DeleteFunc(spans, func(s span) bool { return s.start == s.end })
}

// overwriteCounts changes the lists of a result of chapter 11, with their spare capacity.
func overwriteCounts(result any) {
	switch r := result.(type) {
	case []impl.Rat:
		fill(r, impl.Rat{Num: "77"})
	case impl.Dist:
		fill(r.Points, impl.Point{Value: 77})
	default:
		overwrite(result)
	}
}

func TestPromise33CountingNeitherModifiesNorShares(t *testing.T) {
	diagrams := manyDiagrams(t, 126)[:1000]
	programs := append(validPrograms(), exampleG(), outOfOrder(), impl.Program{})
	randomTossablePrograms(127, 400, func(source *rand.Rand, p impl.Program) { programs = append(programs, p) })
	source := rand.New(rand.NewSource(128))
	for i, plain := range diagrams {
		x := randomArguments(source, plain)
		x.b, x.p = diagrams[max(0, i-1)], programs[i%len(programs)]
		spare := x
		spare.a, spare.b, spare.p = diagramWithSpare(x.a), diagramWithSpare(x.b), programWithSpare(x.p)
		spare.probs, spare.order = withSpare(x.probs, rat(t, "1/2"), impl.Rat{Num: "7"}), withSpareInts(x.order)
		before := []any{whole(spare.p), slices.Clone(spare.a.Nodes[:cap(spare.a.Nodes)]), slices.Clone(spare.b.Nodes[:cap(spare.b.Nodes)]), slices.Clone(spare.probs[:cap(spare.probs)]), slices.Clone(spare.order[:cap(spare.order)])}
		calls := slices.Concat(countCalls(spare)...)
		first := describe(calls)
		arguments := append(spansIn(spare.p), spanOf(spare.a.Nodes), spanOf(spare.b.Nodes), spanOf(spare.probs), spanOf(spare.order))
		expectApart(t, fmt.Sprint("case ", i), memoryOfCounts(calls), arguments)
		expectUnshared(t, calls, overwriteCounts)
		after := []any{whole(spare.p), spare.a.Nodes[:cap(spare.a.Nodes)], spare.b.Nodes[:cap(spare.b.Nodes)], spare.probs[:cap(spare.probs)], spare.order[:cap(spare.order)]}
		if !reflect.DeepEqual(before, after) {
			t.Fatalf("case %d: an argument was modified, or a result shares its memory", i)
		}
		if again := describe(slices.Concat(countCalls(x)...)); again != first {
			t.Fatalf("case %d: the results depend on more than the arguments: %s and %s", i, first, again)
		}
	}
}
