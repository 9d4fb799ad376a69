package tests

import (
	"math"
	"math/big"
	"math/rand"
	"reflect"
	"slices"
	"sync"
	"testing"

	"loop.example/g00893/impl"
)

// enliven lets a program begin with samples, a check and a loop, so that conditions and outcomes differ among paths.
func enliven(source *rand.Rand, p *impl.Program) {
	var first []tree
	for v := range p.Vars[:source.Intn(len(p.Vars)+1)] {
		first = append(first, sample(v, 1+source.Intn(12), 1+source.Intn(12), source.Intn(3)*(p.Vars[v].Size-2)))
	}
	if e := len(p.Exprs); e <= impl.MaxExprs-3 {
		p.Exprs = append(p.Exprs, variable(source.Intn(len(p.Vars))), variable(source.Intn(len(p.Vars))), binary(impl.OpAdd+source.Intn(7), e, e+1))
		first = append(first, observe(e+2), while(e+source.Intn(2), source.Intn(2)))[:len(first)+source.Intn(3)]
	}
	p.Body = append(place(p, first), p.Body...)
}

// randomPrograms calls check with random programs.
func randomPrograms(seed int64, count int, check func(source *rand.Rand, p impl.Program)) {
	source := rand.New(rand.NewSource(seed))
	for i := range count {
		p := randomProgram(source, i%18)
		if i%3 == 0 {
			p = randomThriftyProgram(source, i%18)
		}
		if i%2 == 0 {
			p.Fuel = 3
		}
		enliven(source, &p)
		check(source, p)
	}
}

func isInferable(p impl.Program) bool {
	return isProgramByTable(p) && boundByFloats(p, p.Body, p.Fuel) <= impl.MaxPaths
}

// resultCounts tells how many results of each kind a test has seen.
type resultCounts struct{ results, several, rejected, exhausted, mixed, empty, failures int }

func (c *resultCounts) add(r impl.Result) {
	several, rejected, exhausted := len(r.States) > 1, r.Rejected != zeroRat, r.Exhausted != zeroRat
	c.results++
	c.several += truthOf(several)
	c.rejected += truthOf(rejected)
	c.exhausted += truthOf(exhausted)
	c.mixed += truthOf(several && rejected && exhausted)
	c.empty += truthOf(len(r.States) == 0)
}

func (c resultCounts) areEnough() bool {
	return c.results > 2000 && min(c.several, c.rejected, c.exhausted, c.empty, c.failures) > 200 && c.mixed > 50
}

func TestResultsAgreeWithReference(t *testing.T) {
	var counts resultCounts
	randomPrograms(61, 6000, func(source *rand.Rand, p impl.Program) {
		r, ok := impl.Infer(p)
		if ok != isInferable(p) || !ok && !sameResults(r, impl.Result{}) {
			t.Fatalf("%+v: %+v %v", p, r, ok)
		}
		if !ok {
			counts.failures++
			return
		}
		want, all := resultByReference(p)
		if all && !sameResults(r, want) {
			t.Fatalf("%+v: %+v instead of %+v", p, r, want)
		}
		if text, ok := impl.FormatResult(r); text != textOfResult(r) || !ok {
			t.Fatalf("%+v: %q %v", r, text, ok)
		}
		if all {
			counts.add(r)
		}
	})
	if !counts.areEnough() {
		t.Errorf("too few programs: %+v", counts)
	}
}

func TestPromise6MassesOfResultsSumToOne(t *testing.T) {
	var counts resultCounts
	randomPrograms(62, 6000, func(source *rand.Rand, p impl.Program) {
		r, ok := impl.Infer(p)
		if !ok {
			counts.failures++
			return
		}
		sum := massOfStates(t, r.States)
		evidence, ok := impl.Evidence(p)
		expectBig(t, "evidence", evidence, ok, sum)
		sum.Add(sum, bigOfRat(t, r.Rejected)).Add(sum, bigOfRat(t, r.Exhausted))
		if sum.Cmp(big.NewRat(1, 1)) != 0 || !impl.IsValidResult(r) {
			t.Fatalf("%+v: the masses of %+v sum to %v", p, r, sum)
		}
		if paths, ok := impl.CountPaths(p); !ok || len(r.States) > paths {
			t.Fatalf("%+v: %d states on %d paths", p, len(r.States), paths)
		}
		for i, w := range r.States {
			if bigOfRat(t, w.Mass).Sign() <= 0 || i > 0 && slices.Compare(r.States[i-1].Values, w.Values) >= 0 {
				t.Fatalf("%+v: state %d of %+v", p, i, r)
			}
		}
		counts.add(r)
	})
	if !counts.areEnough() {
		t.Errorf("too few programs: %+v", counts)
	}
}

// randomDraws returns draws for about as many samples as programs have.
func randomDraws(source *rand.Rand) []int {
	draws := make([]int, []int{0, 1, 2, 3, 5, 8, 12, 20, 50, 100}[source.Intn(10)])
	for i := range draws {
		draws[i] = source.Intn([]int{2, 5, 50, 100001}[source.Intn(4)])
	}
	return draws
}

// massOfOutcome returns the mass that a result gives to the outcome of a run, and to its values if it finished.
func massOfOutcome(t *testing.T, r impl.Result, x impl.Run) *big.Rat {
	t.Helper()
	switch x.Outcome {
	case impl.RunRejected:
		return bigOfRat(t, r.Rejected)
	case impl.RunExhausted:
		return bigOfRat(t, r.Exhausted)
	}
	for _, w := range r.States {
		if slices.Equal(w.Values, x.Values) {
			return bigOfRat(t, w.Mass)
		}
	}
	return new(big.Rat)
}

func TestPromise6RunsHaveTheirMassInTheResult(t *testing.T) {
	var outcomes [4]int
	less, many := 0, 0
	randomPrograms(63, 4000, func(source *rand.Rand, p impl.Program) {
		r, ok := impl.Infer(p)
		for range 4 {
			draws := randomDraws(source)
			x, okRun := impl.RunWith(p, draws)
			if okRun != ok {
				t.Fatalf("%+v: result %v, execution %v", p, ok, okRun)
			}
			if !ok {
				continue
			}
			mass, share := bigOfRat(t, x.Mass), massOfOutcome(t, r, x)
			if mass.Sign() <= 0 || mass.Cmp(share) > 0 {
				t.Fatalf("%+v with %v: %+v, but %+v", p, draws, x, r)
			}
			if want, all := runByReference(p, draws); all && !sameRuns(x, want) {
				t.Fatalf("%+v with %v: %+v instead of %+v", p, draws, x, want)
			}
			outcomes[x.Outcome]++
			less += truthOf(mass.Cmp(share) < 0)
			many += truthOf(x.Draws > len(draws))
		}
	})
	if min(outcomes[1], outcomes[2], outcomes[3], less, many) < 500 {
		t.Errorf("%v outcomes, %d runs with less mass than their state, %d with too few draws", outcomes, less, many)
	}
}

// TestDrawsCoverTheResult sums the probabilities of all draws that lead to one state.
func TestDrawsCoverTheResult(t *testing.T) {
	p := twoVars(t, "fuel 0 flip b 0:1 1:2 if b { flip a 0:3 2:1 } else { flip a 1:1 2:2 3:1 } observe (a + (not b))")
	want, _ := impl.Infer(p)
	masses := crowd{}
	for first := range 3 {
		for second := range 4 {
			x, ok := impl.RunWith(p, []int{first + 3*second, second + 4*first})
			if !ok {
				t.Fatal("fails")
			}
			masses.add([5]int{x.Outcome, x.Values[0], x.Values[1]}, big.NewRat(1, 12))
		}
	}
	for _, w := range want.States {
		if masses[[5]int{impl.RunFinished, w.Values[0], w.Values[1]}].Cmp(bigOfRat(t, w.Mass)) != 0 {
			t.Errorf("%v: %v instead of %v", w.Values, masses, w.Mass)
		}
	}
	if rejected := masses[[5]int{impl.RunRejected, 0, 1}]; rejected.Cmp(bigOfRat(t, want.Rejected)) != 0 || len(masses) != len(want.States)+1 {
		t.Errorf("%v instead of %+v", masses, want)
	}
}

// expectQueriesOf checks the queries of an expression against the states of the result.
func expectQueriesOf(t *testing.T, p impl.Program, r impl.Result, e int) {
	t.Helper()
	holds, mean := new(big.Rat), new(big.Rat)
	for _, w := range r.States {
		value, mass := valueByMemo(p.Exprs, e, w.Values, map[int]int{}), bigOfRat(t, w.Mass)
		mean.Add(mean, new(big.Rat).Mul(big.NewRat(int64(value), 1), mass))
		if value > 0 {
			holds.Add(holds, mass)
		}
	}
	evidence := massOfStates(t, r.States)
	probability, ok := impl.ProbabilityOf(p, e)
	expectBig(t, "probability", probability, ok, holds.Quo(holds, evidence))
	expectation, ok := impl.ExpectedValue(p, e)
	expectBig(t, "expectation", expectation, ok, mean.Quo(mean, evidence))
}

func TestQueriesAgreeWithReference(t *testing.T) {
	uncertain, posteriors := 0, 0
	randomPrograms(64, 3000, func(source *rand.Rand, p impl.Program) {
		r, ok := impl.Infer(p)
		list, okPosterior := impl.Posterior(r)
		if okPosterior != (ok && len(r.States) > 0) {
			t.Fatalf("%+v: %v %v", r, list, okPosterior)
		}
		if !okPosterior {
			expectQuery(t, "nothing finished", p, 0, fails, fails)
			return
		}
		evidence := massOfStates(t, r.States)
		if len(list) != len(r.States) {
			t.Fatalf("%d states in the posterior of %+v", len(list), r)
		}
		for i, w := range list {
			share := new(big.Rat).Quo(bigOfRat(t, r.States[i].Mass), evidence)
			if !slices.Equal(w.Values, r.States[i].Values) || bigOfRat(t, w.Mass).Cmp(share) != 0 {
				t.Fatalf("%+v: posterior %+v", r, list)
			}
		}
		e := source.Intn(len(p.Exprs))
		expectQueriesOf(t, p, r, e)
		expectMarginals(t, list)
		expectMarginals(t, r.States)
		uncertain += truthOf(len(list) > 1)
		posteriors++
	})
	if uncertain < 300 || posteriors < 1000 {
		t.Errorf("%d posteriors, %d of several states", posteriors, uncertain)
	}
}

// expectMarginals checks the marginals of all variables of a valid list with states.
func expectMarginals(t *testing.T, list []impl.Weighted) {
	t.Helper()
	for v := range list[0].Values {
		wanted := bigDist{}
		for _, w := range list {
			wanted.add(w.Values[v], bigOfRat(t, w.Mass))
		}
		d, ok := impl.Marginal(list, v)
		expectBigDist(t, "marginal", d, ok, wanted)
	}
}

// randomStates returns a valid list of weighted states; its masses may sum to 1.
func randomStates(source *rand.Rand) []impl.Weighted {
	vars := 1 + source.Intn(5)
	count := 1 + source.Intn(min(1<<(2*vars), 40))
	var list []impl.Weighted
	masses := randomMasses(source, count, source.Intn(2) == 0)
	numbers := source.Perm(1 << (2 * vars))[:count]
	slices.Sort(numbers)
	for i, n := range numbers {
		values := make([]int, vars)
		for v := range values {
			values[vars-1-v] = n >> (2 * v) & 3
		}
		mass, _ := ratOfBig(masses[i])
		list = append(list, impl.Weighted{Values: values, Mass: mass})
	}
	return list
}

// TestRandomStatesAgreeWithReference has masses of up to MaxDigits digits.
func TestRandomStatesAgreeWithReference(t *testing.T) {
	source := rand.New(rand.NewSource(65))
	results, posteriors, marginals := 0, 0, 0
	for range 1500 {
		list := randomStates(source)
		d, ok := impl.Marginal(list, 0)
		marginals += truthOf(ok && len(d.Points) > 1)
		expectMarginals(t, list)
		rest, exists := ratOfBig(new(big.Rat).Sub(big.NewRat(1, 1), massOfStates(t, list)))
		if !exists {
			continue
		}
		r := impl.Result{States: list, Rejected: zeroRat, Exhausted: rest}
		results++
		posteriors += truthOf(rest != zeroRat)
		expectPosteriorOf(t, r)
		wrong := r
		wrong.Rejected = list[0].Mass
		expectResultFailures(t, "too much", wrong)
		if len(list) > 1 {
			wrong = impl.Result{States: slices.Clone(list), Rejected: zeroRat, Exhausted: rest}
			i := source.Intn(len(list) - 1)
			wrong.States[i], wrong.States[i+1] = list[i+1], list[i]
			expectResultFailures(t, "out of order", wrong)
			wrong.States = slices.Delete(slices.Clone(list), i, i+1)
			expectResultFailures(t, "too little", wrong)
		}
	}
	if results < 700 || posteriors < 100 || marginals < 700 {
		t.Errorf("%d results, %d posteriors that differ, %d marginals", results, posteriors, marginals)
	}
}

// expectPosteriorOf checks that a result is valid, and its posterior.
func expectPosteriorOf(t *testing.T, r impl.Result) {
	t.Helper()
	if text, ok := impl.FormatResult(r); !impl.IsValidResult(r) || !ok || text != textOfResult(r) {
		t.Fatalf("%+v: %q %v", r, text, ok)
	}
	evidence := massOfStates(t, r.States)
	var want []impl.Weighted
	for _, w := range r.States {
		mass, ok := ratOfBig(new(big.Rat).Quo(bigOfRat(t, w.Mass), evidence))
		if !ok {
			want = nil
			break
		}
		want = append(want, impl.Weighted{Values: w.Values, Mass: mass})
	}
	if list, ok := impl.Posterior(r); ok != (want != nil) || !sameStates(list, want) {
		t.Fatalf("%+v: posterior %+v %v instead of %+v", r, list, ok, want)
	}
}

func TestPromise4NormalFormHasTheSameExactResult(t *testing.T) {
	inferred, several := 0, 0
	randomPrograms(66, 4000, func(source *rand.Rand, p impl.Program) {
		for i := range p.Stmts {
			p.Stmts[i].Expr %= 1 + source.Intn(24)
		}
		text, ok := impl.FormatProgram(p)
		if !ok {
			return
		}
		q, ok := impl.ParseProgram(text)
		n, okNormal := impl.NormalizeProgram(p)
		if !ok || !okNormal || !impl.EqualPrograms(q, n) {
			t.Fatalf("%q: %+v instead of %+v", text, q, n)
		}
		r, ok := impl.Infer(p)
		again, okAgain := impl.Infer(q)
		if ok != okAgain || !sameResults(r, again) {
			t.Fatalf("%q: %+v %v and %+v %v", text, r, ok, again, okAgain)
		}
		draws := randomDraws(source)
		x, _ := impl.RunWith(p, draws)
		if y, ok := impl.RunWith(q, draws); ok != okAgain || !sameRuns(x, y) {
			t.Fatalf("%q with %v: %+v and %+v", text, draws, x, y)
		}
		inferred += truthOf(ok)
		several += truthOf(len(r.States) > 1)
	})
	if inferred < 1500 || several < 200 {
		t.Errorf("%d results, %d of several states", inferred, several)
	}
}

// semanticsCalls returns the results of all functions of chapter 6, each followed by whether it succeeded.
func semanticsCalls(p impl.Program, draws []int, r impl.Result, e int) []any {
	inferred, okInferred := impl.Infer(p)
	x, okRun := impl.RunWith(p, draws)
	posterior, okPosterior := impl.Posterior(r)
	evidence, okEvidence := impl.Evidence(p)
	marginal, okMarginal := impl.Marginal(r.States, e)
	probability, okProbability := impl.ProbabilityOf(p, e)
	mean, okMean := impl.ExpectedValue(p, e)
	text, okText := impl.FormatResult(r)
	return []any{inferred, okInferred, x, okRun, posterior, okPosterior, evidence, okEvidence, marginal, okMarginal,
		probability, okProbability, mean, okMean, text, okText, impl.EqualStates(r.States, inferred.States), impl.IsValidResult(r)}
}

// notNumbers makes the set of invalidRats only once, because some of them are long.
var notNumbers = sync.OnceValue(func() map[impl.Rat]bool {
	set := map[impl.Rat]bool{{}: true}
	for _, r := range invalidRats() {
		set[r] = true
	}
	return set
})

func isNumber(r impl.Rat) bool { return !notNumbers()[r] }

// isListByTable reports whether a list of weighted states is valid, as far as masses are numbers.
func isListByTable(t *testing.T, list []impl.Weighted) bool {
	t.Helper()
	for i, w := range list {
		if !isNumber(w.Mass) || bigOfRat(t, w.Mass).Sign() <= 0 || len(w.Values) < 1 || len(w.Values) > 5 || len(w.Values) != len(list[0].Values) {
			return false
		}
		if slices.Min(w.Values) < 0 || slices.Max(w.Values) > 3 || i > 0 && slices.Compare(list[i-1].Values, w.Values) >= 0 {
			return false
		}
	}
	return len(list) <= 1024 && massOfStates(t, list).Cmp(big.NewRat(1, 1)) <= 0
}

func isResultByTable(t *testing.T, r impl.Result) bool {
	t.Helper()
	if !isListByTable(t, r.States) || !isNumber(r.Rejected) || !isNumber(r.Exhausted) || r.Rejected.Neg || r.Exhausted.Neg {
		return false
	}
	sum := massOfStates(t, r.States)
	sum.Add(sum, bigOfRat(t, r.Rejected)).Add(sum, bigOfRat(t, r.Exhausted))
	return sum.Cmp(big.NewRat(1, 1)) == 0
}

// judged is a result, and whether its states and itself are valid.
type judged struct {
	result                impl.Result
	validList, validWhole bool
}

// expectSemanticsConsistent checks which calls succeed, and that those that fail return zero values.
func expectSemanticsConsistent(t *testing.T, p impl.Program, draws []int, j judged, e int) {
	t.Helper()
	r := j.result
	results := semanticsCalls(p, draws, r, e)
	inferable := isInferable(p)
	okDraws := inferable && len(draws) <= 100
	for _, draw := range draws {
		okDraws = okDraws && draw >= 0 && draw <= 100000
	}
	okMarginal := j.validList && e >= 0 && e < 5 && (len(r.States) == 0 || e < len(r.States[0].Values))
	okQuery := inferable && e >= 0 && e < len(p.Exprs) && len(results[0].(impl.Result).States) > 0
	wanted := []bool{inferable, okDraws, j.validWhole && len(r.States) > 0, inferable, okMarginal, okQuery, okQuery, j.validWhole}
	zeros := []any{impl.Result{}, impl.Run{}, []impl.Weighted(nil), impl.Rat{}, impl.Dist{}, impl.Rat{}, impl.Rat{}, ""}
	for i, ok := range wanted {
		if results[2*i+1] != ok || !ok && !reflect.DeepEqual(results[2*i], zeros[i]) {
			t.Fatalf("function %d, success %v: %.60v, %d and %.200v of %+v: %.200v", i, ok, draws, e, r, p, results[2*i])
		}
	}
	if results[17] != j.validWhole || results[16] != sameStates(r.States, results[0].(impl.Result).States) {
		t.Fatalf("%v: %+v", results[16:], r)
	}
}

// variedResults returns valid and invalid results; none of them has shares of its sum beyond MaxDigits.
func variedResults(t *testing.T) []impl.Result {
	t.Helper()
	results := append(validResults(t), impl.Result{}, resultOf(t, "R:1"), resultOf(t, "R:1/2"), resultOf(t, "0:1/2 R:-1/4 E:3/4"))
	results = slices.DeleteFunc(results, func(r impl.Result) bool {
		_, ok := impl.Posterior(r)
		return !ok && impl.IsValidResult(r) && len(r.States) > 0
	})
	for _, list := range invalidLists(t) {
		results = append(results, impl.Result{States: list, Rejected: zeroRat, Exhausted: rat(t, "1/2")})
	}
	for _, bad := range invalidRats() {
		results = append(results, impl.Result{Rejected: bad, Exhausted: rat(t, "1")}, impl.Result{Rejected: zeroRat, Exhausted: bad})
	}
	return results
}

func TestPromise33SemanticsAcceptsAllArguments(t *testing.T) {
	programs := append(validPrograms(), programOfAll(), ladder(), exampleOfTyping())
	for _, p := range invalidPrograms() {
		programs = append(programs, p)
	}
	source := rand.New(rand.NewSource(67))
	for range 600 {
		p := randomProgram(source, 24)
		for range source.Intn(6) {
			spoil(source, &p)
		}
		programs = append(programs, p)
	}
	ints := []int{math.MinInt, -1, 0, 1, 2, 4, 5, 39, 40, math.MaxInt}
	lists := [][]int{nil, {}, {0}, {1, 2, 3}, {100000}, {100001}, {-1}, {0, 0, -1}, {math.MinInt}, {math.MaxInt}, make([]int, 100), make([]int, 101), ints}
	var results []judged
	for _, r := range variedResults(t) {
		results = append(results, judged{r, isListByTable(t, r.States), isResultByTable(t, r)})
	}
	for i, p := range programs {
		for j, e := range ints {
			expectSemanticsConsistent(t, p, lists[(i*5+j*7)%len(lists)], results[(i*3+j*11)%len(results)], e)
		}
	}
}

// resultWithSpare returns a copy of a result in which all lists have spare capacity.
func resultWithSpare(r impl.Result) impl.Result {
	states := slices.Clone(r.States)
	for i, w := range states {
		states[i].Values = withSpareInts(w.Values)
	}
	r.States = withSpare(states, impl.Weighted{Values: []int{3}}, impl.Weighted{})
	return r
}

// wholeResult returns a copy of a result whose lists include their spare capacity.
func wholeResult(r impl.Result) impl.Result {
	r.States = slices.Clone(r.States[:cap(r.States)])
	for i, w := range r.States {
		r.States[i].Values = slices.Clone(w.Values[:cap(w.Values)])
	}
	return r
}

// overwriteSemantics changes all lists of a result of chapter 6, with their spare capacity.
func overwriteSemantics(result any) {
	switch r := result.(type) {
	case impl.Result:
		overwriteSemantics(r.States)
	case []impl.Weighted:
		for _, w := range r {
			fill(w.Values, 77)
		}
		fill(r, impl.Weighted{})
	case impl.Run:
		fill(r.Values, 77)
	case impl.Dist:
		fill(r.Points, impl.Point{Value: 77})
	}
}

func TestPromise33SemanticsNeitherModifiesNorShares(t *testing.T) {
	results := variedResults(t)
	programs := append(validPrograms(), exampleG(), exampleOfTyping(), programOfAll(), impl.Program{})
	randomPrograms(68, 800, func(source *rand.Rand, p impl.Program) {
		if source.Intn(5) == 0 {
			spoil(source, &p)
		}
		programs = append(programs, p)
	})
	for i, plain := range programs {
		other := results[i%len(results)]
		p, r, draws := programWithSpare(plain), resultWithSpare(other), withSpareInts([]int{1, 2, i, 3})
		before, resultBefore, drawsBefore := whole(p), wholeResult(r), slices.Clone(draws[:cap(draws)])
		calls := semanticsCalls(p, draws, r, i%3)
		first := describe(calls)
		expectUnshared(t, calls, overwriteSemantics)
		if !reflect.DeepEqual(whole(p), before) || !reflect.DeepEqual(wholeResult(r), resultBefore) || !slices.Equal(draws[:cap(draws)], drawsBefore) {
			t.Fatalf("case %d: an argument was modified, or a result shares its memory", i)
		}
		if again := describe(semanticsCalls(plain, slices.Clone(draws), other, i%3)); again != first {
			t.Fatalf("case %d: the results depend on more than the arguments: %.300s and %.300s", i, first, again)
		}
	}
}

// TestStatesOfOneResult checks that a change to the values of one state changes no other state.
func TestStatesOfOneResult(t *testing.T) {
	r, _ := impl.Infer(exampleG())
	posterior, _ := impl.Posterior(r)
	for _, list := range [][]impl.Weighted{r.States, posterior} {
		for i := range list {
			others := describe([]any{list[:i], list[i+1:]})
			if fill(list[i].Values, 77); describe([]any{list[:i], list[i+1:]}) != others {
				t.Errorf("state %d shares memory with another one", i)
			}
		}
	}
}
