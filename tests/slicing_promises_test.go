package tests

import (
	"math"
	"math/rand"
	"reflect"
	"slices"
	"testing"

	"loop.example/g00893/impl"
)

// reductions returns what chapter 8 makes smaller programs with.
func reductions(keep []int) map[string]rewriting {
	return map[string]rewriting{
		"SliceFor":  func(p impl.Program) (impl.Program, bool) { return impl.SliceFor(p, keep) },
		"Propagate": impl.Propagate,
		"Simplify":  func(p impl.Program) (impl.Program, bool) { return impl.Simplify(p, keep) },
	}
}

// reductionCounts tells how many programs of each kind became smaller.
type reductionCounts struct{ done, smaller, several, rejected, exhausted, both int }

func (c *reductionCounts) add(p, q impl.Program, r impl.Result) {
	c.done++
	if len(q.Stmts) < len(p.Stmts) {
		c.smaller++
		c.several += truthOf(len(r.States) > 1)
		c.rejected += truthOf(r.Rejected != zeroRat)
		c.exhausted += truthOf(r.Exhausted != zeroRat)
		c.both += truthOf(len(r.States) > 1 && r.Rejected != zeroRat && r.Exhausted != zeroRat)
	}
}

func (c reductionCounts) areEnough() bool {
	return c.done > 3000 && min(c.several, c.rejected, c.exhausted) > 300 && c.both > 30
}

// expectSameOn checks that a program has the same masses of values of the variables in keep as another one, and the same
// lost masses.
func expectSameOn(t *testing.T, what string, p, q impl.Program, keep []int) {
	t.Helper()
	if is, ok := impl.EquivalentOn(p, q, keep); !is || !ok {
		t.Fatalf("%s of %+v on %v: %+v: equivalent %v %v", what, p, keep, q, is, ok)
	}
	before, okBefore := keptByReference(p, keep)
	after, okAfter := keptByReference(q, keep)
	if okBefore && okAfter && !sameMasses(before, after) {
		t.Fatalf("%s of %+v on %v: %+v: %v instead of %v", what, p, keep, q, after, before)
	}
}

func TestPromise8ReductionsPreserveTheKeptVariablesAndTheLostMasses(t *testing.T) {
	counts := map[string]*reductionCounts{"SliceFor": {}, "Propagate": {}, "Simplify": {}}
	randomUnrolledPrograms(81, 8000, func(source *rand.Rand, p impl.Program) {
		keep := randomKeep(source, p)
		r, inferred := impl.Infer(p)
		for what, reduce := range reductions(keep) {
			q, ok := reduce(p)
			if !ok || !isProgramByTable(q) || !isUnrolledByTable(q) {
				t.Fatalf("%s of %+v for %v: %+v %v", what, p, keep, q, ok)
			}
			if !inferred {
				continue
			}
			expectSameOn(t, what, p, q, keep)
			if s, ok := impl.Infer(q); what == "Propagate" && (!ok || !sameResults(r, s)) {
				t.Fatalf("%s of %+v: %+v has the result %+v instead of %+v", what, p, q, s, r)
			}
			counts[what].add(p, q, r)
		}
	})
	for what, c := range counts {
		if !c.areEnough() {
			t.Errorf("%s: too few programs: %+v", what, *c)
		}
	}
}

// TestPromise8OfUnrolledLoopsAndCalls simplifies what chapter 7 makes of programs with loops and calls.
func TestPromise8OfUnrolledLoopsAndCalls(t *testing.T) {
	var counts reductionCounts
	randomCallingPrograms(82, 6000, func(source *rand.Rand, p impl.Program) {
		unrolled, ok := impl.Unrolled(p)
		r, inferred := impl.Infer(p)
		if !ok || !inferred {
			return
		}
		keep := randomKeep(source, p)
		q, ok := impl.Simplify(unrolled, keep)
		if !ok {
			t.Fatalf("%+v for %v: fails", unrolled, keep)
		}
		expectSameOn(t, "Simplify after Unrolled", p, q, keep)
		counts.add(unrolled, q, r)
	})
	if counts.done < 1000 || min(counts.several, counts.rejected, counts.exhausted) < 200 {
		t.Errorf("too few programs: %+v", counts)
	}
}

func TestReductionsAgreeWithReference(t *testing.T) {
	large, dead, live, decided, known := 0, 0, 0, 0, 0
	randomUnrolledPrograms(83, 12000, func(source *rand.Rand, p impl.Program) {
		keep := randomKeep(source, p)
		n, ok := needsOf(p, keep)
		if !ok {
			return
		}
		list, ok := impl.LiveAtStart(p, keep)
		expectList(t, "live", list, ok, n.live())
		list, ok = impl.DeadStatements(p, keep)
		expectList(t, "dead", list, ok, n.dead())
		expectRewritten(t, "slice", reductions(keep)["SliceFor"], p, n.slice())
		q, values := propagatedByReference(p)
		list, ok = impl.KnownAtEnd(p)
		expectList(t, "known", list, ok, values)
		expectRewritten(t, "propagated", impl.Propagate, p, q)
		if simple, _, ok := simplifiedByReference(p, keep); ok {
			expectRewritten(t, "simplified", reductions(keep)["Simplify"], p, simple)
		}
		if t.Failed() {
			t.Fatalf("%+v for %v", p, keep)
		}
		large += truthOf(len(p.Stmts) > 15)
		dead += truthOf(len(n.dead()) > 0 && len(n.dead()) < len(p.Stmts))
		live += truthOf(len(n.live()) > 0 && !slices.Equal(n.live(), keep))
		decided += truthOf(len(q.Stmts) < len(p.Stmts))
		known += truthOf(slices.Min(values) < 0 && slices.Max(values) > 0)
	})
	if min(large, dead, live, decided, known) < 500 {
		t.Errorf("%d large programs, %d with dead statements, %d with other live variables, %d decided, %d with known values", large, dead, live, decided, known)
	}
}

// TestStepsOfSimplify counts how often Propagate and SliceFor together change a program whose statements are in order.
// Slicing removes only assignments of which nothing that is left reads what they assign, so that nothing more is known
// after it, and once is enough.
func TestStepsOfSimplify(t *testing.T) {
	var changes [2]int
	randomUnrolledPrograms(84, 6000, func(source *rand.Rand, p impl.Program) {
		p, keep := renumberedByReference(p), randomKeep(source, p)
		simple, count, ok := simplifiedByReference(p, keep)
		if !ok {
			return
		}
		if count > 1 {
			t.Fatalf("%+v for %v: %d steps", p, keep, count)
		}
		changes[count]++
		for what, reduce := range reductions(keep) {
			expectRewritten(t, what+" of a simple program", reduce, simple, simple)
		}
		if t.Failed() {
			t.Fatalf("%+v for %v", p, keep)
		}
	})
	if min(changes[0], changes[1]) < 300 {
		t.Errorf("%v programs with and without changes", changes)
	}
}

// TestOnlyLiveVariablesMatterAtTheStart lets programs start with other values of the variables that are not live, which
// changes nothing, and of those that are, which often does.
func TestOnlyLiveVariablesMatterAtTheStart(t *testing.T) {
	same, different := 0, 0
	randomUnrolledPrograms(85, 8000, func(source *rand.Rand, p impl.Program) {
		if len(p.Stmts) == impl.MaxStmts || !isInferable(p) {
			return
		}
		keep, v := randomKeep(source, p), source.Intn(len(p.Vars))
		live, ok := impl.LiveAtStart(p, keep)
		if !ok {
			t.Fatalf("%+v for %v: fails", p, keep)
		}
		p = clonedProgram(p)
		q := clonedProgram(p)
		q.Body = append(place(&q, block(sample(v, 0, 1))), q.Body...)
		is, ok := impl.EquivalentOn(p, q, keep)
		if !ok || !is && !slices.Contains(live, v) {
			t.Fatalf("%+v for %v: variable %d is not live, but matters", p, keep, v)
		}
		same += truthOf(!slices.Contains(live, v))
		different += truthOf(!is)
	})
	if min(same, different) < 1000 {
		t.Errorf("%d variables that are not live, %d that are and matter", same, different)
	}
}

// TestKnownValuesAreTheFinalOnes compares known values with the states in which executions end.
func TestKnownValuesAreTheFinalOnes(t *testing.T) {
	certain, uncertain, unknown := 0, 0, 0
	randomUnrolledPrograms(86, 15000, func(source *rand.Rand, p impl.Program) {
		r, ok := impl.Infer(p)
		known, okKnown := impl.KnownAtEnd(p)
		if !okKnown || len(known) != len(p.Vars) {
			t.Fatalf("%+v: %v %v", p, known, okKnown)
		}
		for v, value := range known {
			found := map[int]bool{}
			for _, w := range r.States {
				found[w.Values[v]] = true
			}
			if value != impl.Unknown && ok && len(r.States) > 0 && (len(found) != 1 || !found[value]) {
				t.Fatalf("%+v: variable %d is %d, but %+v", p, v, value, r)
			}
			certain += truthOf(value > 0 && len(r.States) > 1)
			uncertain += truthOf(value == impl.Unknown && len(found) > 1)
			unknown += truthOf(value == impl.Unknown && len(found) == 1)
		}
	})
	if min(certain, uncertain, unknown) < 200 {
		t.Errorf("%d known values, %d unknown ones and %d that need not be unknown", certain, uncertain, unknown)
	}
}

// TestEquivalenceAgreesWithReference compares programs with slightly changed ones, and with slices for other variables.
func TestEquivalenceAgreesWithReference(t *testing.T) {
	var equivalent, different int
	randomUnrolledPrograms(87, 16000, func(source *rand.Rand, p impl.Program) {
		q, keep := clonedProgram(p), randomKeep(source, p)
		for range 1 + source.Intn(2) {
			spoil(source, &q)
		}
		if source.Intn(3) == 0 {
			q, _ = impl.SliceFor(p, randomKeep(source, p))
		}
		is, ok := impl.EquivalentOn(p, q, keep)
		if !isInferable(p) || !isInferable(q) || !slices.Equal(p.Vars, q.Vars) {
			if is || ok {
				t.Fatalf("%+v and %+v: %v %v", p, q, is, ok)
			}
			return
		}
		before, okBefore := keptByReference(p, keep)
		after, okAfter := keptByReference(q, keep)
		if !ok || okBefore && okAfter && is != sameMasses(before, after) {
			t.Fatalf("%+v and %+v on %v: %v %v, but %v and %v", p, q, keep, is, ok, before, after)
		}
		equivalent += truthOf(is && !impl.EqualPrograms(p, q))
		different += truthOf(!is)
	})
	if min(equivalent, different) < 300 {
		t.Errorf("%d equivalent programs, %d different ones", equivalent, different)
	}
}

// slicingCalls returns the results of all functions of chapter 8, each followed by whether it succeeded.
func slicingCalls(p, q impl.Program, keep []int) []any {
	live, okLive := impl.LiveAtStart(p, keep)
	dead, okDead := impl.DeadStatements(p, keep)
	sliced, okSliced := impl.SliceFor(p, keep)
	known, okKnown := impl.KnownAtEnd(p)
	propagated, okPropagated := impl.Propagate(p)
	simple, okSimple := impl.Simplify(p, keep)
	equivalent, okEquivalent := impl.EquivalentOn(p, q, keep)
	return []any{live, okLive, dead, okDead, sliced, okSliced, known, okKnown, propagated, okPropagated, simple, okSimple, equivalent, okEquivalent}
}

// expectSlicingConsistent checks which calls succeed, and that those that fail return zero values.
func expectSlicingConsistent(t *testing.T, p, q impl.Program, keep []int) {
	t.Helper()
	results := slicingCalls(p, q, keep)
	valid := isProgramByTable(p)
	unrolled, okKeep := valid && isUnrolledByTable(p), true
	for i, v := range keep {
		okKeep = okKeep && v >= 0 && v < len(p.Vars) && (i == 0 || v > keep[i-1])
	}
	both := okKeep && slices.Equal(p.Vars, q.Vars) && isInferable(p) && isInferable(q)
	wanted := []bool{unrolled && okKeep, unrolled && okKeep, unrolled && okKeep, unrolled, unrolled, unrolled && okKeep, both}
	zeros := []any{[]int(nil), []int(nil), impl.Program{}, []int(nil), impl.Program{}, impl.Program{}, false}
	for i, ok := range wanted {
		if results[2*i+1] != ok || !ok && !reflect.DeepEqual(results[2*i], zeros[i]) {
			t.Fatalf("function %d, success %v: %.60v of %+v and %+v: %v", i, ok, keep, p, q, results[2*i])
		}
	}
}

func TestPromise33SlicingAcceptsAllArguments(t *testing.T) {
	programs := examplesAndFaults()
	add := addWithSpoiled(&programs)
	randomUnrolledPrograms(88, 800, add)
	randomCallingPrograms(89, 200, add)
	ints := []int{math.MinInt, -1, 0, 1, 2, 4, 5, math.MaxInt}
	lists := [][]int{nil, {}, {0}, {1}, {0, 1}, {0, 0}, {1, 0, 1}, {-1}, {4}, {5}, {0, 1, 2, 3, 4}, {math.MinInt, math.MaxInt}, {math.MaxInt, math.MinInt}, ints, make([]int, 5)}
	for i, p := range programs {
		for j := range 6 {
			expectSlicingConsistent(t, p, programs[(i+j%2)%len(programs)], lists[(i*5+j*7)%len(lists)])
		}
		expectSlicingConsistent(t, p, p, lists[i%5])
	}
}

func TestPromise33SlicingNeitherModifiesNorShares(t *testing.T) {
	programs := append(validPrograms(), exampleG(), programOfAll(), outOfOrder(), impl.Program{})
	randomUnrolledPrograms(90, 1500, func(source *rand.Rand, p impl.Program) {
		if source.Intn(5) == 0 {
			spoil(source, &p)
		}
		programs = append(programs, p)
	})
	source := rand.New(rand.NewSource(91))
	for i, plain := range programs {
		p, q, keep := programWithSpare(plain), programWithSpare(plain), withSpareInts(randomResources(source, len(plain.Vars)))
		before, keepBefore := whole(p), slices.Clone(keep[:cap(keep)])
		calls := slicingCalls(p, q, keep)
		first := describe(calls)
		expectProgramsApart(t, calls, append(spansIn(p), spanOf(keep)))
		expectUnshared(t, calls, overwrite)
		if !reflect.DeepEqual(whole(p), before) || !reflect.DeepEqual(whole(q), before) || !slices.Equal(keep[:cap(keep)], keepBefore) {
			t.Fatalf("case %d: an argument was modified, or a result shares its memory", i)
		}
		if again := describe(slicingCalls(plain, plain, slices.Clone(keep))); again != first {
			t.Fatalf("case %d: the results depend on more than the arguments: %s and %s", i, first, again)
		}
	}
}
