package tests

import (
	"math"
	"math/rand"
	"reflect"
	"slices"
	"testing"

	"loop.example/g00893/impl"
)

// randomCallingPrograms calls check with random programs; most of those with procedures call them, and few become too
// large.
func randomCallingPrograms(seed int64, count int, check func(source *rand.Rand, p impl.Program)) {
	randomPrograms(seed, count, func(source *rand.Rand, p impl.Program) {
		if source.Intn(3) == 0 {
			p = withoutCalls(source, p)
		}
		for i, s := range p.Stmts {
			if len(p.Procs) > 0 && nestedBlocks(s.Kind) == 0 && source.Intn(4) == 0 {
				p.Stmts[i] = call(source.Intn(len(p.Procs))).stmt
			}
			if s.Times > 0 {
				p.Stmts[i].Times = max(s.Times-source.Intn(4), truthOf(s.Kind == impl.StRepeat))
			}
		}
		if len(p.Procs) > 0 {
			addCalls(source, &p)
		}
		check(source, p)
	})
}

// addCalls appends calls to the body of a program, about half of them in branches.
func addCalls(source *rand.Rand, p *impl.Program) {
	for range 1 + source.Intn(5) {
		last := call(source.Intn(len(p.Procs)))
		if e := source.Intn(2) * source.Intn(len(p.Exprs)); source.Intn(2) == 0 {
			last = ifElse(e, []tree{last}, nil)
		}
		if len(p.Stmts)+treesIn([]tree{last}) <= impl.MaxStmts {
			p.Body = append(p.Body, place(p, []tree{last})...)
		}
	}
}

// withoutCalls returns a program without procedures; their statements come into the body.
func withoutCalls(source *rand.Rand, p impl.Program) impl.Program {
	p = clonedProgram(p)
	for _, proc := range p.Procs {
		p.Body = slices.Insert(p.Body, source.Intn(len(p.Body)+1), proc.Body...)
	}
	for i, s := range p.Stmts {
		if s.Kind == impl.StCall {
			p.Stmts[i] = assign(source.Intn(len(p.Vars)), source.Intn(len(p.Exprs))).stmt
		}
	}
	p.Procs = nil
	return p
}

// expectSameExecutions checks that a program has the same result, the same number of paths and the same executions as
// another one, and returns the result, if there is one.
func expectSameExecutions(t *testing.T, what string, p, q impl.Program, draws []int) (impl.Result, bool) {
	t.Helper()
	r, ok := impl.Infer(p)
	again, okAgain := impl.Infer(q)
	if ok != okAgain || !sameResults(r, again) {
		t.Fatalf("%s of %+v: %+v %v instead of %+v %v", what, p, again, okAgain, r, ok)
	}
	paths, okPaths := impl.CountPaths(p)
	if count, ok := impl.CountPaths(q); count != paths || ok != okPaths {
		t.Fatalf("%s of %+v: %d paths instead of %d", what, p, count, paths)
	}
	x, okRun := impl.RunWith(p, draws)
	if y, ok := impl.RunWith(q, draws); ok != okRun || !sameRuns(x, y) {
		t.Fatalf("%s of %+v with %v: %+v instead of %+v", what, p, draws, y, x)
	}
	return r, ok
}

// rewriteCounts tells how often programs of each kind were rewritten.
type rewriteCounts struct{ done, changed, several, rejected, exhausted, failures int }

func (c *rewriteCounts) add(p, q impl.Program, r impl.Result) {
	c.done++
	c.changed += truthOf(!impl.EqualPrograms(p, q))
	c.several += truthOf(len(r.States) > 1)
	c.rejected += truthOf(r.Rejected != zeroRat)
	c.exhausted += truthOf(r.Exhausted != zeroRat)
}

func (c rewriteCounts) areEnough() bool {
	return c.done > 1000 && min(c.changed, c.several, c.rejected, c.exhausted) > 200
}

func TestPromise7RewritingPreservesTheExactResult(t *testing.T) {
	counts := map[string]*rewriteCounts{}
	for what := range rewritings() {
		counts[what] = &rewriteCounts{}
	}
	randomCallingPrograms(71, 6000, func(source *rand.Rand, p impl.Program) {
		draws := randomDraws(source)
		for what, rewrite := range rewritings() {
			q, ok := rewrite(p)
			if !ok {
				counts[what].failures++
				continue
			}
			if !isProgramByTable(q) {
				t.Fatalf("%s of %+v is not valid: %+v", what, p, q)
			}
			if r, ok := expectSameExecutions(t, what, p, q, draws); ok {
				counts[what].add(p, q, r)
			}
		}
	})
	for what, c := range counts {
		if !c.areEnough() || c.failures < 200 && what != "Renumbered" {
			t.Errorf("%s: too few programs: %+v", what, *c)
		}
	}
}

// TestPromise7CallsWithoutFuel has programs without other loops, so that nothing else exhausts an execution.
func TestPromise7CallsWithoutFuel(t *testing.T) {
	exhausted, both, rewritten := 0, 0, 0
	randomCallingPrograms(72, 8000, func(source *rand.Rand, p impl.Program) {
		for i, s := range p.Stmts {
			switch s.Kind {
			case impl.StWhile, impl.StIf:
				p.Stmts[i] = impl.Stmt{Kind: impl.StIf, Expr: source.Intn(2) * s.Expr, Then: s.Then, Else: s.Else}
			case impl.StObserve:
				p.Stmts[i] = sample(0, 1, 2).stmt
			}
		}
		q, ok := impl.InlineCalls(p)
		if !ok {
			return
		}
		r, ok := expectSameExecutions(t, "InlineCalls", p, q, randomDraws(source))
		depth, _ := impl.CallDepth(p)
		if appends := len(q.Exprs) > len(p.Exprs); appends != (depth > p.Fuel) || !appends && ok && r.Exhausted != zeroRat {
			t.Fatalf("%+v: depth %d, expressions %v, result %+v", p, depth, q.Exprs, r)
		}
		rewritten++
		exhausted += truthOf(ok && r.Exhausted != zeroRat)
		both += truthOf(ok && r.Exhausted != zeroRat && len(r.States) > 0)
	})
	if rewritten < 4000 || exhausted < 500 || both < 40 {
		t.Errorf("%d programs, %d of them exhausted, %d of these in some executions", rewritten, exhausted, both)
	}
}

func TestRewrittenProgramsAgreeWithReference(t *testing.T) {
	inlined, exhausted, unrolled, full, failures := 0, 0, 0, 0, 0
	randomCallingPrograms(73, 12000, func(source *rand.Rand, p impl.Program) {
		expectRewritten(t, "renumbered", impl.Renumbered, p, renumberedByReference(p))
		q, calls, _ := inlinedByReference(p)
		expectRewritten(t, "inlined", impl.InlineCalls, p, q)
		r, _ := unrolledByReference(p)
		expectRewritten(t, "unrolled", impl.UnrollLoops, p, r)
		both, ok := impl.Program{}, len(q.Vars) > 0
		if ok {
			both, ok = unrolledByReference(q)
		}
		expectRewritten(t, "both", impl.Unrolled, p, both)
		if t.Failed() {
			t.Fatalf("%+v", p)
		}
		inlined += truthOf(ok && len(p.Procs) > 0 && len(both.Stmts) > 3)
		exhausted += truthOf(ok && calls > 1)
		unrolled += truthOf(len(r.Vars) > 0 && len(r.Stmts) > len(p.Stmts))
		full += truthOf(len(q.Stmts) > 20) + truthOf(len(both.Stmts) > 20)
		failures += truthOf(!ok)
	})
	if min(inlined, exhausted, unrolled, full, failures) < 300 {
		t.Errorf("%d programs inlined, %d without fuel, %d unrolled, %d large ones, %d failures", inlined, exhausted, unrolled, full, failures)
	}
}

// TestRewritingTwice checks that nothing is left to do in a program that has been rewritten.
func TestRewritingTwice(t *testing.T) {
	done := 0
	randomCallingPrograms(74, 3000, func(source *rand.Rand, p impl.Program) {
		for what, rewrite := range rewritings() {
			q, ok := rewrite(p)
			if !ok {
				continue
			}
			expectRewritten(t, what+", twice", rewrite, q, q)
			expectRewritten(t, what+", renumbered", impl.Renumbered, q, q)
			is, ok := impl.IsUnrolled(q)
			if ok && is != isUnrolledByTable(q) || !ok || !is && (what == "UnrollLoops" || what == "Unrolled") {
				t.Errorf("%s of %+v: unrolled %v %v", what, p, is, ok)
			}
			done++
		}
		if t.Failed() {
			t.Fatalf("%+v", p)
		}
	})
	if done < 5000 {
		t.Errorf("only %d programs", done)
	}
}

func TestCallsAgreeWithReference(t *testing.T) {
	recursive, finite := 0, 0
	var depths [5]int
	randomCallingPrograms(75, 8000, func(source *rand.Rand, p impl.Program) {
		var cycles []int
		for i := range p.Procs {
			if isRecursiveByClosure(p, i) {
				cycles = append(cycles, i)
			}
		}
		depth := depthByFuel(p, p.Body, p.Fuel)
		callsOf{"random program", p, graphByOwners(p), cycles, depth}.expect(t)
		if t.Failed() {
			t.Fatalf("%+v", p)
		}
		recursive += truthOf(len(cycles) > 0)
		finite += truthOf(len(p.Procs) > len(cycles))
		depths[depth]++
	})
	if min(recursive, finite) < 500 || slices.Min(depths[:]) < 100 {
		t.Errorf("%d programs with recursion, %d with other procedures, depths %v", recursive, finite, depths)
	}
}

// inliningCalls returns the results of all functions of chapter 7, each followed by whether it succeeded.
func inliningCalls(p impl.Program, proc int) []any {
	graph, okGraph := impl.CallGraph(p)
	recursive, okRecursive := impl.IsRecursive(p, proc)
	depth, okDepth := impl.CallDepth(p)
	unrolled, okUnrolled := impl.IsUnrolled(p)
	inlined, okInlined := impl.InlineCalls(p)
	loops, okLoops := impl.UnrollLoops(p)
	both, okBoth := impl.Unrolled(p)
	renumbered, okRenumbered := impl.Renumbered(p)
	return []any{graph, okGraph, recursive, okRecursive, depth, okDepth, unrolled, okUnrolled, inlined, okInlined,
		loops, okLoops, both, okBoth, renumbered, okRenumbered}
}

// expectInliningConsistent checks which calls succeed, and that those that fail return zero values.
func expectInliningConsistent(t *testing.T, p impl.Program, proc int) {
	t.Helper()
	results := inliningCalls(p, proc)
	valid := isProgramByTable(p)
	okProc, okInlined, okLoops, okBoth := valid && proc >= 0 && proc < len(p.Procs), false, false, false
	if valid {
		var q impl.Program
		q, _, okInlined = inlinedByReference(p)
		_, okLoops = unrolledByReference(p)
		if okInlined {
			_, okBoth = unrolledByReference(q)
		}
	}
	wanted := []bool{valid, okProc, valid, valid, okInlined, okLoops, okBoth, valid}
	zeros := []any{[][]int(nil), false, 0, false, impl.Program{}, impl.Program{}, impl.Program{}, impl.Program{}}
	for i, ok := range wanted {
		if results[2*i+1] != ok || !ok && !reflect.DeepEqual(results[2*i], zeros[i]) {
			t.Fatalf("function %d, success %v: %d of %+v: %v", i, ok, proc, p, results[2*i])
		}
	}
}

func TestPromise33InliningAcceptsAllArguments(t *testing.T) {
	programs := append(validPrograms(), programOfAll(), ladder(), exampleOfTyping(), exampleOfInlining())
	for _, p := range invalidPrograms() {
		programs = append(programs, p)
	}
	randomCallingPrograms(76, 1500, func(source *rand.Rand, p impl.Program) {
		for range source.Intn(6) {
			spoil(source, &p)
		}
		programs = append(programs, p)
	})
	for _, p := range programs {
		for _, proc := range []int{math.MinInt, -1, 0, 1, 2, len(p.Procs) - 1, len(p.Procs), math.MaxInt} {
			expectInliningConsistent(t, p, proc)
		}
	}
}

// expectGraphApart checks that no two lists of a graph share memory.
func expectGraphApart(t *testing.T, graph [][]int) {
	t.Helper()
	for i := range graph {
		others := describe([]any{graph[:i], graph[i+1:]})
		if fill(graph[i], 77); describe([]any{graph[:i], graph[i+1:]}) != others {
			t.Fatalf("list %d shares memory with another one", i)
		}
	}
}

func TestPromise33InliningNeitherModifiesNorShares(t *testing.T) {
	programs := append(validPrograms(), exampleG(), programOfAll(), exampleOfInlining(), impl.Program{})
	randomCallingPrograms(77, 1500, func(source *rand.Rand, p impl.Program) {
		if source.Intn(5) == 0 {
			spoil(source, &p)
		}
		programs = append(programs, p)
	})
	for i, plain := range programs {
		p := programWithSpare(plain)
		before := whole(p)
		calls := inliningCalls(p, i%3)
		first := describe(calls)
		expectProgramsApart(t, calls, spansIn(p))
		expectUnshared(t, calls, overwrite)
		if !reflect.DeepEqual(whole(p), before) {
			t.Fatalf("case %d: the program was modified, or a result shares its memory", i)
		}
		if again := describe(inliningCalls(plain, i%3)); again != first {
			t.Fatalf("case %d: the results depend on more than the arguments: %s and %s", i, first, again)
		}
		graph, _ := impl.CallGraph(plain)
		expectGraphApart(t, graph)
	}
}
