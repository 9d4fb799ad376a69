package tests

import (
	"fmt"
	"slices"
	"testing"
	"unsafe"

	"loop.example/g00893/impl"
)

// forest returns the statements of a block as trees.
func forest(p impl.Program, block []int) []tree {
	var trees []tree
	for _, at := range block {
		s := p.Stmts[at]
		then, els := forest(p, s.Then), forest(p, s.Else)
		s.Then, s.Else = nil, nil
		trees = append(trees, tree{s, then, els})
	}
	return trees
}

// planted returns the program with another body, numbered in pre-order, and without procedures.
func planted(p impl.Program, body []tree) impl.Program {
	q := impl.Program{Vars: p.Vars, Exprs: slices.Clone(p.Exprs), Fuel: p.Fuel}
	q.Body = place(&q, body)
	return q
}

// renumberedByReference is the reference for Renumbered.
func renumberedByReference(p impl.Program) impl.Program {
	q := planted(p, forest(p, p.Body))
	for _, proc := range p.Procs {
		q.Procs = append(q.Procs, impl.Proc{Name: proc.Name, Body: place(&q, forest(p, proc.Body))})
	}
	return q
}

// treesIn returns the number of trees, each together with those in it.
func treesIn(trees []tree) int {
	count := 0
	for _, t := range trees {
		count += 1 + treesIn(t.then) + treesIn(t.els)
	}
	return count
}

// inlinedTrees replaces the calls in trees, and lists the replacements that have no fuel.
func inlinedTrees(p impl.Program, trees []tree, fuel int, exhausted *int) []tree {
	var list []tree
	for _, t := range trees {
		switch {
		case t.stmt.Kind != impl.StCall:
			list = append(list, tree{t.stmt, inlinedTrees(p, t.then, fuel, exhausted), inlinedTrees(p, t.els, fuel, exhausted)})
		case fuel == 0:
			*exhausted++
			list = append(list, while(len(p.Exprs), 0))
		default:
			list = append(list, inlinedTrees(p, forest(p, p.Procs[t.stmt.Proc].Body), fuel-1, exhausted)...)
		}
	}
	return list
}

// inlinedByReference is the reference for InlineCalls; it also returns the number of calls without fuel.
func inlinedByReference(p impl.Program) (impl.Program, int, bool) {
	exhausted := 0
	trees := inlinedTrees(p, forest(p, p.Body), p.Fuel, &exhausted)
	q := planted(p, nil)
	q.Fuel = 0
	if exhausted > 0 {
		q.Exprs = append(q.Exprs, constant(1))
	}
	if treesIn(trees) > 24 || len(q.Exprs) > 40 {
		return impl.Program{}, exhausted, false
	}
	return planted(q, trees), exhausted, true
}

// unrolledCount returns how many trees there are after unrolling.
func unrolledCount(trees []tree) float64 {
	count := 0.0
	for _, t := range trees {
		times := float64(t.stmt.Times)
		switch t.stmt.Kind {
		case impl.StRepeat:
			count += times * unrolledCount(t.then)
		case impl.StWhile:
			count += 1 + times
			if times > 0 {
				count += times * unrolledCount(t.then)
			}
		default:
			count += 1 + unrolledCount(t.then) + unrolledCount(t.els)
		}
	}
	return count
}

// unrolledTrees unrolls the loops in trees of which there will not be too many.
func unrolledTrees(trees []tree) []tree {
	var list []tree
	if unrolledCount(trees) == 0 {
		return nil
	}
	for _, t := range trees {
		switch t.stmt.Kind {
		case impl.StRepeat:
			for range t.stmt.Times {
				list = append(list, unrolledTrees(t.then)...)
			}
		case impl.StWhile:
			list = append(list, unrolledWhile(t))
		default:
			list = append(list, tree{t.stmt, unrolledTrees(t.then), unrolledTrees(t.els)})
		}
	}
	return list
}

func unrolledWhile(t tree) tree {
	if t.stmt.Times == 0 {
		return while(t.stmt.Expr, 0)
	}
	rest := while(t.stmt.Expr, t.stmt.Times-1, t.then...)
	return ifElse(t.stmt.Expr, append(unrolledTrees(t.then), unrolledWhile(rest)), nil)
}

// unrolledByReference is the reference for UnrollLoops.
func unrolledByReference(p impl.Program) (impl.Program, bool) {
	trees := forest(p, p.Body)
	if len(p.Procs) > 0 || unrolledCount(trees) > 24 {
		return impl.Program{}, false
	}
	return planted(p, unrolledTrees(trees)), true
}

// isUnrolledByTable is the reference for IsUnrolled.
func isUnrolledByTable(p impl.Program) bool {
	loops := slices.DeleteFunc(slices.Clone(p.Stmts), func(s impl.Stmt) bool { return s.Kind < impl.StRepeat })
	only := func(s impl.Stmt) bool { return s.Kind == impl.StWhile && s.Times+len(s.Then) == 0 }
	return len(p.Procs) == 0 && !slices.ContainsFunc(loops, func(s impl.Stmt) bool { return !only(s) })
}

// ownerOf returns the procedure to which a statement belongs, or the number of procedures if it belongs to the body.
func ownerOf(p impl.Program, at int) int {
	for i, proc := range p.Procs {
		if slices.Contains(proc.Body, at) {
			return i
		}
	}
	for i, s := range p.Stmts {
		if slices.Contains(s.Then, at) || slices.Contains(s.Else, at) {
			return ownerOf(p, i)
		}
	}
	return len(p.Procs)
}

// graphByOwners is the reference for CallGraph.
func graphByOwners(p impl.Program) [][]int {
	graph := make([][]int, len(p.Procs)+1)
	for at, s := range p.Stmts {
		if s.Kind == impl.StCall {
			owner := ownerOf(p, at)
			graph[owner] = append(graph[owner], s.Proc)
		}
	}
	for i := range graph {
		slices.Sort(graph[i])
		graph[i] = slices.Compact(graph[i])
	}
	return graph
}

// isRecursiveByClosure is the reference for IsRecursive.
func isRecursiveByClosure(p impl.Program, proc int) bool {
	var reaches [3][3]bool
	for i, called := range graphByOwners(p)[:len(p.Procs)] {
		for _, j := range called {
			reaches[i][j] = true
		}
	}
	for between := range 3 {
		for i := range 3 {
			for j := range 3 {
				reaches[i][j] = reaches[i][j] || reaches[i][between] && reaches[between][j]
			}
		}
	}
	return reaches[proc][proc]
}

// depthByFuel is the reference for CallDepth.
func depthByFuel(p impl.Program, block []int, fuel int) int {
	depth := 0
	for _, at := range block {
		s := p.Stmts[at]
		switch {
		case s.Kind == impl.StWhile && s.Times == 0:
		case s.Kind == impl.StCall && fuel == 0:
			depth = max(depth, 1)
		case s.Kind == impl.StCall:
			depth = max(depth, 1+depthByFuel(p, p.Procs[s.Proc].Body, fuel-1))
		default:
			depth = max(depth, depthByFuel(p, s.Then, fuel), depthByFuel(p, s.Else, fuel))
		}
	}
	return depth
}

// span is a part of the memory.
type span struct{ start, end uintptr }

func spanOf[T any](list []T) span {
	start := uintptr(unsafe.Pointer(unsafe.SliceData(list)))
	return span{start, start + uintptr(cap(list))*unsafe.Sizeof(*new(T))}
}

// spansIn returns the memory of all lists and names of a program.
func spansIn(p impl.Program) []span {
	spans := []span{spanOf(p.Vars), spanOf(p.Exprs), spanOf(p.Stmts), spanOf(p.Procs)}
	for _, block := range blocksIn(&p) {
		spans = append(spans, spanOf(*block))
	}
	for _, s := range p.Stmts {
		spans = append(spans, spanOf(s.Choices))
	}
	for _, v := range p.Vars {
		spans = append(spans, spanOf(unsafe.Slice(unsafe.StringData(v.Name), len(v.Name))))
	}
	for _, proc := range p.Procs {
		spans = append(spans, spanOf(unsafe.Slice(unsafe.StringData(proc.Name), len(proc.Name))))
	}
	return slices.DeleteFunc(spans, func(s span) bool { return s.start == s.end })
}

// expectProgramsApart checks that no program among the results shares memory with an argument or within itself.
func expectProgramsApart(t *testing.T, results []any, argument []span) {
	t.Helper()
	for i, result := range results {
		if p, ok := result.(impl.Program); ok {
			expectApart(t, fmt.Sprint("result ", i), spansIn(p), argument)
		}
	}
}

// expectApart checks that parts of a result share no memory with each other or with an argument.
func expectApart(t *testing.T, what string, result, argument []span) {
	t.Helper()
	for i, s := range result {
		for _, other := range slices.Concat(result[:i], argument) {
			if s.start < other.end && other.start < s.end {
				t.Fatalf("%s: two lists share memory", what)
			}
		}
	}
}
