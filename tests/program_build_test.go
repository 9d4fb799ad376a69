package tests

import (
	"slices"

	"loop.example/g00893/impl"
)

// tree is a statement together with the statements nested in it.
type tree struct {
	stmt      impl.Stmt
	then, els []tree
}

func skip() tree { return tree{stmt: impl.Stmt{Kind: impl.StSkip}} }

func assign(v, e int) tree { return tree{stmt: impl.Stmt{Kind: impl.StAssign, Var: v, Expr: e}} }

// sample chooses among the values 0, 1 and so on with the given weights; it leaves out those of weight 0.
func sample(v int, weights ...int) tree {
	var choices []impl.Choice
	for value, weight := range weights {
		if weight != 0 {
			choices = append(choices, impl.Choice{Value: value, Weight: weight})
		}
	}
	return tree{stmt: impl.Stmt{Kind: impl.StSample, Var: v, Choices: choices}}
}

func observe(e int) tree { return tree{stmt: impl.Stmt{Kind: impl.StObserve, Expr: e}} }

func ifElse(e int, then, els []tree) tree {
	return tree{stmt: impl.Stmt{Kind: impl.StIf, Expr: e}, then: then, els: els}
}

func repeat(times int, then ...tree) tree {
	return tree{stmt: impl.Stmt{Kind: impl.StRepeat, Times: times}, then: then}
}

func while(e, times int, then ...tree) tree {
	return tree{stmt: impl.Stmt{Kind: impl.StWhile, Expr: e, Times: times}, then: then}
}

func call(proc int) tree { return tree{stmt: impl.Stmt{Kind: impl.StCall, Proc: proc}} }

// place appends the statements of a block to a program, each one before those nested in it, and returns their indices.
func place(p *impl.Program, block []tree) []int {
	var indices []int
	for _, t := range block {
		at := len(p.Stmts)
		indices = append(indices, at)
		p.Stmts = append(p.Stmts, t.stmt)
		then := place(p, t.then)
		els := place(p, t.els)
		p.Stmts[at].Then, p.Stmts[at].Else = then, els
	}
	return indices
}

// program returns a program with variables a, b and so on of the given sizes and procedures f, g and so on.
func program(sizes []int, exprs []impl.Expr, fuel int, procs [][]tree, body ...tree) impl.Program {
	p := impl.Program{Exprs: exprs, Fuel: fuel}
	for i, size := range sizes {
		p.Vars = append(p.Vars, impl.Var{Name: string(rune('a' + i)), Size: size})
	}
	for i, block := range procs {
		p.Procs = append(p.Procs, impl.Proc{Name: string(rune('f' + i)), Body: place(&p, block)})
	}
	p.Body = place(&p, body)
	return p
}

func constant(value int) impl.Expr { return impl.Expr{Op: impl.OpConst, Val: value} }

func variable(v int) impl.Expr { return impl.Expr{Op: impl.OpVar, Val: v} }

func not(a int) impl.Expr { return impl.Expr{Op: impl.OpNot, A: a} }

func binary(op, a, b int) impl.Expr { return impl.Expr{Op: op, A: a, B: b} }

// exampleG is the program of the examples of chapter 3.
func exampleG() impl.Program {
	exprs := []impl.Expr{variable(0), variable(1), binary(impl.OpOr, 0, 1)}
	return program([]int{2, 2}, exprs, 0, nil, sample(0, 1, 2), sample(1, 1, 1), observe(2))
}

// everyKind is a valid program that contains every operator and every kind of statement.
func everyKind() impl.Program {
	exprs := []impl.Expr{
		variable(0), constant(20), binary(impl.OpAdd, 0, 1), binary(impl.OpSub, 2, 0), binary(impl.OpMul, 3, 3),
		binary(impl.OpEq, 4, 1), binary(impl.OpLess, 0, 5), binary(impl.OpAnd, 6, 0), binary(impl.OpOr, 7, 1), not(8),
		variable(2),
	}
	procs := [][]tree{{assign(1, 4), call(1)}, {sample(2, 1, 0, 12), call(0)}}
	return program([]int{2, 3, 4}, exprs, 2, procs,
		skip(), assign(0, 3), sample(1, 3, 4, 5), observe(2),
		ifElse(10, []tree{skip(), call(0)}, []tree{repeat(4, sample(0, 1, 1), call(1))}),
		while(6, 4, assign(0, 9), while(7, 0, skip())))
}

// clonedProgram returns a program that shares no memory with p.
func clonedProgram(p impl.Program) impl.Program {
	p.Vars, p.Exprs, p.Body = slices.Clone(p.Vars), slices.Clone(p.Exprs), slices.Clone(p.Body)
	p.Stmts, p.Procs = slices.Clone(p.Stmts), slices.Clone(p.Procs)
	for i, s := range p.Stmts {
		p.Stmts[i].Choices = slices.Clone(s.Choices)
		p.Stmts[i].Then, p.Stmts[i].Else = slices.Clone(s.Then), slices.Clone(s.Else)
	}
	for i, proc := range p.Procs {
		p.Procs[i].Body = slices.Clone(proc.Body)
	}
	return p
}

// changed returns a copy of p to which an edit was applied.
func changed(p impl.Program, edit func(p *impl.Program)) impl.Program {
	p = clonedProgram(p)
	edit(&p)
	return p
}
