package tests

import (
	"fmt"
	"maps"
	"math/big"
	"math/rand"
	"slices"

	"loop.example/g00893/impl"
)

// randomUnrolledPrograms calls check with random unrolled programs, many of which are not numbered in pre-order.
func randomUnrolledPrograms(seed int64, count int, check func(source *rand.Rand, p impl.Program)) {
	source := rand.New(rand.NewSource(seed))
	for i := range count {
		p := randomProgram(source, i%25)
		if i%2 == 0 {
			p = randomThriftyProgram(source, i%25)
		}
		if len(p.Stmts) <= 17 {
			enliven(source, &p)
		}
		p = withoutCalls(source, p)
		removeLoops(source, &p)
		check(source, p)
	}
}

// removeLoops replaces the loops of a program without calls, and most of the samples by ones with a single choice if the
// values of many variables are to be known.
func removeLoops(source *rand.Rand, p *impl.Program) {
	certain := source.Intn(4)
	for i, s := range p.Stmts {
		switch s.Kind {
		case impl.StRepeat:
			p.Stmts[i] = impl.Stmt{Kind: impl.StIf, Expr: source.Intn(len(p.Exprs)), Else: s.Then}
			if len(s.Then) == 0 {
				p.Stmts[i] = assign(source.Intn(len(p.Vars)), source.Intn(len(p.Exprs))).stmt
			}
		case impl.StWhile:
			p.Stmts[i] = impl.Stmt{Kind: impl.StWhile, Expr: s.Expr}
			if len(s.Then) > 0 {
				p.Stmts[i] = impl.Stmt{Kind: impl.StIf, Expr: s.Expr, Then: s.Then}
			}
		case impl.StSample:
			if source.Intn(4) < certain {
				p.Stmts[i].Choices = s.Choices[:1]
			}
		}
	}
}

// randomKeep returns some of the variables, or all of them, or none.
func randomKeep(source *rand.Rand, p impl.Program) []int {
	keep := randomResources(source, len(p.Vars))
	switch source.Intn(4) {
	case 0:
		return []int{source.Intn(len(p.Vars))}
	case 1:
		return keep[:len(keep)/2]
	}
	return keep
}

// pathsThrough returns all lists of statements that a block may execute whatever its conditions are, and false if there
// are too many of them.
func pathsThrough(p impl.Program, block []int) ([][]int, bool) {
	paths := [][]int{nil}
	for _, at := range block {
		ways := [][]int{nil}
		if s := p.Stmts[at]; s.Kind == impl.StIf {
			then, okThen := pathsThrough(p, s.Then)
			els, okEls := pathsThrough(p, s.Else)
			if !okThen || !okEls {
				return nil, false
			}
			ways = slices.Concat(then, els)
		}
		var longer [][]int
		for _, path := range paths {
			for _, way := range ways {
				longer = append(longer, slices.Concat(path, []int{at}, way))
			}
		}
		if paths = longer; len(paths) > 500 {
			return nil, false
		}
	}
	return paths, true
}

// needs is the reference for liveness. It goes by the paths through a program: a statement is needed if it may end the
// execution, if it contains a needed statement, or if some path reads, in a needed statement or at the end, what it
// assigns.
type needs struct {
	p      impl.Program
	keep   []int
	paths  [][]int
	needed map[int]bool
}

func needsOf(p impl.Program, keep []int) (needs, bool) {
	paths, ok := pathsThrough(p, p.Body)
	n := needs{p, keep, paths, map[int]bool{}}
	for before := -1; before < len(n.needed); {
		before = len(n.needed)
		for at, s := range p.Stmts {
			inner := func(i int) bool { return n.needed[i] }
			if s.Kind == impl.StObserve || s.Kind == impl.StWhile || slices.ContainsFunc(slices.Concat(s.Then, s.Else), inner) {
				n.needed[at] = true
			}
		}
		for _, path := range paths {
			for i, at := range path {
				if s := p.Stmts[at]; (s.Kind == impl.StAssign || s.Kind == impl.StSample) && n.isRead(s.Var, path[i+1:]) {
					n.needed[at] = true
				}
			}
		}
	}
	return n, ok
}

// isRead reports whether the rest of a path reads a variable before it assigns it.
func (n needs) isRead(v int, rest []int) bool {
	for _, at := range rest {
		s := n.p.Stmts[at]
		if n.needed[at] && hasExpression(s) && slices.Contains(varsBelow(n.p.Exprs, s.Expr), v) {
			return true
		}
		if (s.Kind == impl.StAssign || s.Kind == impl.StSample) && s.Var == v {
			return false
		}
	}
	return slices.Contains(n.keep, v)
}

// live is the reference for LiveAtStart.
func (n needs) live() []int {
	live := []int{}
	for v := range n.p.Vars {
		if slices.ContainsFunc(n.paths, func(path []int) bool { return n.isRead(v, path) }) {
			live = append(live, v)
		}
	}
	return live
}

// dead is the reference for DeadStatements.
func (n needs) dead() []int {
	dead := []int{}
	for at := range n.p.Stmts {
		if !n.needed[at] {
			dead = append(dead, at)
		}
	}
	return dead
}

// neededTrees returns a block without the statements that are not needed.
func (n needs) neededTrees(block []int) []tree {
	var trees []tree
	for _, at := range block {
		if s := n.p.Stmts[at]; n.needed[at] {
			then, els := n.neededTrees(s.Then), n.neededTrees(s.Else)
			s.Then, s.Else = nil, nil
			trees = append(trees, tree{s, then, els})
		}
	}
	return trees
}

// slice is the reference for SliceFor.
func (n needs) slice() impl.Program { return planted(n.p, n.neededTrees(n.p.Body)) }

// facts are the values of the known variables.
type facts map[int]int

// about returns the value of an expression, and false if it is not known.
func (f facts) about(p impl.Program, e int) (int, bool) {
	for _, v := range varsBelow(p.Exprs, e) {
		if _, ok := f[v]; !ok {
			return 0, false
		}
	}
	values := make([]int, len(p.Vars))
	for v, value := range f {
		values[v] = value
	}
	return valueByMemo(p.Exprs, e, values, map[int]int{}), true
}

// through returns what is left of trees, and the facts behind them.
func (f facts) through(p impl.Program, trees []tree) ([]tree, facts) {
	var left []tree
	for _, t := range trees {
		var some []tree
		some, f = f.throughOne(p, t)
		left = append(left, some...)
	}
	return left, f
}

func (f facts) throughOne(p impl.Program, t tree) ([]tree, facts) {
	value, known := 0, false
	if hasExpression(t.stmt) {
		value, known = f.about(p, t.stmt.Expr)
	}
	after, v := maps.Clone(f), t.stmt.Var
	switch t.stmt.Kind {
	case impl.StAssign:
		if delete(after, v); known {
			after[v] = value % p.Vars[v].Size
		}
	case impl.StSample:
		if delete(after, v); len(t.stmt.Choices) == 1 {
			after[v] = t.stmt.Choices[0].Value
		}
	case impl.StObserve, impl.StWhile:
		if known && (value > 0) == (t.stmt.Kind == impl.StObserve) {
			return nil, f
		}
	case impl.StIf:
		then, afterThen := f.through(p, t.then)
		els, afterEls := f.through(p, t.els)
		if known && value > 0 {
			return then, afterThen
		}
		if known {
			return els, afterEls
		}
		t.then, t.els = then, els
		after = maps.Clone(afterThen)
		maps.DeleteFunc(after, func(v, value int) bool { other, ok := afterEls[v]; return !ok || other != value })
	}
	return []tree{t}, after
}

// propagatedByReference is the reference for Propagate and KnownAtEnd.
func propagatedByReference(p impl.Program) (impl.Program, []int) {
	start := facts{}
	for v := range p.Vars {
		start[v] = 0
	}
	trees, end := start.through(p, forest(p, p.Body))
	var known []int
	for v := range p.Vars {
		value, ok := end[v]
		if !ok {
			value = -1
		}
		known = append(known, value)
	}
	return planted(p, trees), known
}

// simplifiedByReference is the reference for Simplify; it also returns how often either step changed the program.
func simplifiedByReference(p impl.Program, keep []int) (impl.Program, int, bool) {
	for changes := 0; ; changes++ {
		q, _ := propagatedByReference(p)
		n, ok := needsOf(q, keep)
		if !ok {
			return impl.Program{}, changes, false
		}
		sliced := n.slice()
		if impl.EqualPrograms(p, q) && impl.EqualPrograms(q, sliced) {
			return p, changes, true
		}
		p = sliced
	}
}

// keptByReference returns the masses of the values of the variables in keep, and the lost masses, and false if this
// takes too long.
func keptByReference(p impl.Program, keep []int) (map[string]*big.Rat, bool) {
	w := allAtOnce{p: p, rejected: new(big.Rat), exhausted: new(big.Rat)}
	final := w.block(p.Body, p.Fuel, crowd{[5]int{}: big.NewRat(1, 1)})
	masses := map[string]*big.Rat{"rejected": w.rejected, "exhausted": w.exhausted}
	for values, mass := range final {
		text := ""
		for _, v := range keep {
			text += fmt.Sprint(v, values[v], " ")
		}
		if masses[text] == nil {
			masses[text] = new(big.Rat)
		}
		masses[text].Add(masses[text], mass)
	}
	return masses, w.steps <= maxSteps
}

func sameMasses(a, b map[string]*big.Rat) bool {
	return maps.EqualFunc(a, b, func(x, y *big.Rat) bool { return x.Cmp(y) == 0 })
}
