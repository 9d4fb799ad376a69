package tests

import (
	"slices"
	"strings"

	"loop.example/g00893/impl"
)

// operatorValues returns the values of all operators for all operands.
func operatorValues() [impl.OpNot + 1][impl.MaxConst + 1][impl.MaxConst + 1]int {
	var table [impl.OpNot + 1][impl.MaxConst + 1][impl.MaxConst + 1]int
	for op := impl.OpAdd; op <= impl.OpNot; op++ {
		for a := range impl.MaxConst + 1 {
			for b := range impl.MaxConst + 1 {
				table[op][a][b] = valueByMemo([]impl.Expr{constant(a), constant(b), binary(op, 0, 1)}, 2, nil, map[int]int{})
			}
		}
	}
	return table
}

var valueTable = operatorValues()

// boundsByValues is the reference for RangeOf: it applies each operator to all values in the ranges of its operands.
func boundsByValues(p impl.Program) [][2]int {
	var bounds [][2]int
	for _, x := range p.Exprs {
		low, high := impl.MaxConst, 0
		switch x.Op {
		case impl.OpConst:
			low, high = x.Val, x.Val
		case impl.OpVar:
			low, high = 0, p.Vars[x.Val].Size-1
		default:
			for a := bounds[x.A][0]; a <= bounds[x.A][1]; a++ {
				for b := bounds[x.B][0]; b <= bounds[x.B][1]; b++ {
					low, high = min(low, valueTable[x.Op][a][b]), max(high, valueTable[x.Op][a][b])
				}
			}
		}
		bounds = append(bounds, [2]int{low, high})
	}
	return bounds
}

// usesFromTop is the reference for CountUses without its limit: it hands down how often each expression is used.
func usesFromTop(p impl.Program, e int) []int {
	uses, times := make([]int, len(p.Vars)), make([]int, e+1)
	times[e] = 1
	for at := e; at >= 0; at-- {
		x := p.Exprs[at]
		fields := fieldsOfOperators[x.Op]
		if x.Op == impl.OpVar {
			uses[x.Val] += times[at]
		}
		if strings.Contains(fields, "A") {
			times[x.A] += times[at]
		}
		if strings.Contains(fields, "B") {
			times[x.B] += times[at]
		}
	}
	return uses
}

func hasExpression(s impl.Stmt) bool { return strings.Contains(fieldsOfKinds[s.Kind], "E") }

// errorsByTable is the reference for TypeErrors: it asks for each possible error whether it is there.
func errorsByTable(p impl.Program) []impl.TypeError {
	bounds, assigned := boundsByValues(p), make([]bool, 5)
	for _, s := range p.Stmts {
		assigned[s.Var] = assigned[s.Var] || strings.Contains(fieldsOfKinds[s.Kind], "V")
	}
	var list []impl.TypeError
	for at, s := range p.Stmts {
		if !hasExpression(s) {
			continue
		}
		low, high := bounds[s.Expr][0], bounds[s.Expr][1]
		if s.Kind == impl.StAssign && high > p.Vars[s.Var].Size-1 {
			list = append(list, impl.TypeError{Code: 1, Stmt: at, Var: s.Var})
		}
		if s.Kind != impl.StAssign && (low != 0 || high == 0) {
			list = append(list, impl.TypeError{Code: 2, Stmt: at})
		}
		for v, count := range usesFromTop(p, s.Expr) {
			if count > 0 && !assigned[v] {
				list = append(list, impl.TypeError{Code: 3, Stmt: at, Var: v})
				break
			}
		}
	}
	return list
}

// unreadByTable is the reference for UnreadVars.
func unreadByTable(p impl.Program) []int {
	list := []int{}
	for v := range p.Vars {
		if !slices.ContainsFunc(p.Stmts, func(s impl.Stmt) bool { return hasExpression(s) && usesFromTop(p, s.Expr)[v] > 0 }) {
			list = append(list, v)
		}
	}
	return list
}

// walk is one path through a program that ignores conditions. It takes the alternatives with the indices in picks, and the
// first ones after them.
type walk struct {
	run
	read []bool
	seen *uses
}

// uses is what the paths through a program do with its variables: the misuses, by statement and variable, and the
// variables that are consumed at an end.
type uses struct {
	misuses  map[[2]int]bool
	consumed [5]bool
	reached  map[int]bool
}

func (w *walk) choose(alternatives int) int {
	if len(w.sizes) == len(w.picks) {
		w.picks = append(w.picks, 0)
	}
	w.sizes = append(w.sizes, alternatives)
	return w.picks[len(w.sizes)-1]
}

func (w *walk) reads(at int) {
	for v, count := range usesFromTop(w.p, w.p.Stmts[at].Expr) {
		if count > 1 || count == 1 && w.read[v] {
			w.seen.misuses[[2]int{at, v}] = true
		}
		w.read[v] = w.read[v] || count > 0
	}
}

// follow takes the path through a block, and reports whether it goes on behind it.
func (w *walk) follow(block []int, fuel int) bool {
	for _, at := range block {
		w.steps++
		w.seen.reached[at] = true
		if w.steps > maxSteps || !w.through(at, fuel) {
			return false
		}
	}
	return true
}

func (w *walk) through(at, fuel int) bool {
	s := w.p.Stmts[at]
	if hasExpression(s) && s.Kind != impl.StWhile {
		w.reads(at)
	}
	switch s.Kind {
	case impl.StAssign, impl.StSample:
		w.read[s.Var] = false
	case impl.StIf:
		return w.follow([][]int{s.Then, s.Else}[w.choose(2)], fuel)
	case impl.StRepeat:
		return w.follow(slices.Repeat(s.Then, s.Times), fuel)
	case impl.StWhile:
		for range w.choose(s.Times + 1) {
			if w.reads(at); !w.follow(s.Then, fuel) {
				return false
			}
		}
		w.reads(at)
	case impl.StCall:
		return fuel > 0 && w.follow(w.p.Procs[s.Proc].Body, fuel-1)
	}
	return true
}

// usesOnPaths follows all paths through a program, and reports whether these are few enough.
func usesOnPaths(p impl.Program, limit int) (uses, bool) {
	seen := uses{misuses: map[[2]int]bool{}, reached: map[int]bool{}}
	picks := []int{}
	for range limit {
		w := walk{run: run{p: p, picks: picks}, read: make([]bool, len(p.Vars)), seen: &seen}
		ends := w.follow(p.Body, p.Fuel)
		if w.steps > maxSteps {
			return uses{}, false
		}
		for v, read := range w.read {
			seen.consumed[v] = seen.consumed[v] || ends && read
		}
		if picks = w.next(); picks == nil {
			return seen, true
		}
	}
	return uses{}, false
}

// misuseOf returns the statement and the variable of the first misuse of a resource, or nil if there is none.
func (u uses) misuseOf(resources []int) []int {
	var first []int
	for m := range u.misuses {
		if slices.Contains(resources, m[1]) && (first == nil || slices.Compare(m[:], first) < 0) {
			first = []int{m[0], m[1]}
		}
	}
	return first
}

// consumedOf returns the resources that are consumed at an end.
func (u uses) consumedOf(resources []int) []int {
	list := []int{}
	for _, v := range resources {
		if u.consumed[v] {
			list = append(list, v)
		}
	}
	return list
}
