package tests

import (
	"math"
	"math/rand"
	"regexp"
	"slices"
	"strings"

	"loop.example/g00893/impl"
)

// nest numbers the statements of a random nesting, and gives each block a random order.
func nest(source *rand.Rand, p *impl.Program, stmts []impl.Stmt) {
	blocks := make([][]int, 1+len(p.Procs))
	firstBlock := make([]int, len(stmts))
	for i, s := range stmts {
		into := source.Intn(len(blocks))
		blocks[into] = slices.Insert(blocks[into], source.Intn(len(blocks[into])+1), i)
		firstBlock[i] = len(blocks)
		for range nestedBlocks(s.Kind) {
			blocks = append(blocks, nil)
		}
	}
	p.Stmts, p.Body = stmts, blocks[0]
	for i := range p.Procs {
		p.Procs[i].Body = blocks[1+i]
	}
	for i := range stmts {
		switch nestedBlocks(stmts[i].Kind) {
		case 2:
			stmts[i].Else = blocks[firstBlock[i]+1]
			fallthrough
		case 1:
			stmts[i].Then = blocks[firstBlock[i]]
		}
	}
}

func nestedBlocks(kind int) int {
	return []int{impl.StIf: 2, impl.StRepeat: 1, impl.StWhile: 1, impl.StCall: 0}[kind]
}

func randomExprs(source *rand.Rand, count, vars int) []impl.Expr {
	exprs := []impl.Expr{variable(source.Intn(vars))}
	for at := 1; at < count; at++ {
		a, b := source.Intn(at), source.Intn(at)
		switch op := 1 + source.Intn(10); op {
		case impl.OpConst:
			exprs = append(exprs, constant(source.Intn(5)*source.Intn(6)))
		case impl.OpVar:
			exprs = append(exprs, variable(source.Intn(vars)))
		case impl.OpNot:
			exprs = append(exprs, not(a))
		default:
			exprs = append(exprs, binary(op, a, b))
		}
	}
	return exprs
}

func randomStmt(source *rand.Rand, p impl.Program) impl.Stmt {
	v, e := source.Intn(len(p.Vars)), source.Intn(len(p.Exprs))
	switch kind := 1 + source.Intn(8); kind {
	case impl.StAssign:
		return assign(v, e).stmt
	case impl.StSample:
		weights := make([]int, p.Vars[v].Size)
		for i := range weights {
			weights[i] = source.Intn(13)
		}
		weights[source.Intn(len(weights))] = 12
		return sample(v, weights...).stmt
	case impl.StObserve, impl.StIf:
		return impl.Stmt{Kind: kind, Expr: e}
	case impl.StRepeat:
		return repeat(1 + source.Intn(4)).stmt
	case impl.StWhile:
		return while(e, source.Intn(5)).stmt
	case impl.StCall:
		if len(p.Procs) > 0 {
			return call(source.Intn(len(p.Procs))).stmt
		}
	}
	return skip().stmt
}

// randomProgram returns a valid program with at most the given number of statements.
func randomProgram(source *rand.Rand, maxStmts int) impl.Program {
	sizes := make([]int, 1+source.Intn(5))
	for i := range sizes {
		sizes[i] = 2 + source.Intn(3)
	}
	exprs := randomExprs(source, 1+source.Intn(40), len(sizes))
	p := program(sizes, exprs, source.Intn(4), make([][]tree, source.Intn(4)))
	var stmts []impl.Stmt
	for range source.Intn(maxStmts + 1) {
		stmts = append(stmts, randomStmt(source, p))
	}
	nest(source, &p, stmts)
	return p
}

// blocksIn returns the addresses of all lists of statement indices.
func blocksIn(p *impl.Program) []*[]int {
	blocks := []*[]int{&p.Body}
	for i := range p.Procs {
		blocks = append(blocks, &p.Procs[i].Body)
	}
	for i := range p.Stmts {
		blocks = append(blocks, &p.Stmts[i].Then, &p.Stmts[i].Else)
	}
	return blocks
}

// intsIn returns the addresses of all numbers.
func intsIn(p *impl.Program) []*int {
	ints := []*int{&p.Fuel}
	for _, block := range blocksIn(p) {
		for i := range *block {
			ints = append(ints, &(*block)[i])
		}
	}
	for i := range p.Vars {
		ints = append(ints, &p.Vars[i].Size)
	}
	for i := range p.Exprs {
		x := &p.Exprs[i]
		ints = append(ints, &x.Op, &x.A, &x.B, &x.Val)
	}
	for i := range p.Stmts {
		s := &p.Stmts[i]
		ints = append(ints, &s.Kind, &s.Var, &s.Expr, &s.Times, &s.Proc)
		for j := range s.Choices {
			ints = append(ints, &s.Choices[j].Value, &s.Choices[j].Weight)
		}
	}
	return ints
}

// spoil makes a small random change to a program.
func spoil(source *rand.Rand, p *impl.Program) {
	blocks, ints := blocksIn(p), intsIn(p)
	block, number := blocks[source.Intn(len(blocks))], ints[source.Intn(len(ints))]
	extremes := []int{math.MinInt, -1, 0, 1, 2, 3, 4, 5, 9, 12, 13, 20, 21, 24, 40, math.MaxInt}
	switch source.Intn(8) {
	case 0:
		*block = append(*block, source.Intn(25))
	case 1:
		*block = (*block)[:len(*block)/2]
	case 2:
		p.Stmts = append(p.Stmts, impl.Stmt{Kind: impl.StSkip})
	case 3:
		p.Vars[source.Intn(len(p.Vars))].Name = []string{"a", "b", "f", "if", "", "x", "not"}[source.Intn(7)]
	case 4:
		if len(p.Stmts) > 0 {
			s := &p.Stmts[source.Intn(len(p.Stmts))]
			s.Choices = append(s.Choices, impl.Choice{Value: source.Intn(4), Weight: 1})
		}
	case 5:
		*number += 1 - 2*source.Intn(2)
	default:
		*number = extremes[source.Intn(len(extremes))]
	}
}

// examplesAndFaults returns valid programs and invalid ones.
func examplesAndFaults() []impl.Program {
	programs := append(validPrograms(), programOfAll(), ladder(), exampleOfTyping(), exampleOfInlining(), outOfOrder())
	for _, p := range invalidPrograms() {
		programs = append(programs, p)
	}
	return programs
}

// addWithSpoiled appends programs to a list, each followed by one with small random changes.
func addWithSpoiled(programs *[]impl.Program) func(source *rand.Rand, p impl.Program) {
	return func(source *rand.Rand, p impl.Program) {
		*programs = append(*programs, clonedProgram(p))
		for range source.Intn(6) {
			spoil(source, &p)
		}
		*programs = append(*programs, p)
	}
}

var namePattern = regexp.MustCompile(`^[a-z][a-z0-9]{0,7}$`)

// conditions returns what a valid program fulfils, as far as no condition needs an earlier one to make sense.
func conditions(p impl.Program) []bool {
	names := map[string]bool{}
	all := []bool{len(p.Vars) >= 1, len(p.Vars) <= 5, len(p.Exprs) <= 40, len(p.Stmts) <= 24, len(p.Procs) <= 3, p.Fuel >= 0, p.Fuel <= 3}
	for _, v := range p.Vars {
		names[v.Name] = true
		all = append(all, v.Size >= 2, v.Size <= 4)
	}
	for _, proc := range p.Procs {
		names[proc.Name] = true
	}
	keywords := strings.Fields("skip flip observe if else repeat while max call var proc fuel and or not choose")
	for name := range names {
		all = append(all, namePattern.MatchString(name), !slices.Contains(keywords, name))
	}
	places := map[int]int{}
	for _, block := range blocksIn(&p) {
		for _, i := range *block {
			places[i]++
		}
	}
	for i := range p.Stmts {
		all = append(all, places[i] == 1)
	}
	return append(all, len(names) == len(p.Vars)+len(p.Procs), len(places) == len(p.Stmts))
}

// fieldsOfOperators and fieldsOfKinds name the fields that are used, by letters; one letter stands for each range.
var fieldsOfOperators = []string{"", "V", "v", "AB", "AB", "AB", "AB", "AB", "AB", "AB", "A"}
var fieldsOfKinds = []string{"", "", "VE", "VC", "E", "ETL", "RT", "EWT", "P"}

// between checks a field: it is 0 if it is not used, and in its range if it is.
func between(fields, field string, value, low, high int) bool {
	if strings.Contains(fields, field) {
		return low <= value && value <= high
	}
	return field == "V" && strings.Contains(fields, "v") || value == 0
}

func isExprByTable(x impl.Expr, at, vars int) bool {
	if x.Op < 1 || x.Op > 10 {
		return false
	}
	fields := fieldsOfOperators[x.Op]
	value := between(fields, "V", x.Val, 0, 20)
	if fields == "v" {
		value = between(fields, "v", x.Val, 0, vars-1)
	}
	return value && between(fields, "A", x.A, 0, at-1) && between(fields, "B", x.B, 0, at-1)
}

func isStmtByTable(p impl.Program, at int) bool {
	s := p.Stmts[at]
	if s.Kind < 1 || s.Kind > 8 {
		return false
	}
	fields := fieldsOfKinds[s.Kind]
	times := between(fields, "R", s.Times, 1, 4)
	if strings.Contains(fields, "W") {
		times = between(fields, "W", s.Times, 0, 4)
	}
	good := times && between(fields, "V", s.Var, 0, len(p.Vars)-1) && between(fields, "E", s.Expr, 0, len(p.Exprs)-1) &&
		between(fields, "P", s.Proc, 0, len(p.Procs)-1) && between(fields, "C", len(s.Choices), 1, 4) &&
		between(fields, "T", len(s.Then), 0, 24) && between(fields, "L", len(s.Else), 0, 24)
	for _, i := range slices.Concat(s.Then, s.Else) {
		good = good && i > at && i < len(p.Stmts)
	}
	last := -1
	for _, c := range s.Choices {
		good = good && c.Value > last && c.Value < p.Vars[s.Var].Size && c.Weight >= 1 && c.Weight <= 12
		last = c.Value
	}
	return good
}

// isProgramByTable is the reference for IsValidProgram.
func isProgramByTable(p impl.Program) bool {
	for at, x := range p.Exprs {
		if !isExprByTable(x, at, len(p.Vars)) {
			return false
		}
	}
	for at := range p.Stmts {
		if !isStmtByTable(p, at) {
			return false
		}
	}
	return !slices.Contains(conditions(p), false)
}
