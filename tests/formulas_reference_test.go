package tests

import (
	"fmt"
	"math/big"
	"math/rand"
	"slices"
	"strings"

	"loop.example/g00893/impl"
)

// coinRef is a coin with the weights of its choice and of that one and the later ones.
type coinRef struct{ stmt, choice, weight, total int }

// chance returns the probability of a bit.
func (c coinRef) chance(bit byte) *big.Rat {
	weight := c.weight
	if bit == '0' {
		weight = c.total - c.weight
	}
	return big.NewRat(int64(weight), int64(c.total))
}

func (c coinRef) String() string {
	return fmt.Sprintf("%d.%d:%s", c.stmt, c.choice, c.chance('1').RatString())
}

// coinsByReference goes through the choices of each statement from the last one to the first.
func coinsByReference(p impl.Program) []coinRef {
	var coins []coinRef
	for at := len(p.Stmts) - 1; at >= 0; at-- {
		total := 0
		for i := len(p.Stmts[at].Choices) - 1; i >= 0; i-- {
			weight := p.Stmts[at].Choices[i].Weight
			if total += weight; i < len(p.Stmts[at].Choices)-1 {
				coins = append(coins, coinRef{at, i, weight, total})
			}
		}
	}
	slices.Reverse(coins)
	return coins
}

// isTossable is the reference for which programs chapter 9 takes.
func isTossable(p impl.Program) bool {
	return isProgramByTable(p) && isUnrolledByTable(p) && len(coinsByReference(p)) <= 10
}

// assignmentsOf returns all assignments of coins, in order.
func assignmentsOf(coins int) []string {
	list := []string{""}
	for range coins {
		var longer []string
		for _, bits := range list {
			longer = append(longer, bits+"0", bits+"1")
		}
		list = longer
	}
	return list
}

// toss is the execution with one of the assignments.
type toss struct {
	bits    string
	outcome int
	values  []int
	reached map[int]bool
}

// tosses executes each statement for all assignments that reach it.
type tosses struct {
	p     impl.Program
	coins []coinRef
	all   []*toss
}

func tossesOf(p impl.Program) tosses {
	w := tosses{p: p, coins: coinsByReference(p)}
	for _, bits := range assignmentsOf(len(w.coins)) {
		w.all = append(w.all, &toss{bits, impl.RunFinished, make([]int, len(p.Vars)), map[int]bool{}})
	}
	w.block(p.Body, w.all)
	return w
}

// block executes a block, and returns the executions that go on after it.
func (w tosses) block(block []int, who []*toss) []*toss {
	for _, at := range block {
		who = w.stmt(at, who)
	}
	return who
}

func (w tosses) stmt(at int, who []*toss) []*toss {
	s := w.p.Stmts[at]
	for _, x := range who {
		x.reached[at] = true
	}
	switch s.Kind {
	case impl.StAssign:
		for _, x := range who {
			x.values[s.Var] = w.value(s.Expr, x) % w.p.Vars[s.Var].Size
		}
	case impl.StSample:
		for _, x := range who {
			x.values[s.Var] = s.Choices[w.selected(at, x.bits)].Value
		}
	case impl.StObserve:
		return w.divided(who, s.Expr, impl.RunFinished, impl.RunRejected)
	case impl.StWhile:
		return w.divided(who, s.Expr, impl.RunExhausted, impl.RunFinished)
	case impl.StIf:
		holds, fails := w.split(s.Expr, who)
		return slices.Concat(w.block(s.Then, holds), w.block(s.Else, fails))
	}
	return who
}

// divided gives executions one outcome if an expression is true, and another one if it is false, and returns those that
// go on.
func (w tosses) divided(who []*toss, e, ifTrue, ifFalse int) []*toss {
	holds, fails := w.split(e, who)
	for _, x := range holds {
		x.outcome = ifTrue
	}
	for _, x := range fails {
		x.outcome = ifFalse
	}
	return slices.DeleteFunc(slices.Concat(holds, fails), func(x *toss) bool { return x.outcome != impl.RunFinished })
}

func (w tosses) split(e int, who []*toss) (holds, fails []*toss) {
	for _, x := range who {
		if w.value(e, x) != 0 {
			holds = append(holds, x)
		} else {
			fails = append(fails, x)
		}
	}
	return holds, fails
}

func (w tosses) value(e int, x *toss) int { return valueByMemo(w.p.Exprs, e, x.values, map[int]int{}) }

// selected returns the index of the choice that an assignment selects in a statement.
func (w tosses) selected(at int, bits string) int {
	own := ""
	for i, c := range w.coins {
		if c.stmt == at {
			own += bits[i : i+1]
		}
	}
	return strings.Index(own+"1", "1")
}

// table is the reference for truth tables.
func (w tosses) table(isTrue func(x *toss) bool) string {
	text := ""
	for _, x := range w.all {
		text += fmt.Sprint(truthOf(isTrue(x)))
	}
	return text
}

func (w tosses) finishTable() string {
	return w.table(func(x *toss) bool { return x.outcome == impl.RunFinished })
}

func (w tosses) reachTable(at int) string {
	return w.table(func(x *toss) bool { return x.reached[at] })
}

func (w tosses) valueTable(v, value int) string {
	return w.table(func(x *toss) bool { return x.outcome == impl.RunFinished && x.values[v] == value })
}

func (w tosses) truthTable(e int) string {
	return w.table(func(x *toss) bool { return x.outcome == impl.RunFinished && w.value(e, x) != 0 })
}

// run is the reference for RunWithCoins.
func (w tosses) run(x *toss) impl.CoinRun {
	r := impl.CoinRun{Outcome: x.outcome, Values: x.values}
	for at := range w.p.Stmts {
		if x.reached[at] {
			r.Reached = append(r.Reached, at)
		}
	}
	return r
}

// mass is the reference for CoinMass.
func (w tosses) mass(x *toss) *big.Rat {
	mass := big.NewRat(1, 1)
	for i, c := range w.coins {
		mass.Mul(mass, c.chance(x.bits[i]))
	}
	return mass
}

// dnfByReference is the reference for FormatDNF.
func dnfByReference(table string) (string, bool) {
	for n := range 11 {
		assignments := assignmentsOf(n)
		if len(assignments) != len(table) {
			continue
		}
		var terms []string
		for i, bits := range assignments {
			switch table[i] {
			case '1':
				terms = append(terms, bits)
			case '0':
			default:
				return "", false
			}
		}
		text := strings.Join(terms, " + ")
		if n == 0 {
			return table, true
		}
		if len(terms) == 0 {
			text = "0"
		}
		return text, true
	}
	return "", false
}

// randomTossablePrograms calls check with random programs that chapter 9 takes. Samples stand in the places of many
// statements that would end most executions.
func randomTossablePrograms(seed int64, count int, check func(source *rand.Rand, p impl.Program)) {
	randomUnrolledPrograms(seed, count, func(source *rand.Rand, p impl.Program) {
		for i, s := range p.Stmts {
			ends := s.Kind == impl.StObserve || s.Kind == impl.StWhile
			if ends && source.Intn(2) > 0 || s.Kind == impl.StSkip {
				v := source.Intn(len(p.Vars))
				p.Stmts[i] = sample(v, 1+source.Intn(12), 1+source.Intn(12), source.Intn(3)*(p.Vars[v].Size-2)).stmt
			}
		}
		for most := 1 + source.Intn(10); len(coinsByReference(p)) > most; {
			s := &p.Stmts[source.Intn(len(p.Stmts))]
			if last := len(s.Choices) - 1; last > 0 {
				s.Choices = slices.Delete(s.Choices, last-1, last)
			}
		}
		check(source, p)
	})
}
