package tests

import (
	"fmt"
	"maps"
	"math/big"
	"slices"
	"strings"
	"testing"

	"loop.example/g00893/impl"
)

// crowd holds the masses of states.
type crowd map[[5]int]*big.Rat

func (c crowd) add(values [5]int, mass *big.Rat) {
	sum := new(big.Rat).Set(mass)
	if old, ok := c[values]; ok {
		sum.Add(sum, old)
	}
	c[values] = sum
}

func (c crowd) mass() *big.Rat {
	sum := new(big.Rat)
	for _, mass := range c {
		sum.Add(sum, mass)
	}
	return sum
}

// joined returns the sum of two crowds.
func joined(a, b crowd) crowd {
	sum := maps.Clone(a)
	for values, mass := range b {
		sum.add(values, mass)
	}
	return sum
}

// allAtOnce is the reference for Infer: it executes each statement in all states that reach it, with their masses.
type allAtOnce struct {
	p                   impl.Program
	rejected, exhausted *big.Rat
	steps               int
}

func (w *allAtOnce) block(block []int, fuel int, before crowd) crowd {
	for _, at := range block {
		if w.steps += len(before); w.steps > maxSteps || len(before) == 0 {
			return crowd{}
		}
		before = w.stmt(w.p.Stmts[at], fuel, before)
	}
	return before
}

// split returns the states in which an expression is true, and those in which it is false.
func (w *allAtOnce) split(before crowd, e int) (crowd, crowd) {
	holds, fails := crowd{}, crowd{}
	for values, mass := range before {
		if valueByMemo(w.p.Exprs, e, values[:], map[int]int{}) != 0 {
			holds[values] = mass
		} else {
			fails[values] = mass
		}
	}
	return holds, fails
}

func (w *allAtOnce) stmt(s impl.Stmt, fuel int, before crowd) crowd {
	switch s.Kind {
	case impl.StAssign:
		after := crowd{}
		for values, mass := range before {
			value := valueByMemo(w.p.Exprs, s.Expr, values[:], map[int]int{})
			values[s.Var] = value % w.p.Vars[s.Var].Size
			after.add(values, mass)
		}
		return after
	case impl.StSample:
		return afterSample(s, before)
	case impl.StObserve:
		holds, fails := w.split(before, s.Expr)
		w.rejected.Add(w.rejected, fails.mass())
		return holds
	case impl.StIf:
		holds, fails := w.split(before, s.Expr)
		return joined(w.block(s.Then, fuel, holds), w.block(s.Else, fuel, fails))
	case impl.StRepeat:
		return w.block(slices.Repeat(s.Then, s.Times), fuel, before)
	case impl.StWhile:
		return w.while(s, s.Times, fuel, before)
	case impl.StCall:
		if fuel > 0 {
			return w.block(w.p.Procs[s.Proc].Body, fuel-1, before)
		}
		w.exhausted.Add(w.exhausted, before.mass())
		return crowd{}
	}
	return before
}

func afterSample(s impl.Stmt, before crowd) crowd {
	total, after := int64(0), crowd{}
	for _, c := range s.Choices {
		total += int64(c.Weight)
	}
	for values, mass := range before {
		for _, c := range s.Choices {
			values[s.Var] = c.Value
			after.add(values, new(big.Rat).Mul(mass, big.NewRat(int64(c.Weight), total)))
		}
	}
	return after
}

// while executes a loop that may go on for the given number of iterations.
func (w *allAtOnce) while(s impl.Stmt, times, fuel int, before crowd) crowd {
	holds, fails := w.split(before, s.Expr)
	if times == 0 || len(holds) == 0 {
		w.exhausted.Add(w.exhausted, holds.mass())
		return fails
	}
	return joined(fails, w.while(s, times-1, fuel, w.block(s.Then, fuel, holds)))
}

// resultByReference returns the result of a program, and false if it takes too long.
func resultByReference(p impl.Program) (impl.Result, bool) {
	w := allAtOnce{p: p, rejected: new(big.Rat), exhausted: new(big.Rat)}
	final := w.block(p.Body, p.Fuel, crowd{[5]int{}: big.NewRat(1, 1)})
	if w.steps > maxSteps {
		return impl.Result{}, false
	}
	var r impl.Result
	for _, values := range slices.SortedFunc(maps.Keys(final), func(a, b [5]int) int { return slices.Compare(a[:], b[:]) }) {
		mass, _ := ratOfBig(final[values])
		r.States = append(r.States, impl.Weighted{Values: values[:len(p.Vars)], Mass: mass})
	}
	r.Rejected, _ = ratOfBig(w.rejected)
	r.Exhausted, _ = ratOfBig(w.exhausted)
	return r, true
}

// runByReference returns the execution with the given draws, and false if it takes too long.
func runByReference(p impl.Program, draws []int) (impl.Run, bool) {
	r := run{p: p, draws: draws, values: make([]int, len(p.Vars))}
	outcome := impl.RunExhausted
	if r.block(p.Body, p.Fuel) {
		outcome = impl.RunFinished
	} else if r.rejected {
		outcome = impl.RunRejected
	}
	mass := big.NewRat(1, 1)
	for _, chance := range r.chances {
		mass.Mul(mass, chance)
	}
	number, _ := ratOfBig(mass)
	return impl.Run{Outcome: outcome, Values: r.values, Draws: len(r.sizes), Mass: number}, r.steps <= maxSteps
}

// weightedOf makes a list of weighted states of a text such as "01:1/6 10:1/3", in which every digit is a value.
func weightedOf(t *testing.T, text string) []impl.Weighted {
	t.Helper()
	var list []impl.Weighted
	for _, field := range strings.Fields(text) {
		digits, mass, _ := strings.Cut(field, ":")
		values := []int{}
		for _, digit := range digits {
			values = append(values, int(digit-'0'))
		}
		list = append(list, impl.Weighted{Values: values, Mass: rat(t, mass)})
	}
	return list
}

// resultOf makes a result of a text such as "01:1/6 10:1/3 11:1/3 R:1/6", in which R and E stand for the masses of the
// rejected and the exhausted executions, 0 if they are not there.
func resultOf(t *testing.T, text string) impl.Result {
	t.Helper()
	r := impl.Result{Rejected: zeroRat, Exhausted: zeroRat}
	var states []string
	for _, field := range strings.Fields(text) {
		if mass, ok := strings.CutPrefix(field, "R:"); ok {
			r.Rejected = rat(t, mass)
		} else if mass, ok := strings.CutPrefix(field, "E:"); ok {
			r.Exhausted = rat(t, mass)
		} else {
			states = append(states, field)
		}
	}
	r.States = weightedOf(t, strings.Join(states, " "))
	return r
}

func textOfRat(r impl.Rat) string {
	text := r.Num
	if r.Neg {
		text = "-" + text
	}
	if r.Den != "1" {
		text += "/" + r.Den
	}
	return text
}

// textOfResult is the reference for FormatResult.
func textOfResult(r impl.Result) string {
	text := ""
	for _, w := range r.States {
		text += fmt.Sprintln(strings.Trim(fmt.Sprint(w.Values), "[]")+":", textOfRat(w.Mass))
	}
	return text + fmt.Sprintln("rejected:", textOfRat(r.Rejected)) + fmt.Sprintln("exhausted:", textOfRat(r.Exhausted))
}

func sameStates(a, b []impl.Weighted) bool {
	return slices.EqualFunc(a, b, func(x, y impl.Weighted) bool { return slices.Equal(x.Values, y.Values) && x.Mass == y.Mass })
}

func sameResults(a, b impl.Result) bool {
	return sameStates(a.States, b.States) && a.Rejected == b.Rejected && a.Exhausted == b.Exhausted
}

func sameRuns(a, b impl.Run) bool {
	return a.Outcome == b.Outcome && slices.Equal(a.Values, b.Values) && a.Draws == b.Draws && a.Mass == b.Mass
}

// massOfStates returns the sum of the masses of a list.
func massOfStates(t *testing.T, list []impl.Weighted) *big.Rat {
	t.Helper()
	sum := new(big.Rat)
	for _, w := range list {
		sum.Add(sum, bigOfRat(t, w.Mass))
	}
	return sum
}
