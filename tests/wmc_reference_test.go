package tests

import (
	"math/big"
	"slices"
	"strings"
	"testing"

	"loop.example/g00893/impl"
)

// chances are the probabilities of the bits of the levels, from 0 to 1.
type chances []*big.Rat

// chancesOf reads probabilities that are separated by blanks.
func chancesOf(t *testing.T, text string) chances {
	t.Helper()
	c := chances{}
	for _, number := range strings.Fields(text) {
		c = append(c, bigOfRat(t, rat(t, number)))
	}
	return c
}

// rats returns the probabilities as arguments; all of them must be within the limit.
func (c chances) rats() []impl.Rat {
	var probs []impl.Rat
	for _, chance := range c {
		r, ok := ratOfBig(chance)
		if !ok {
			panic("a probability exceeds the limit")
		}
		probs = append(probs, r)
	}
	return probs
}

// parts returns the numerator of the probability of an assignment over the product of all denominators, and that product.
func (c chances) parts(bits string) (*big.Int, *big.Int) {
	num, den := big.NewInt(1), big.NewInt(1)
	for level, chance := range c {
		part := chance.Num()
		if bits[level] == '0' {
			part = new(big.Int).Sub(chance.Denom(), part)
		}
		num.Mul(num, part)
		den.Mul(den, chance.Denom())
	}
	return num, den
}

// of returns the probability of an assignment.
func (c chances) of(bits string) *big.Rat {
	num, den := c.parts(bits)
	return new(big.Rat).SetFrac(num, den)
}

// count is the reference for WeightedCount: the sum over all assignments.
func (c chances) count(table string) *big.Rat {
	sum, common := new(big.Int), big.NewInt(1)
	for i, bits := range assignmentsOf(len(c)) {
		if table[i] == '1' {
			num, den := c.parts(bits)
			sum.Add(sum, num)
			common = den
		}
	}
	return new(big.Rat).SetFrac(sum, common)
}

// gradient is the reference for CountGradient.
func (c chances) gradient(table string) []*big.Rat {
	var list []*big.Rat
	for v := range c {
		high, low := c.count(restrictedTable(len(c), table, v, "1")), c.count(restrictedTable(len(c), table, v, "0"))
		list = append(list, high.Sub(high, low))
	}
	return list
}

// most is the reference for MostProbable, and returns nil if the function is false everywhere.
func (c chances) most(table string) (string, *big.Rat) {
	best, greatest := "", (*big.Rat)(nil)
	for i, bits := range assignmentsOf(len(c)) {
		if mass := c.of(bits); table[i] == '1' && (greatest == nil || mass.Cmp(greatest) > 0) {
			best, greatest = bits, mass
		}
	}
	return best, greatest
}

// share is the reference for ConditionalCount, and returns nil if the count of given is 0.
func (c chances) share(query, given string) *big.Rat {
	of := c.count(given)
	if of.Sign() == 0 {
		return nil
	}
	both := c.count(combinedTable(impl.BoolAnd, query, given))
	return both.Quo(both, of)
}

// reorderedTable is the reference for ReorderLevels: each assignment of the given table moves to its place in the result.
func reorderedTable(levels int, table string, order []int) string {
	places := map[string]byte{}
	for i, bits := range assignmentsOf(levels) {
		moved := ""
		for _, level := range order {
			moved += bits[level : level+1]
		}
		places[moved] = table[i]
	}
	result := ""
	for _, bits := range assignmentsOf(levels) {
		result += string(places[bits])
	}
	return result
}

// reorderedChances moves probabilities as ReorderLevels moves levels.
func reorderedChances(c chances, order []int) chances {
	moved := chances{}
	for _, level := range order {
		moved = append(moved, c[level])
	}
	return moved
}

// allOrders returns all orders of that many levels in lexicographic order.
func allOrders(levels int) [][]int {
	if levels == 0 {
		return [][]int{{}}
	}
	var list [][]int
	for _, order := range allOrders(levels - 1) {
		for at := range levels {
			list = append(list, slices.Insert(slices.Clone(order), at, levels-1))
		}
	}
	slices.SortFunc(list, slices.Compare[[]int])
	return list
}

// nodesOf counts the nodes of the diagram of a table, which are the different parts behind some decisions that depend on
// the next one.
func nodesOf(levels int, table string) int {
	parts := map[string]bool{}
	for level := range levels {
		size := len(table) >> level
		for at := 0; at < len(table); at += size {
			if part := table[at : at+size]; part[:size/2] != part[size/2:] {
				parts[part] = true
			}
		}
	}
	return len(parts)
}

// bestOrder is the reference for BestOrder.
func bestOrder(levels int, table string) ([]int, int) {
	var best []int
	fewest := 1 << levels
	for _, order := range allOrders(levels) {
		if nodes := nodesOf(levels, reorderedTable(levels, table, order)); nodes < fewest {
			best, fewest = order, nodes
		}
	}
	return best, fewest
}

// probability is the reference for ProbabilityByDiagram, and returns nil if no execution finishes.
func (w tosses) probability(e int) *big.Rat {
	return w.share(func(x *toss) bool { return w.value(e, x) != 0 })
}

// marginal is the reference for MarginalByDiagram if an execution finishes.
func (w tosses) marginal(v int) bigDist {
	masses := bigDist{}
	for value := range w.p.Vars[v].Size {
		masses[value] = w.share(func(x *toss) bool { return x.values[v] == value })
	}
	return masses
}

// share returns the probability that something is true of an execution, given that it finishes, or nil if none does.
func (w tosses) share(isTrue func(x *toss) bool) *big.Rat {
	some, all := new(big.Rat), new(big.Rat)
	for _, x := range w.all {
		if x.outcome != impl.RunFinished {
			continue
		}
		all.Add(all, w.mass(x))
		if isTrue(x) {
			some.Add(some, w.mass(x))
		}
	}
	if all.Sign() == 0 {
		return nil
	}
	return some.Quo(some, all)
}
