package tests

import (
	"fmt"
	"maps"
	"math/big"
	"math/rand"
	"slices"
	"strings"
	"testing"

	"loop.example/g00893/impl"
)

// bigFactor is a factor with entries of any size. The entries are listed by the values of the variables, a digit each, in
// increasing order of the variables.
type bigFactor struct {
	sizes   map[int]int
	entries map[string]*big.Rat
}

// vars returns the variables in increasing order.
func (b bigFactor) vars() []int { return slices.Sorted(maps.Keys(b.sizes)) }

// settingsOf returns all ways to give values to variables, with the last variable changing fastest.
func settingsOf(sizes map[int]int) []map[int]int {
	list := []map[int]int{{}}
	for _, v := range slices.Sorted(maps.Keys(sizes)) {
		var longer []map[int]int
		for _, setting := range list {
			for value := range sizes[v] {
				next := maps.Clone(setting)
				next[v] = value
				longer = append(longer, next)
			}
		}
		list = longer
	}
	return list
}

// digitsOf writes the values of some variables.
func digitsOf(setting map[int]int, vars []int) string {
	digits := ""
	for _, v := range vars {
		digits += fmt.Sprint(setting[v])
	}
	return digits
}

// at returns the entry for a setting of these variables and perhaps others.
func (b bigFactor) at(setting map[int]int) *big.Rat { return b.entries[digitsOf(setting, b.vars())] }

// factor returns the factor as the package has it, and false if it exceeds a limit.
func (b bigFactor) factor() (impl.Factor, bool) {
	f := impl.Factor{Vars: b.vars()}
	for _, v := range f.Vars {
		f.Sizes = append(f.Sizes, b.sizes[v])
	}
	if !fits(b.sizes) {
		return impl.Factor{}, false
	}
	for _, digits := range slices.Sorted(maps.Keys(b.entries)) {
		r, ok := ratOfBig(b.entries[digits])
		if !ok {
			return impl.Factor{}, false
		}
		f.Table = append(f.Table, r)
	}
	return f, true
}

// fits reports whether a factor may have variables of these sizes.
func fits(sizes map[int]int) bool {
	entries := 1
	for _, size := range sizes {
		entries *= size
	}
	return len(sizes) <= 6 && entries <= 256
}

// bigFactorOf reads a valid factor.
func bigFactorOf(t *testing.T, f impl.Factor) bigFactor {
	t.Helper()
	b := bigFactor{map[int]int{}, map[string]*big.Rat{}}
	for i, v := range f.Vars {
		b.sizes[v] = f.Sizes[i]
	}
	for i, setting := range settingsOf(b.sizes) {
		b.entries[digitsOf(setting, f.Vars)] = bigOfRat(t, f.Table[i])
	}
	return b
}

// summed returns the sums, over all settings of all variables that are not kept, of the products of factors.
func summed(factors []bigFactor, isKept func(v int) bool) bigFactor {
	all := jointSizes(factors)
	kept := maps.Clone(all)
	maps.DeleteFunc(kept, func(v, _ int) bool { return !isKept(v) })
	result := bigFactor{kept, map[string]*big.Rat{}}
	for _, setting := range settingsOf(all) {
		product := big.NewRat(1, 1)
		for _, b := range factors {
			product.Mul(product, b.at(setting))
		}
		digits := digitsOf(setting, result.vars())
		if result.entries[digits] == nil {
			result.entries[digits] = new(big.Rat)
		}
		result.entries[digits].Add(result.entries[digits], product)
	}
	return result
}

// jointSizes returns the sizes of the variables of all factors.
func jointSizes(factors []bigFactor) map[int]int {
	all := map[int]int{}
	for _, b := range factors {
		maps.Copy(all, b.sizes)
	}
	return all
}

// clusters returns the sizes of the variables of each product that Eliminate forms, the last of which has the variables of
// the result.
func clusters(factors []bigFactor, order []int) []map[int]int {
	var list []map[int]int
	left := slices.Clone(factors)
	for _, v := range order {
		has := func(b bigFactor) bool { return b.sizes[v] > 0 }
		var with []bigFactor
		for _, b := range left {
			if has(b) {
				with = append(with, b)
			}
		}
		cluster := jointSizes(with)
		list = append(list, maps.Clone(cluster))
		delete(cluster, v)
		left = append(slices.DeleteFunc(left, has), bigFactor{sizes: cluster})
	}
	return append(list, jointSizes(left))
}

// isOrderByReference reports whether an order has variables of the factors only, and none of them twice.
func isOrderByReference(factors []bigFactor, order []int) bool {
	seen := map[int]bool{}
	for _, v := range order {
		if jointSizes(factors)[v] == 0 || seen[v] {
			return false
		}
		seen[v] = true
	}
	return true
}

// eliminatedByReference is the reference for Eliminate.
func eliminatedByReference(factors []bigFactor, order []int) (impl.Factor, bool) {
	if !isOrderByReference(factors, order) {
		return impl.Factor{}, false
	}
	for _, cluster := range clusters(factors, order) {
		if !fits(cluster) {
			return impl.Factor{}, false
		}
	}
	return summed(factors, func(v int) bool { return !slices.Contains(order, v) }).factor()
}

// widthByReference is the reference for EliminationWidth, and returns -1 if there is none.
func widthByReference(factors []bigFactor, order []int) int {
	if !isOrderByReference(factors, order) {
		return -1
	}
	width := 0
	for _, cluster := range clusters(factors, order)[:len(order)] {
		width = max(width, len(cluster))
	}
	return width
}

// minDegreeByReference is the reference for MinDegreeOrder; it goes by a graph of neighbours.
func minDegreeByReference(factors []bigFactor, keep []int) []int {
	edges := map[[2]int]bool{}
	for _, b := range factors {
		connect(edges, b.vars())
	}
	left := jointSizes(factors)
	maps.DeleteFunc(left, func(v, _ int) bool { return slices.Contains(keep, v) })
	order := []int{}
	for len(left) > 0 {
		best, fewest := -1, 99
		for v := range 10 {
			if degree := len(neighboursOf(edges, v)); left[v] > 0 && degree < fewest {
				best, fewest = v, degree
			}
		}
		connect(edges, neighboursOf(edges, best))
		maps.DeleteFunc(edges, func(edge [2]int, _ bool) bool { return edge[0] == best || edge[1] == best })
		delete(left, best)
		order = append(order, best)
	}
	return order
}

// connect makes variables neighbours of each other.
func connect(edges map[[2]int]bool, vars []int) {
	for _, v := range vars {
		for _, w := range vars {
			if v != w {
				edges[[2]int{v, w}] = true
			}
		}
	}
}

func neighboursOf(edges map[[2]int]bool, v int) []int {
	var list []int
	for w := range 10 {
		if edges[[2]int{v, w}] {
			list = append(list, w)
		}
	}
	return list
}

// textOfFactor writes a factor, valid or not, as in "0:2 1:2 = 1/2 1/2 1/4 3/4".
func textOfFactor(f impl.Factor) string {
	if len(f.Vars) != len(f.Sizes) {
		return fmt.Sprint(f)
	}
	text := ""
	for i, v := range f.Vars {
		text += fmt.Sprintf("%d:%d ", v, f.Sizes[i])
	}
	return strings.TrimSpace(text + "= " + textOfRats(f.Table))
}

// factorOf reads a factor as textOfFactor writes it.
func factorOf(t *testing.T, text string) impl.Factor {
	t.Helper()
	vars, table, ok := strings.Cut(text, "=")
	if !ok {
		t.Fatalf("no factor: %q", text)
	}
	f := impl.Factor{}
	for _, field := range strings.Fields(vars) {
		var v, size int
		if _, err := fmt.Sscanf(field, "%d:%d", &v, &size); err != nil {
			t.Fatalf("no factor: %q", text)
		}
		f.Vars, f.Sizes = append(f.Vars, v), append(f.Sizes, size)
	}
	for _, number := range strings.Fields(table) {
		f.Table = append(f.Table, rat(t, number))
	}
	return f
}

// factorsOf reads factors that are separated by semicolons.
func factorsOf(t *testing.T, text string) []impl.Factor {
	t.Helper()
	var factors []impl.Factor
	for _, part := range strings.Split(text, ";") {
		factors = append(factors, factorOf(t, part))
	}
	return factors
}

// bigFactorsOf reads valid factors.
func bigFactorsOf(t *testing.T, factors []impl.Factor) []bigFactor {
	t.Helper()
	var list []bigFactor
	for _, f := range factors {
		list = append(list, bigFactorOf(t, f))
	}
	return list
}

// randomSizes returns sizes of the variables 0 to 9, which all factors of a list have in common.
func randomSizes(source *rand.Rand, greatest int) []int {
	var sizes []int
	for range 10 {
		sizes = append(sizes, 2+source.Intn(greatest-1))
	}
	return sizes
}

// randomFactor returns a factor of some variables with sizes, at most that many.
func randomFactor(source *rand.Rand, sizes []int, most int, number func() *big.Rat) impl.Factor {
	b := bigFactor{map[int]int{}, map[string]*big.Rat{}}
	for _, v := range source.Perm(len(sizes))[:source.Intn(min(most, len(sizes))+1)] {
		b.sizes[v] = sizes[v]
		if !fits(b.sizes) {
			delete(b.sizes, v)
		}
	}
	for _, setting := range settingsOf(b.sizes) {
		b.entries[digitsOf(setting, b.vars())] = number()
	}
	f, ok := b.factor()
	if !ok {
		panic("a random factor exceeds a limit")
	}
	return f
}

// numbersFrom returns a source of numbers that are not negative, mostly short ones, often 0, or long ones.
func numbersFrom(source *rand.Rand) func() *big.Rat {
	kind := source.Intn(8)
	return func() *big.Rat {
		if _, x := randomRat(source); kind == 0 {
			return x.Abs(x)
		}
		if kind == 1 && source.Intn(3) > 0 {
			return new(big.Rat)
		}
		return big.NewRat(int64(source.Intn(8)), int64(1+source.Intn(6)))
	}
}
