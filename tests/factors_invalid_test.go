package tests

import (
	"fmt"
	"math"
	"slices"
	"testing"

	"loop.example/g00893/impl"
)

// invalidFactors returns factors that are invalid for one reason each, which is their key.
func invalidFactors(t *testing.T) map[string]impl.Factor {
	t.Helper()
	ones := func(count int) []impl.Rat { return slices.Repeat([]impl.Rat{rat(t, "1")}, count) }
	factors := map[string]impl.Factor{
		"zero value": {}, "7 variables": constantFactor(t, "0:2 1:2 2:2 3:2 4:2 5:2 6:2", "1"), "10 variables": constantFactor(t, "0:2 1:2 2:2 3:2 4:2 5:2 6:2 7:2 8:2 9:2", "1"),
		"288 entries": constantFactor(t, "0:2 1:2 2:2 3:3 4:3 5:4", "1"), "512 entries": constantFactor(t, "0:4 1:4 2:4 3:4 4:2", "1"), "1024 entries": constantFactor(t, "5:4 6:4 7:4 8:4 9:4", "1"),
		"no sizes": {Vars: []int{0}, Table: ones(2)}, "fewer sizes": {Vars: []int{0, 1}, Sizes: []int{2}, Table: ones(2)}, "more sizes": {Vars: []int{0}, Sizes: []int{2, 2}, Table: ones(4)},
		"sizes without variables": {Sizes: []int{2}, Table: ones(2)}, "a size of 1 without variables": {Sizes: []int{1}, Table: ones(1)}, "many sizes": {Vars: []int{0}, Sizes: slices.Repeat([]int{2}, 100), Table: ones(2)},
		"many variables": {Vars: forward(100), Sizes: slices.Repeat([]int{2}, 100), Table: ones(256)}, "the same variable often": {Vars: make([]int, 100), Sizes: slices.Repeat([]int{2}, 100), Table: ones(2)},
		"no entries": {Vars: []int{0}, Sizes: []int{2}}, "many entries": {Vars: []int{0}, Sizes: []int{2}, Table: ones(100000)},
	}
	for what, text := range map[string]string{
		"two entries without variables": "= 1 1", "decreasing": "1:2 0:2 = 1 1 1 1", "decreasing at the end": "0:2 2:2 1:2 = 1 1 1 1 1 1 1 1", "repeated": "0:2 0:2 = 1 1 1 1",
		"repeated, as one": "0:2 0:2 = 1 1", "repeated at the end": "0:2 9:2 9:2 = 1 1 1 1 1 1 1 1", "too short": "0:2 = 1", "too long": "0:2 = 1 1 1", "short for three": "0:2 1:3 = 1 1 1 1 1",
		"long for three": "0:2 1:3 = 1 1 1 1 1 1 1", "as for one": "0:2 1:2 = 1 1", "negative entry": "0:2 = 1 -1", "negative entry first": "0:2 = -1/2 1", "negative entries": "0:2 = -1 -1", "negative": "= -1",
		"slightly negative": "0:2 = 1 -1/" + nines(120),
	} {
		factors[what] = factorOf(t, text)
	}
	for _, v := range []int{-1, 10, 11, 64, math.MinInt, math.MaxInt} {
		factors[fmt.Sprint("variable ", v)] = impl.Factor{Vars: []int{v}, Sizes: []int{2}, Table: ones(2)}
		factors[fmt.Sprint("variables with ", v)] = impl.Factor{Vars: slices.Sorted(slices.Values([]int{5, v})), Sizes: []int{2, 2}, Table: ones(4)}
	}
	for _, size := range []int{1, 0, -1, 5, -2, 256, math.MinInt, math.MaxInt} {
		factors[fmt.Sprint("size ", size)] = impl.Factor{Vars: []int{0}, Sizes: []int{size}, Table: ones(max(1, min(size, 256)))}
		factors[fmt.Sprint("second size ", size)] = impl.Factor{Vars: []int{0, 3}, Sizes: []int{2, size}, Table: ones(2 * max(1, min(size, 128)))}
		factors[fmt.Sprint("sizes ", size)] = impl.Factor{Vars: []int{0, 3}, Sizes: []int{size, size}, Table: ones(4)}
	}
	for i, r := range invalidRats() {
		for at := range 4 {
			f := factorOf(t, "0:2 1:2 = 0 1/2 1 2")
			f.Table[at] = r
			factors[fmt.Sprint("number ", i, " at ", at)] = f
		}
	}
	return factors
}

// expectNoFactors checks that all functions of chapter 12 that take a list of factors fail, whatever else they are given.
func expectNoFactors(t *testing.T, what string, factors []impl.Factor) {
	t.Helper()
	for _, list := range [][]int{nil, {0}, {1}, {0, 1}, {9}, {0, 0}, {-1}} {
		f, ok := impl.Eliminate(factors, list)
		expectFactor(t, what, f, ok, fails)
		width, ok := impl.EliminationWidth(factors, list)
		expectInt(t, what, width, ok, -1)
		order, ok := impl.MinDegreeOrder(factors, list)
		expectList(t, what, order, ok, nil)
	}
}

func TestInvalidFactors(t *testing.T) {
	valid := factorsOf(t, factorA+";"+factorB+"; = 1;9:2 = 1 1")
	for what, f := range invalidFactors(t) {
		if impl.IsValidFactor(f) {
			t.Errorf("%s: valid", what)
		}
		for _, assignment := range [][]int{nil, {0}, {1}, {0, 0}, {1, 1}, make([]int, len(f.Vars)), make([]int, len(f.Sizes))} {
			entry, ok := impl.FactorAt(f, assignment)
			expectRat(t, what, entry, ok, "")
		}
		for _, other := range append(valid, f) {
			both, ok := impl.MultiplyFactors(f, other)
			expectFactor(t, what, both, ok, fails)
			both, ok = impl.MultiplyFactors(other, f)
			expectFactor(t, what, both, ok, fails)
		}
		for _, v := range append(forward(10), f.Vars...) {
			sum, ok := impl.SumOut(f, v)
			expectFactor(t, what, sum, ok, fails)
			part, ok := impl.RestrictFactor(f, v, v%2)
			expectFactor(t, what, part, ok, fails)
		}
		g, ok := impl.NormalizeFactor(f)
		expectFactor(t, what, g, ok, fails)
		expectNoFactors(t, what, []impl.Factor{f})
		for at := range len(valid) + 1 {
			expectNoFactors(t, what, slices.Insert(slices.Clone(valid), at, f))
		}
	}
	for _, factors := range [][]impl.Factor{nil, {}, slices.Repeat(valid[:1], 13), make([]impl.Factor, 1), make([]impl.Factor, 12), slices.Repeat(valid[3:], 100)} {
		expectNoFactors(t, fmt.Sprint(len(factors), " factors"), factors)
	}
}

func TestFactorsThatDisagreeAboutASize(t *testing.T) {
	for _, text := range []string{
		"0:2 = 1 1; 0:3 = 1 1 1", "0:3 = 1 1 1; 0:2 = 1 1", "0:4 = 1 1 1 1; 0:3 = 1 1 1", "9:2 = 1 1; 9:4 = 1 1 1 1", "0:2 1:2 = 1 1 1 1; 1:3 = 1 1 1", "1:3 = 1 1 1; 0:2 1:2 = 1 1 1 1",
		"0:2 1:3 = 1 1 1 1 1 1; 0:3 1:2 = 1 1 1 1 1 1", "0:2 5:2 = 1 1 1 1; 1:2 5:4 = 1 1 1 1 1 1 1 1",
	} {
		factors := factorsOf(t, text)
		for _, order := range [][2]int{{0, 1}, {1, 0}} {
			both, ok := impl.MultiplyFactors(factors[order[0]], factors[order[1]])
			expectFactor(t, text, both, ok, fails)
		}
		expectNoFactors(t, text, factors)
		// Others lie between the two.
		expectNoFactors(t, text, slices.Insert(factors, 1, factorsOf(t, "= 1; 8:2 = 1 1; 7:2 8:2 = 1 1 1 1")...))
	}
}

func TestAssignmentsThatAreNone(t *testing.T) {
	f := largeFactor(t, "1:2 4:3 9:4")
	for _, assignment := range [][]int{nil, {}, {0}, {0, 0}, {0, 0, 0, 0}, {2, 0, 0}, {0, 3, 0}, {0, 0, 4}, {-1, 0, 0}, {0, -1, 0}, {0, 0, -1}, {1, 2, 4}, {3, 2, 1}, make([]int, 10)} {
		entry, ok := impl.FactorAt(f, assignment)
		expectRat(t, fmt.Sprint(assignment), entry, ok, "")
	}
	for _, value := range extremes()[1:] {
		for at := range 3 {
			assignment := make([]int, 3)
			assignment[at] = value
			entry, ok := impl.FactorAt(f, assignment)
			expectRat(t, fmt.Sprint(assignment), entry, ok, "")
		}
		for _, v := range []int{1, 4, 9, value} {
			part, ok := impl.RestrictFactor(f, v, value)
			expectFactor(t, fmt.Sprint(v, " = ", value), part, ok, fails)
		}
		part, ok := impl.RestrictFactor(f, value, 0)
		expectFactor(t, fmt.Sprint(value, " = 0"), part, ok, fails)
		sum, ok := impl.SumOut(f, value)
		expectFactor(t, fmt.Sprint("without ", value), sum, ok, fails)
	}
	entry, ok := impl.FactorAt(factorOf(t, "= 1"), []int{0})
	expectRat(t, "a value for no variable", entry, ok, "")
}

func TestStatesThatMakeNoFactor(t *testing.T) {
	for what, list := range invalidLists(t) {
		for _, sizes := range [][]int{nil, {2}, {4}, {4, 4}, {2, 2}, {4, 4, 4}, {4, 4, 4, 4}, {2, 2, 2, 2, 2, 2}} {
			f, ok := impl.FactorOfStates(sizes, list)
			expectFactor(t, what, f, ok, fails)
		}
	}
	for _, sizes := range [][]int{{1}, {0}, {-1}, {5}, {math.MinInt}, {math.MaxInt}, {2, 1}, {1, 2}, {2, 5}, {5, 2}, {2, 2, 2, 2, 2, 2, 2}, {4, 4, 4, 4, 2}, {4, 4, 4, 4, 4}, {2, 2, 2, 3, 3, 4}, slices.Repeat([]int{2}, 10), slices.Repeat([]int{2}, 11), make([]int, 1000)} {
		for _, list := range [][]impl.Weighted{nil, weightedOf(t, "0:1"), weightedOf(t, "00:1"), weightedOf(t, "00000:1/2"), {{Values: make([]int, min(5, len(sizes))), Mass: rat(t, "1")}}} {
			f, ok := impl.FactorOfStates(sizes, list)
			expectFactor(t, fmt.Sprint(sizes), f, ok, fails)
		}
	}
	for value := range 4 {
		for size := 2; size <= 4; size++ {
			wanted := fails
			if value < size {
				wanted = fmt.Sprintf("0:2 1:%d 2:2 =", size)
				for index := range 4 * size {
					wanted += map[bool]string{true: " 1/3", false: " 0"}[index == 2*size+2*value+1]
				}
			}
			f, ok := impl.FactorOfStates([]int{2, size, 2}, weightedOf(t, fmt.Sprintf("1%d1:1/3", value)))
			expectFactor(t, fmt.Sprint(value, " of ", size), f, ok, wanted)
		}
	}
}

func TestListsToKeep(t *testing.T) {
	factors := factorsOf(t, factorA+";"+factorB)
	for _, keep := range [][]int{{-1}, {10}, {0, 0}, {1, 0}, {0, 10}, {-1, 0}, {9, 8}, {0, 1, 1}, {0, 2, 1}, {5, 4}, {9, 9}, forward(11), {math.MinInt}, {math.MaxInt}, {0, math.MaxInt}, {math.MinInt, 0}, make([]int, 100)} {
		order, ok := impl.MinDegreeOrder(factors, keep)
		expectList(t, fmt.Sprint(keep), order, ok, nil)
	}
	for _, keep := range [][]int{{2}, {9}, {2, 3, 4, 5, 6, 7, 8, 9}} {
		order, ok := impl.MinDegreeOrder(factors, keep)
		expectList(t, fmt.Sprint(keep), order, ok, []int{0, 1})
	}
	order, ok := impl.MinDegreeOrder(factors, []int{0, 9})
	expectList(t, "0 and 9", order, ok, []int{1})
}
