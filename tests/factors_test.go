package tests

import (
	"fmt"
	"slices"
	"strings"
	"testing"

	"loop.example/g00893/impl"
)

// factorA and factorB are the factors of the examples.
const factorA, factorB = "0:2 = 1/3 2/3", "0:2 1:2 = 1/2 1/2 1/4 3/4"

// expectFactor checks a factor; fails means that the call must fail.
func expectFactor(t *testing.T, what string, got impl.Factor, ok bool, wanted string) {
	t.Helper()
	if wanted == fails {
		if ok || got.Vars != nil || got.Sizes != nil || got.Table != nil {
			t.Errorf("%.200s: got %.300s %v instead of no factor", what, textOfFactor(got), ok)
		}
		return
	}
	if text := textOfFactor(got); !ok || text != wanted {
		t.Errorf("%.200s: got %.300s %v, want %.300s", what, text, ok, wanted)
	}
	if !impl.IsValidFactor(got) {
		t.Errorf("%.200s: %.300s is not valid", what, textOfFactor(got))
	}
}

// product returns the result of MultiplyFactors for two factors given as texts.
func product(t *testing.T, a, b string) (impl.Factor, bool) {
	t.Helper()
	return impl.MultiplyFactors(factorOf(t, a), factorOf(t, b))
}

func TestExamplesOfFactors(t *testing.T) {
	a, b := factorOf(t, factorA), factorOf(t, factorB)
	if !impl.IsValidFactor(a) || !impl.IsValidFactor(b) || impl.IsValidFactor(factorOf(t, "0:2 = 1/3")) {
		t.Error("valid")
	}
	entry, ok := impl.FactorAt(b, []int{1, 0})
	expectRat(t, "entry", entry, ok, "1/4")
	r, _ := impl.Infer(exampleG())
	states, _ := impl.Posterior(r)
	f, ok := impl.FactorOfStates([]int{2, 2}, states)
	expectFactor(t, "posterior", f, ok, "0:2 1:2 = 0 1/5 2/5 2/5")
	both, ok := impl.MultiplyFactors(a, b)
	expectFactor(t, "product", both, ok, "0:2 1:2 = 1/6 1/6 1/6 1/2")
	f, ok = impl.SumOut(both, 0)
	expectFactor(t, "sum", f, ok, "1:2 = 1/3 2/3")
	f, ok = impl.RestrictFactor(b, 0, 1)
	expectFactor(t, "restriction", f, ok, "1:2 = 1/4 3/4")
	f, ok = impl.NormalizeFactor(factorOf(t, "2:2 = 1 3"))
	expectFactor(t, "normalized", f, ok, "2:2 = 1/4 3/4")
	f, ok = impl.Eliminate([]impl.Factor{a, b}, []int{0})
	expectFactor(t, "eliminated", f, ok, "1:2 = 1/3 2/3")
	width, ok := impl.EliminationWidth([]impl.Factor{a, b}, []int{0})
	expectInt(t, "width", width, ok, 2)
	order, ok := impl.MinDegreeOrder([]impl.Factor{a, b}, []int{1})
	expectList(t, "order", order, ok, []int{0})
}

// largeFactor returns a factor with the numbers from 1 on as entries.
func largeFactor(t *testing.T, vars string) impl.Factor {
	t.Helper()
	entries := 1
	for _, field := range strings.Fields(vars) {
		entries *= int(field[len(field)-1] - '0')
	}
	text := vars + " ="
	for k := range entries {
		text += fmt.Sprint(" ", k+1)
	}
	return factorOf(t, text)
}

func TestEntriesAreInLexicographicOrder(t *testing.T) {
	f := largeFactor(t, "1:2 4:3 9:4")
	for a := range 2 {
		for b := range 3 {
			for c := range 4 {
				entry, ok := impl.FactorAt(f, []int{a, b, c})
				expectRat(t, fmt.Sprint(a, b, c), entry, ok, fmt.Sprint(12*a+4*b+c+1))
			}
		}
	}
	entry, ok := impl.FactorAt(factorOf(t, "= 2/7"), nil)
	expectRat(t, "no variables", entry, ok, "2/7")
	entry, ok = impl.FactorAt(factorOf(t, "= 0"), []int{})
	expectRat(t, "no variables", entry, ok, "0")
	entry, ok = impl.FactorAt(largeFactor(t, "0:4 3:4 4:4 9:4"), []int{3, 3, 3, 3})
	expectRat(t, "the last of many", entry, ok, "256")
	entry, ok = impl.FactorAt(largeFactor(t, "0:2 1:2 2:2 3:2 4:2 5:2"), []int{1, 0, 0, 0, 0, 1})
	expectRat(t, "many variables", entry, ok, "34")
}

func TestProductsOfFactors(t *testing.T) {
	for _, c := range []struct{ a, b, product string }{
		{"0:2 = 1/2 1/3", "0:2 = 2 5", "0:2 = 1 5/3"}, {"0:2 1:2 = 1 2 3 4", "0:2 1:2 = 5 6 7 8", "0:2 1:2 = 5 12 21 32"},
		{"0:2 = 1 2", "1:3 = 3 4 5", "0:2 1:3 = 3 4 5 6 8 10"}, {"5:2 = 1 2", "0:3 = 1 10 100", "0:3 5:2 = 1 2 10 20 100 200"},
		{"0:2 2:2 = 1 2 3 4", "1:2 = 10 100", "0:2 1:2 2:2 = 10 20 100 200 30 40 300 400"},
		{"0:2 2:2 = 1 2 3 4", "1:2 2:2 = 1 10 100 1000", "0:2 1:2 2:2 = 1 20 100 2000 3 40 300 4000"},
		{"1:2 2:2 = 1 10 100 1000", "0:2 1:2 = 1 2 3 4", "0:2 1:2 2:2 = 1 10 200 2000 3 30 400 4000"},
		{"0:2 1:2 = 1 2 3 4", "1:2 = 1/2 0", "0:2 1:2 = 1/2 0 3/2 0"}, {"0:2 1:2 = 1 2 3 4", "0:2 = 0 1/2", "0:2 1:2 = 0 0 3/2 2"},
		{"= 1/2", "3:2 = 1 2", "3:2 = 1/2 1"}, {"3:2 = 1 2", "= 1/2", "3:2 = 1/2 1"}, {"= 1/2", "= 2/3", "= 1/3"}, {"= 0", "9:2 = 1 2", "9:2 = 0 0"},
		{"0:4 = 1 2 3 4", "9:2 = 5 7", "0:4 9:2 = 5 7 10 14 15 21 20 28"}, {"9:4 = 1 2 3 4", "0:2 9:4 = 1 1 1 1 2 2 2 2", "0:2 9:4 = 1 2 3 4 2 4 6 8"},
		{"0:2 = 3/4 5/6", "0:2 = 4/3 6/5", "0:2 = 1 1"}, {"4:3 = 0 1/2 0", "4:3 = 1 0 0", "4:3 = 0 0 0"},
	} {
		both, ok := product(t, c.a, c.b)
		expectFactor(t, c.a+" and "+c.b, both, ok, c.product)
		both, ok = product(t, c.b, c.a)
		expectFactor(t, c.b+" and "+c.a, both, ok, c.product)
	}
}

func TestSumsOfFactors(t *testing.T) {
	f := "1:2 4:3 9:2 = 1 2 3 4 5 6 1/2 1/3 1/4 1/5 1/6 1/7"
	for _, c := range []struct {
		f      string
		v      int
		wanted string
	}{
		{f, 1, "4:3 9:2 = 3/2 7/3 13/4 21/5 31/6 43/7"}, {f, 4, "1:2 9:2 = 9 12 11/12 71/105"}, {f, 9, "1:2 4:3 = 3 7 11 5/6 9/20 13/42"},
		{f, 0, fails}, {f, 2, fails}, {f, 3, fails}, {f, 5, fails}, {f, 8, fails}, {f, 10, fails}, {f, -1, fails},
		{"0:2 = 1/2 1/2", 0, "= 1"}, {"9:4 = 1 0 0 1/2", 9, "= 3/2"}, {"3:2 = 0 0", 3, "= 0"}, {"= 1", 0, fails}, {"3:2 = 0 0", 4, fails},
		{"0:2 1:2 = 0 0 0 1", 0, "1:2 = 0 1"}, {"0:2 1:4 = 1 2 3 4 5 6 7 8", 1, "0:2 = 10 26"}, {"0:4 1:2 = 1 2 3 4 5 6 7 8", 0, "1:2 = 16 20"},
	} {
		sum, ok := impl.SumOut(factorOf(t, c.f), c.v)
		expectFactor(t, fmt.Sprint(c.f, " without ", c.v), sum, ok, c.wanted)
	}
}

func TestRestrictionsOfFactors(t *testing.T) {
	f := "1:2 4:3 9:2 = 1 2 3 4 5 6 1/2 1/3 1/4 1/5 1/6 1/7"
	for _, c := range []struct {
		f        string
		v, value int
		wanted   string
	}{
		{f, 1, 0, "4:3 9:2 = 1 2 3 4 5 6"}, {f, 1, 1, "4:3 9:2 = 1/2 1/3 1/4 1/5 1/6 1/7"}, {f, 4, 0, "1:2 9:2 = 1 2 1/2 1/3"}, {f, 4, 1, "1:2 9:2 = 3 4 1/4 1/5"},
		{f, 4, 2, "1:2 9:2 = 5 6 1/6 1/7"}, {f, 9, 0, "1:2 4:3 = 1 3 5 1/2 1/4 1/6"}, {f, 9, 1, "1:2 4:3 = 2 4 6 1/3 1/5 1/7"},
		{f, 1, 2, fails}, {f, 1, -1, fails}, {f, 4, 3, fails}, {f, 9, 2, fails}, {f, 0, 0, fails}, {f, 2, 1, fails}, {f, -1, 0, fails}, {f, 10, 0, fails},
		{"0:2 = 0 1/2", 0, 0, "= 0"}, {"0:2 = 0 1/2", 0, 1, "= 1/2"}, {"9:4 = 1 2 3 4", 9, 3, "= 4"}, {"9:4 = 1 2 3 4", 9, 4, fails}, {"= 1", 0, 0, fails},
	} {
		part, ok := impl.RestrictFactor(factorOf(t, c.f), c.v, c.value)
		expectFactor(t, fmt.Sprint(c.f, " with ", c.v, " = ", c.value), part, ok, c.wanted)
	}
}

func TestNormalizedFactors(t *testing.T) {
	for _, c := range []struct{ f, wanted string }{
		{"0:2 = 1 0", "0:2 = 1 0"}, {"0:2 = 0 7", "0:2 = 0 1"}, {"0:2 = 0 0", fails}, {"= 5/3", "= 1"}, {"= 1", "= 1"}, {"= 0", fails}, {"3:4 = 0 0 0 0", fails},
		{"3:3 = 1/2 1/3 1/6", "3:3 = 1/2 1/3 1/6"}, {"3:3 = 1/2 1/3 1/4", "3:3 = 6/13 4/13 3/13"}, {"0:2 1:2 = 1 2 3 4", "0:2 1:2 = 1/10 1/5 3/10 2/5"},
		{"0:2 1:2 = 0 0 1/" + nines(120) + " 0", "0:2 1:2 = 0 0 1 0"}, {factorB, "0:2 1:2 = 1/4 1/4 1/8 3/8"},
	} {
		f, ok := impl.NormalizeFactor(factorOf(t, c.f))
		expectFactor(t, c.f, f, ok, c.wanted)
	}
}

func TestFactorsOfStates(t *testing.T) {
	for _, c := range []struct {
		sizes          []int
		states, wanted string
	}{
		{[]int{2}, "0:1/2 1:1/3", "0:2 = 1/2 1/3"}, {[]int{2}, "1:1/3", "0:2 = 0 1/3"}, {[]int{3}, "0:1/2 1:1/3", "0:3 = 1/2 1/3 0"}, {[]int{4}, "3:1", "0:4 = 0 0 0 1"},
		{[]int{2, 3}, "00:1/2 12:1/3", "0:2 1:3 = 1/2 0 0 0 0 1/3"}, {[]int{3, 2}, "01:1/7 20:2/7 21:3/7", "0:3 1:2 = 0 1/7 0 0 2/7 3/7"},
		{[]int{2, 2, 2}, "010:1/5 101:1/6", "0:2 1:2 2:2 = 0 0 1/5 0 0 1/6 0 0"}, {[]int{2, 3}, "", "0:2 1:3 = 0 0 0 0 0 0"}, {[]int{}, "", "= 0"}, {nil, "", "= 0"},
		{[]int{2}, "2:1/2", fails}, {[]int{3}, "0:1/2 3:1/3", fails}, {[]int{2, 3}, "00:1/2 20:1/3", fails}, {[]int{2, 3}, "00:1/2 03:1/3", fails},
		{[]int{2, 2}, "0:1/2", fails}, {[]int{2}, "00:1/2", fails}, {nil, "0:1/2", fails}, {[]int{2, 2, 2}, "00:1/2", fails}, {[]int{2, 2}, "000:1/2", fails},
		{[]int{2, 2, 2, 2, 2, 2}, "00000:1/2", fails}, {[]int{2, 2, 2, 2, 2, 2}, "", "0:2 1:2 2:2 3:2 4:2 5:2 =" + strings.Repeat(" 0", 64)},
		{[]int{2, 2, 2, 2, 2}, "00000:1/2 11111:1/2", "0:2 1:2 2:2 3:2 4:2 = 1/2" + strings.Repeat(" 0", 30) + " 1/2"},
	} {
		f, ok := impl.FactorOfStates(c.sizes, weightedOf(t, c.states))
		expectFactor(t, fmt.Sprint(c.sizes, c.states), f, ok, c.wanted)
	}
}

// eliminateCase is a call of Eliminate, and what it and EliminationWidth must return.
type eliminateCase struct {
	factors string
	order   []int
	wanted  string
	width   int
}

// expectEliminated checks cases whose factors are written in a form that read reads.
func expectEliminated(t *testing.T, read func(t *testing.T, text string) []impl.Factor, cases []eliminateCase) {
	t.Helper()
	for _, c := range cases {
		what := fmt.Sprint(c.factors, " without ", c.order)
		f, ok := impl.Eliminate(read(t, c.factors), c.order)
		expectFactor(t, what, f, ok, c.wanted)
		width, ok := impl.EliminationWidth(read(t, c.factors), c.order)
		expectInt(t, what, width, ok, c.width)
	}
}

func TestEliminations(t *testing.T) {
	expectEliminated(t, factorsOf, []eliminateCase{
		{factorA, nil, factorA, 0}, {factorA, []int{}, factorA, 0}, {factorA, []int{0}, "= 1", 1}, {factorB, []int{1, 0}, "= 2", 2}, {factorB, []int{0}, "1:2 = 3/4 5/4", 2},
		{"= 1/2", nil, "= 1/2", 0}, {"= 1/2; = 1/3; = 1/4", nil, "= 1/24", 0}, {"= 0; 0:2 = 1 2", nil, "0:2 = 0 0", 0}, {"= 1/2; 0:2 = 1 2", []int{0}, "= 3/2", 1},
		{"0:2 = 1 2; 1:2 = 3 4", []int{0}, "1:2 = 9 12", 1}, {"0:2 = 1 2; 1:2 = 3 4", []int{1, 0}, "= 21", 1}, {"0:2 = 1 2; 1:2 = 3 4", nil, "0:2 1:2 = 3 4 6 8", 0},
		{factorA + ";" + factorB, []int{1}, "0:2 = 1/3 2/3", 2}, {factorA + ";" + factorB, []int{0, 1}, "= 1", 2}, {factorB + ";" + factorA, []int{1, 0}, "= 1", 2},
		{"0:2 1:2 = 1 2 3 4; 1:2 2:2 = 5 6 7 8", []int{1}, "0:2 2:2 = 19 22 43 50", 3}, {"1:2 2:2 = 5 6 7 8; 0:2 1:2 = 1 2 3 4", []int{1}, "0:2 2:2 = 19 22 43 50", 3},
		{"0:2 1:2 = 1 2 3 4; 1:2 2:2 = 5 6 7 8", []int{0, 2}, "1:2 = 44 90", 2}, {"0:2 1:2 = 1 2 3 4; 1:2 2:2 = 5 6 7 8", []int{2, 0, 1}, "= 134", 2},
		{"0:2 = 1 2; 0:2 = 3 4; 0:2 = 5 6", []int{0}, "= 63", 1}, {"0:2 = 1 2; 0:2 = 3 4; 0:2 = 5 6", nil, "0:2 = 15 48", 0}, {"0:2 = 1 0; 0:2 = 0 1", []int{0}, "= 0", 1},
		{"0:4 9:2 = 1 2 3 4 5 6 7 8; 9:2 = 1 1/2", []int{9}, "0:4 = 2 5 8 11", 2}, {"0:4 9:2 = 1 2 3 4 5 6 7 8; 9:2 = 1 1/2", []int{0}, "9:2 = 16 10", 2},
		{"0:2 = 1 1; 1:2 = 1 1; 2:2 = 1 1; 0:2 3:2 = 1 1 1 1; 1:2 3:2 = 1 1 1 1; 2:2 3:2 = 1 1 1 1", []int{3}, "0:2 1:2 2:2 = 2 2 2 2 2 2 2 2", 4},
		{"0:2 = 1 1; 1:2 = 1 1; 2:2 = 1 1; 0:2 3:2 = 1 1 1 1; 1:2 3:2 = 1 1 1 1; 2:2 3:2 = 1 1 1 1", []int{2, 0, 1}, "3:2 = 8 8", 2},
	})
}

func TestOrdersThatAreNone(t *testing.T) {
	for _, order := range [][]int{{0, 0}, {1, 0, 1}, {2}, {0, 2}, {0, 1, 2}, {-1}, {0, -1}, {9}, {10}, {0, 10}, {0, 1, 0, 1}} {
		expectEliminated(t, factorsOf, []eliminateCase{{factorA + ";" + factorB, order, fails, -1}})
	}
	for _, v := range extremes()[1:] {
		expectEliminated(t, factorsOf, []eliminateCase{{factorB, []int{v}, fails, -1}, {factorB, []int{0, v}, fails, -1}, {"= 1", []int{v}, fails, -1}})
	}
	expectEliminated(t, factorsOf, []eliminateCase{{"= 1", []int{0}, fails, -1}, {"0:2 = 1 1; 9:2 = 1 1", []int{5}, fails, -1}, {"0:2 = 1 1; 9:2 = 1 1", []int{9, 0, 9}, fails, -1}})
}

// edges returns factors of two variables each, whose digits are separated by blanks.
func edges(t *testing.T, pairs string) []impl.Factor {
	t.Helper()
	var factors []impl.Factor
	for _, vars := range strings.Fields(pairs) {
		f := impl.Factor{Table: slices.Repeat([]impl.Rat{rat(t, "1")}, 1<<len(vars))}
		for _, v := range vars {
			f.Vars, f.Sizes = append(f.Vars, int(v-'0')), append(f.Sizes, 2)
		}
		factors = append(factors, f)
	}
	return factors
}

func TestOrdersOfLeastDegree(t *testing.T) {
	for _, c := range []struct {
		factors      string
		keep, wanted []int
	}{
		{"0", nil, []int{0}}, {"0", []int{0}, []int{}}, {"01", []int{}, []int{0, 1}}, {"01", []int{0, 1}, []int{}}, {"01", []int{0}, []int{1}}, {"1 0", nil, []int{0, 1}},
		{"09", nil, []int{0, 9}}, {"9 5 0", nil, []int{0, 5, 9}}, {"9 5 0", []int{5}, []int{0, 9}}, {"01", []int{2, 3, 9}, []int{0, 1}}, {"01", forward(10), []int{}},
		// A star: the leaves come first, as long as the centre has more neighbours than they.
		{"01 02 03", nil, []int{1, 2, 0, 3}}, {"03 13 23", nil, []int{0, 1, 2, 3}}, {"01 02 03", []int{1, 2, 3}, []int{0}}, {"01 02 03", []int{0}, []int{1, 2, 3}},
		{"01 02 03", []int{3}, []int{1, 2, 0}}, {"01 02 03", []int{1}, []int{2, 3, 0}},
		// A path, and a ring, in which each choice makes two others neighbours.
		{"01 12 23", nil, []int{0, 1, 2, 3}}, {"02 12 13", nil, []int{0, 2, 1, 3}}, {"01 12 23 03", nil, []int{0, 1, 2, 3}}, {"02 12 13 03", nil, []int{0, 1, 2, 3}},
		{"01 12 23 34 04", []int{0}, []int{1, 2, 3, 4}}, {"01 12 23 34 04", []int{1, 3}, []int{0, 2, 4}},
		// The choice of 0 makes 1 and 2 neighbours, so that 4 has fewer than each of them.
		{"01 02 14 24 35 36 37 56 57 67", nil, []int{0, 1, 2, 4, 3, 5, 6, 7}}, {"01 02 03 15 16 25 26 35 36", nil, []int{0, 5, 1, 2, 3, 6}},
		// A factor of three variables makes all of them neighbours, and another factor of two of them does not change that.
		{"012 01", nil, []int{0, 1, 2}}, {"012 23", nil, []int{3, 0, 1, 2}}, {"012 13 3 3", nil, []int{3, 0, 1, 2}}, {"345 05 15 25", nil, []int{0, 1, 2, 3, 4, 5}},
		{"56789 04", nil, []int{0, 4, 5, 6, 7, 8, 9}}, {"012345 6 7 8 9", nil, []int{6, 7, 8, 9, 0, 1, 2, 3, 4, 5}},
	} {
		order, ok := impl.MinDegreeOrder(edges(t, c.factors), c.keep)
		expectList(t, fmt.Sprint(c.factors, " but ", c.keep), order, ok, c.wanted)
		if reference := minDegreeByReference(bigFactorsOf(t, edges(t, c.factors)), c.keep); !slices.Equal(reference, c.wanted) {
			t.Errorf("%s but %v: the reference has %v", c.factors, c.keep, reference)
		}
	}
	order, ok := impl.MinDegreeOrder(factorsOf(t, "= 1"), nil)
	expectList(t, "no variables", order, ok, []int{})
	order, ok = impl.MinDegreeOrder(factorsOf(t, "= 1; 3:4 = 0 0 0 0"), []int{0, 9})
	expectList(t, "one variable", order, ok, []int{3})
}

func TestEqualFactors(t *testing.T) {
	factors := factorsOf(t, "= 1;= 0;0:2 = 1/3 2/3;0:2 = 2/3 1/3;1:2 = 1/3 2/3;0:3 = 1/3 2/3;0:2 = 1/3 2/3 0;0:2 = 1/3;0:2 1:2 = 1/3 2/3;0:2 =;=;0:2 1:2 = 1 2 3 4;1:2 0:2 = 1 2 3 4;-1:-7 = -1")
	factors = append(factors, impl.Factor{Vars: []int{0}}, impl.Factor{Sizes: []int{2}}, impl.Factor{Table: make([]impl.Rat, 1)}, impl.Factor{Table: []impl.Rat{{Num: "2", Den: "2"}}}, impl.Factor{Table: []impl.Rat{{Neg: true}}})
	for i, a := range factors {
		for k, b := range factors {
			copied := impl.Factor{Vars: slices.Clone(b.Vars), Sizes: slices.Clone(b.Sizes), Table: slices.Clone(b.Table)}
			if impl.EqualFactors(a, copied) != (i == k) {
				t.Errorf("%s and %s", textOfFactor(a), textOfFactor(b))
			}
		}
	}
	if !impl.EqualFactors(impl.Factor{}, impl.Factor{Vars: []int{}, Sizes: []int{}, Table: []impl.Rat{}}) || !impl.EqualFactors(impl.Factor{Vars: []int{}}, impl.Factor{}) {
		t.Error("nil and empty lists")
	}
	if spare := withSpare([]int{0}, 1); !impl.EqualFactors(impl.Factor{Vars: spare}, impl.Factor{Vars: []int{0}}) {
		t.Error("spare capacity")
	}
}
