package tests

import (
	"fmt"
	"math/big"
	"math/rand"
	"slices"
	"strings"
	"testing"

	"loop.example/g00893/impl"
)

// constantFactor returns a factor of variables with sizes, such as "0:2 1:3", all of whose entries are the same.
func constantFactor(t *testing.T, vars, number string) impl.Factor {
	t.Helper()
	f := factorOf(t, vars+"=")
	entries := 1
	for _, size := range f.Sizes {
		entries *= size
	}
	f.Table = slices.Repeat([]impl.Rat{rat(t, number)}, entries)
	return f
}

// constantFactors returns factors with the entries 1, of variables that are separated by semicolons.
func constantFactors(t *testing.T, vars string) []impl.Factor {
	t.Helper()
	var factors []impl.Factor
	for _, part := range strings.Split(vars, ";") {
		factors = append(factors, constantFactor(t, part, "1"))
	}
	return factors
}

func TestLargestFactors(t *testing.T) {
	for vars, valid := range map[string]bool{
		"0:2 1:2 2:2 3:2 4:2 5:2": true, "0:2 1:2 2:2 3:2 4:2 5:2 6:2": false, "4:2 5:2 6:2 7:2 8:2 9:2": true, "0:2 1:2 2:2 3:2 4:2 5:2 6:2 7:2 8:2 9:2": false,
		"0:4 1:4 2:4 3:4": true, "6:4 7:4 8:4 9:4": true, "0:4 1:4 2:4 3:4 4:2": false, "0:4 1:4 2:4 3:2 4:2": true, "0:2 1:2 2:2 3:2 4:4 5:4": true, "0:2 1:2 2:2 3:3 4:4 5:3": false,
		"0:3 1:3 2:3 3:3 4:3": true, "0:3 1:3 2:3 3:3 4:4": false, "0:4 1:4 2:4 3:3": true, "0:4 1:4 2:4 3:4 4:4": false, "0:2 1:2 2:2 3:2 4:2 5:2 6:2 7:2": false, "0:2 9:4": true, "": true,
	} {
		f := constantFactor(t, vars, "1")
		if impl.IsValidFactor(f) != valid {
			t.Errorf("%s: valid instead of %v", vars, valid)
		}
		wanted := fails
		if valid {
			wanted = textOfFactor(f)
		}
		same, ok := impl.Eliminate([]impl.Factor{f}, nil)
		expectFactor(t, vars, same, ok, wanted)
		same, ok = impl.MultiplyFactors(f, factorOf(t, "= 1"))
		expectFactor(t, vars, same, ok, wanted)
		sizes, areFirst := f.Sizes, slices.Equal(f.Vars, forward(len(f.Vars)))
		zero, ok := impl.FactorOfStates(sizes, nil)
		if ok != (valid || vars == "0:2 9:4" || !areFirst) || ok && (!slices.Equal(zero.Sizes, sizes) || !slices.Equal(zero.Vars, forward(len(sizes))) || !slices.Equal(zero.Table, slices.Repeat([]impl.Rat{zeroRat}, len(f.Table)))) {
			t.Errorf("%s: states %s %v", vars, textOfFactor(zero), ok)
		}
	}
}

func TestLargestProducts(t *testing.T) {
	for _, c := range []struct{ a, b, both string }{
		{"0:2 1:2 2:2", "3:2 4:2 5:2", "0:2 1:2 2:2 3:2 4:2 5:2"}, {"0:2 1:2 2:2", "3:2 4:2 5:2 6:2", fails}, {"0:2 1:2 2:2 3:2 4:2 5:2", "0:2 1:2 2:2 3:2 4:2 5:2", "0:2 1:2 2:2 3:2 4:2 5:2"},
		{"0:2 1:2 2:2 3:2 4:2 5:2", "0:2 1:2 2:2 3:2 4:2 6:2", fails}, {"0:2 1:2 2:2 3:2 4:2 5:2", "9:2", fails}, {"0:4 1:4", "2:4 3:4", "0:4 1:4 2:4 3:4"}, {"0:4 1:4", "2:4 3:4 4:2", fails},
		{"0:4 1:4 2:4", "1:4 2:4 3:4", "0:4 1:4 2:4 3:4"}, {"0:4 1:4 2:4", "2:4 3:4 4:4", fails}, {"0:4 1:4 2:4 3:4", "", "0:4 1:4 2:4 3:4"}, {"0:3 1:3 2:3", "3:3 4:3", "0:3 1:3 2:3 3:3 4:3"},
		{"0:3 1:3 2:3", "3:3 4:4", fails}, {"0:2 1:2 2:2 3:2", "4:4 5:4", "0:2 1:2 2:2 3:2 4:4 5:4"}, {"0:2 1:2 2:2 3:2", "4:4 5:4 6:2", fails}, {"0:2 1:2 2:2 3:3", "4:3 5:4", fails},
	} {
		wanted := fails
		if c.both != fails {
			wanted = textOfFactor(constantFactor(t, c.both, "6"))
		}
		both, ok := impl.MultiplyFactors(constantFactor(t, c.a, "2"), constantFactor(t, c.b, "3"))
		expectFactor(t, c.a+" and "+c.b, both, ok, wanted)
		both, ok = impl.MultiplyFactors(constantFactor(t, c.b, "2"), constantFactor(t, c.a, "3"))
		expectFactor(t, c.b+" and "+c.a, both, ok, wanted)
	}
}

func TestNumberOfFactors(t *testing.T) {
	for count := range 30 {
		factors := slices.Repeat(factorsOf(t, "0:2 = 1 2"), count)
		wanted, width, order := fails, -1, []int(nil)
		if count >= 1 && count <= 12 {
			wanted, width, order = fmt.Sprintf("= %d", 1+1<<count), 1, []int{0}
		}
		f, ok := impl.Eliminate(factors, []int{0})
		expectFactor(t, fmt.Sprint(count, " factors"), f, ok, wanted)
		got, ok := impl.EliminationWidth(factors, []int{0})
		expectInt(t, fmt.Sprint(count, " factors"), got, ok, width)
		list, ok := impl.MinDegreeOrder(factors, nil)
		expectList(t, fmt.Sprint(count, " factors"), list, ok, order)
		got, ok = impl.EliminationWidth(factors, nil)
		expectInt(t, fmt.Sprint(count, " factors"), got, ok, min(width, 0))
	}
}

// TestTooLargeOnTheWay has products that exceed a limit in some orders only. The width does not depend on that.
func TestTooLargeOnTheWay(t *testing.T) {
	expectEliminated(t, constantFactors, []eliminateCase{
		{"0:2 1:2;0:2 2:2;0:2 3:2;0:2 4:2;0:2 5:2;0:2 6:2", []int{0}, fails, 7}, {"0:2 1:2;0:2 2:2;0:2 3:2;0:2 4:2;0:2 5:2;0:2 6:2", []int{6, 0}, "1:2 2:2 3:2 4:2 5:2 =" + strings.Repeat(" 4", 32), 6},
		{"0:2 1:2;0:2 2:2;0:2 3:2;0:2 4:2;0:2 5:2;0:2 6:2", []int{0, 6}, fails, 7}, {"0:2 1:2;0:2 2:2;0:2 3:2;0:2 4:2;0:2 5:2", []int{0}, "1:2 2:2 3:2 4:2 5:2 =" + strings.Repeat(" 2", 32), 6},
		{"0:2;1:2;2:2;3:2;4:2;5:2;6:2", nil, fails, 0}, {"0:2;1:2;2:2;3:2;4:2;5:2;6:2", []int{3}, "0:2 1:2 2:2 4:2 5:2 6:2 =" + strings.Repeat(" 2", 64), 1}, {"0:2;1:2;2:2;3:2;4:2;5:2;6:2;7:2", []int{3}, fails, 1},
		{"0:2;1:2;2:2;3:2;4:2;5:2;6:2;7:2;8:2;9:2", []int{9, 0, 8, 1, 7, 2, 6, 3, 5, 4}, "= 1024", 1}, {"0:4;1:4;2:4;3:4;4:2", nil, fails, 0}, {"0:4;1:4;2:4;3:4;4:2", []int{4}, "0:4 1:4 2:4 3:4 =" + strings.Repeat(" 2", 256), 1},
		{"0:4 1:4;0:4 2:4;0:4 3:4;0:4 4:2", []int{0}, fails, 5}, {"0:4 1:4;0:4 2:4;0:4 3:4;0:4 4:2", []int{4, 0}, "1:4 2:4 3:4 =" + strings.Repeat(" 8", 64), 4}, {"0:4 1:4;0:4 2:4;0:4 3:4;0:4 4:2", []int{1, 0}, "2:4 3:4 4:2 =" + strings.Repeat(" 16", 32), 4},
		{"0:4 1:4;2:4 3:4;1:4 2:4;0:4 3:4;4:4", []int{0, 1, 2, 3, 4}, "= 1024", 3}, {"0:2 9:2;1:2 9:2;2:2 9:2;3:2 9:2;4:2 9:2;5:2 9:2;6:2 9:2;7:2 9:2;8:2 9:2", []int{9}, fails, 10},
		{"0:2 9:2;1:2 9:2;2:2 9:2;3:2 9:2;4:2 9:2;5:2 9:2;6:2 9:2;7:2 9:2;8:2 9:2", []int{9, 0, 1, 2, 3, 4, 5, 6, 7, 8}, fails, 10},
		{"0:2 9:2;1:2 9:2;2:2 9:2;3:2 9:2;4:2 9:2;5:2 9:2;6:2 9:2;7:2 9:2;8:2 9:2", []int{0, 1, 2, 3, 4, 5, 6, 7, 8, 9}, "= 1024", 2},
		{"0:4 1:4 2:4 3:4;3:4 4:2", []int{3}, fails, 5}, {"0:4 1:4 2:4 3:4;3:4 4:2", []int{2}, "0:4 1:4 3:4 4:2 =" + strings.Repeat(" 4", 128), 4}, {"0:4 1:4 2:4 3:4;3:4 4:2", []int{4}, "0:4 1:4 2:4 3:4 =" + strings.Repeat(" 2", 256), 2},
		{"0:2 1:2 2:2;2:2 3:2 4:2;4:2 5:2 6:2;6:2 7:2 8:2;8:2 9:2;0:2 9:2", []int{0, 2, 4, 6, 8}, fails, 7}, {"0:2 1:2 2:2;2:2 3:2 4:2;4:2 5:2 6:2;6:2 7:2 8:2;8:2 9:2;0:2 9:2", []int{0, 1, 2, 3, 4, 5, 6, 7, 8, 9}, "= 1024", 4},
	})
}

// TestFactorsWithLongNumbers has numbers at the limit and beyond it, in results and on the way.
func TestFactorsWithLongNumbers(t *testing.T) {
	long, product := nines(120), productOf(t, atLimit)
	both, ok := bothWays(t, "0:2 = 1 1/"+limitDen, "0:2 = 1 1/"+lastDen)
	expectFactor(t, "at the limit", both, ok, "0:2 = 1 "+product)
	both, ok = bothWays(t, "0:2 = 1 1/"+limitDen, "0:2 = 1 1/"+firstBeyond)
	expectFactor(t, "beyond the limit", both, ok, fails)
	both, ok = bothWays(t, "0:2 = 1/"+limitDen+" 1", "0:2 = 1/"+firstBeyond+" 1")
	expectFactor(t, "beyond the limit first", both, ok, fails)
	both, ok = bothWays(t, "0:2 = 0 1/"+limitDen, "0:2 = 1/"+firstBeyond+" 0")
	expectFactor(t, "zeros", both, ok, "0:2 = 0 0")
	both, ok = bothWays(t, "0:2 = "+long+" 1/"+long, "0:2 = 1/"+long+" "+long)
	expectFactor(t, "reduced", both, ok, "0:2 = 1 1")
	both, ok = bothWays(t, "= "+long, "= 2")
	expectFactor(t, "long numerator", both, ok, fails)
	for _, c := range []struct{ f, wanted string }{
		{"0:2 = 1/" + limitDen + " 1/" + lastDen, "= " + sumText(t, "1/"+limitDen, "1/"+lastDen)}, {"0:2 = 1/" + limitDen + " 1/" + firstBeyond, fails},
		{"0:2 = " + long + " 1", fails}, {"0:2 = " + long + " 0", "= " + long}, {"0:2 1:2 = 1 " + long + " 0 1", fails}, {"0:2 1:2 = " + long + " 1 1 0", fails},
		{"0:3 = 1/" + limitDen + " 1/" + firstBeyond + " " + sumText(t, "1", "-1/"+limitDen), "= " + sumText(t, "1", "1/"+firstBeyond)},
		{"0:3 = 1/" + limitDen + " " + sumText(t, "1", "-1/"+limitDen) + " 1/" + firstBeyond, "= " + sumText(t, "1", "1/"+firstBeyond)},
	} {
		sum, ok := impl.SumOut(factorOf(t, c.f), 0)
		expectFactor(t, "sum of "+c.f, sum, ok, c.wanted)
	}
	part, ok := impl.RestrictFactor(factorOf(t, "0:2 = "+long+" "+product), 0, 1)
	expectFactor(t, "restriction", part, ok, "= "+product)
	entry, ok := impl.FactorAt(factorOf(t, "0:2 = "+long+" "+product), []int{0})
	expectRat(t, "entry", entry, ok, long)
	f, ok := impl.FactorOfStates([]int{2}, weightedOf(t, "0:"+product+" 1:"+sumText(t, "1", "-"+product)))
	expectFactor(t, "states", f, ok, "0:2 = "+product+" "+sumText(t, "1", "-"+product))
}

// bothWays returns the product of two factors, and checks that Eliminate returns it, too, for the other order.
func bothWays(t *testing.T, a, b string) (impl.Factor, bool) {
	t.Helper()
	f, ok := product(t, a, b)
	same, okSame := impl.Eliminate(factorsOf(t, b+";"+a), nil)
	if ok != okSame || textOfFactor(f) != textOfFactor(same) {
		t.Errorf("%s and %s: %s and %s", a, b, textOfFactor(f), textOfFactor(same))
	}
	return f, ok
}

func TestNormalizedLongNumbers(t *testing.T) {
	long := nines(120)
	for _, c := range []struct{ f, wanted string }{
		{"0:2 = " + long + " " + long, "0:2 = 1/2 1/2"}, {"0:3 = 1/" + long + " 2/" + long + " 0", "0:3 = 1/3 2/3 0"}, {"0:2 = " + long + " 1", fails},
		{"0:2 = 1/" + limitDen + " 1/" + firstBeyond, "0:2 = " + normalized(t, "1/"+limitDen, "1/"+firstBeyond)}, {"0:2 = 3/" + limitDen + " 7/" + tenTo(59) + "7", "0:2 = " + normalized(t, "3/"+limitDen, "7/"+tenTo(59)+"7")},
		{"0:2 = 1/" + nines(90) + " " + nines(89) + "7", fails}, {"0:4 = " + long + " " + long + " 0 " + long, "0:4 = 1/3 1/3 0 1/3"},
	} {
		f, ok := impl.NormalizeFactor(factorOf(t, c.f))
		expectFactor(t, c.f, f, ok, c.wanted)
	}
}

// normalized returns the texts of two numbers divided by their sum.
func normalized(t *testing.T, a, b string) string {
	t.Helper()
	x, y := bigOfRat(t, rat(t, a)), bigOfRat(t, rat(t, b))
	sum := sumOf(x, y)
	return x.Quo(x, sum).RatString() + " " + y.Quo(y, sum).RatString()
}

// TestLongNumbersOnTheWay has tables that exceed the limit before they are multiplied or summed.
func TestLongNumbersOnTheWay(t *testing.T) {
	product := productOf(t, atLimit)
	for _, c := range []struct {
		factors string
		order   []int
		wanted  string
	}{
		{"= 1/" + limitDen + "; = 1/" + firstBeyond + "; = " + firstBeyond, nil, "= 1/" + limitDen}, {"= 1/" + limitDen + "; = 1/" + firstBeyond + "; = 0", nil, "= 0"}, {"= 1/" + limitDen + "; = 1/" + firstBeyond + "; = 1", nil, fails},
		{"0:2 = 1/" + limitDen + " 0; 0:2 = 1/" + firstBeyond + " 1; = " + firstBeyond, []int{0}, "= 1/" + limitDen}, {"0:2 = 1/" + limitDen + " 0; 0:2 = 1/" + firstBeyond + " 1; = " + limitDen, []int{0}, "= 1/" + firstBeyond},
		{"0:2 = 1/" + limitDen + " 1; 0:2 = 1/" + firstBeyond + " " + sumText(t, "1", "-"+product), []int{0}, fails}, {"0:2 1:2 = 1/" + limitDen + " 1 1 1; 0:2 = 1/" + firstBeyond + " 1; 1:2 = 0 1", []int{0}, "1:2 = 0 " + sumText(t, "1", "1/"+firstBeyond)},
		{"0:2 1:2 = 1/" + limitDen + " 1 1 1; 0:2 = 1/" + firstBeyond + " 1; 1:2 = 0 1", []int{0, 1}, "= " + sumText(t, "1", "1/"+firstBeyond)}, {"0:2 1:2 = 1/" + limitDen + " 1 1 1; 0:2 = 1/" + firstBeyond + " 1; 1:2 = 1 0", []int{1, 0}, fails},
	} {
		f, ok := impl.Eliminate(factorsOf(t, c.factors), c.order)
		expectFactor(t, fmt.Sprint(c.factors, " without ", c.order), f, ok, c.wanted)
	}
}

// longRows returns a factor of v and the variables before it, at most that many, all of size 2. For all values of these
// variables, the entries for v = 0 and 1 are positive numbers of 120 digits that sum to 1.
func longRows(source *rand.Rand, v, before int) impl.Factor {
	f := impl.Factor{}
	for w := max(0, v-before); w <= v; w++ {
		f.Vars, f.Sizes = append(f.Vars, w), append(f.Sizes, 2)
	}
	limit, _ := new(big.Int).SetString(tenTo(119), 10)
	for range 1 << (len(f.Vars) - 1) {
		num := new(big.Int).Rand(source, limit)
		den := new(big.Int).Rand(source, limit)
		den.Add(den, limit)
		for _, part := range []*big.Int{num, new(big.Int).Sub(den, num)} {
			r, _ := ratOfBig(new(big.Rat).SetFrac(part, den))
			f.Table = append(f.Table, r)
		}
	}
	return f
}

// TestLongSumsOfLongSums eliminates variables before those that depend on them, so that all numbers meet in sums of sums,
// although those that are left are within the limit again.
func TestLongSumsOfLongSums(t *testing.T) {
	source := rand.New(rand.NewSource(131))
	var factors []impl.Factor
	for v := range 10 {
		factors = append(factors, longRows(source, v, 4))
	}
	first := textOfFactor(factors[0])
	for _, c := range []struct {
		order  []int
		wanted string
	}{
		{backward(10), "= 1"}, {forward(10), "= 1"}, {[]int{1, 0, 3, 2, 5, 4, 6, 7, 8, 9}, "= 1"}, {forward(10)[1:], first}, {[]int{1, 9, 2, 8, 3, 4, 7, 5, 6}, first}, {forward(10)[:9], fails}, {forward(10)[2:], fails},
	} {
		f, ok := impl.Eliminate(factors, c.order)
		expectFactor(t, fmt.Sprint(c.order), f, ok, c.wanted)
	}
	slices.Reverse(factors)
	f, ok := impl.Eliminate(factors, forward(10))
	expectFactor(t, "reversed", f, ok, "= 1")
}
