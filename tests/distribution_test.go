package tests

import (
	"math"
	"math/big"
	"slices"
	"strconv"
	"strings"
	"testing"

	"loop.example/g00893/impl"
)

// fails is the wanted text of a call that returns false; "" is that of a Dist without points.
const fails = "fails"

const exampleText = "0:1/2 1:1/3 3:1/6"

// point makes a point without the functions under test.
func point(t *testing.T, value int, mass string) impl.Point {
	t.Helper()
	return impl.Point{Value: value, Mass: rat(t, mass)}
}

// dist makes a Dist of a text such as "0:1/2 1:1/3" without the functions under test.
func dist(t *testing.T, text string) impl.Dist {
	t.Helper()
	var d impl.Dist
	for _, field := range strings.Fields(text) {
		number, mass, _ := strings.Cut(field, ":")
		value, err := strconv.Atoi(number)
		if err != nil {
			t.Fatal(err)
		}
		d.Points = append(d.Points, point(t, value, mass))
	}
	return d
}

// row returns the text of count points from first on, all with the same mass.
func row(first, count int, mass string) string {
	var fields []string
	for i := range count {
		fields = append(fields, strconv.Itoa(first+i)+":"+mass)
	}
	return strings.Join(fields, " ")
}

func equalDists(a, b impl.Dist) bool { return slices.Equal(a.Points, b.Points) }

func expectDist(t *testing.T, what string, got impl.Dist, ok bool, wanted string) {
	t.Helper()
	want := impl.Dist{}
	if wanted != fails {
		want = dist(t, wanted)
	}
	if !equalDists(got, want) || ok != (wanted != fails) {
		t.Errorf("%s: got %+v %v, want %s", what, got, ok, wanted)
	}
}

// expectNumber is expectRat with fails for a call that fails.
func expectNumber(t *testing.T, what string, got impl.Rat, ok bool, wanted string) {
	t.Helper()
	expectRat(t, what, got, ok, strings.TrimPrefix(wanted, fails))
}

func zeros(n int) string { return strings.Repeat("0", n) }

// sumText returns the text of the sum of numbers, which may be of any size.
func sumText(t *testing.T, numbers ...string) string {
	t.Helper()
	sum := new(big.Rat)
	for _, number := range numbers {
		x, ok := new(big.Rat).SetString(number)
		if !ok {
			t.Fatalf("no number: %q", number)
		}
		sum.Add(sum, x)
	}
	return sum.RatString()
}

// The sums of 1/limitDen with 1/lastDen and with 1/firstBeyond have denominators of 120 and of 121 digits.
var limitDen, lastDen, firstBeyond = tenTo(60), tenTo(58) + "1", tenTo(59) + "1"

// almostOne is a Dist of two points whose masses sum to 1 + excess/(the product of their denominators of 120 digits).
func almostOne(t *testing.T, excess int64) string {
	t.Helper()
	p, _ := new(big.Int).SetString(nines(120), 10)
	q, _ := new(big.Int).SetString(nines(119)+"8", 10)
	sum := new(big.Int).Mul(p, q)
	sum.Add(sum, big.NewInt(excess))
	a := new(big.Int).ModInverse(q, p)
	a.Mul(a, sum).Mod(a, p)
	b := new(big.Int).Mul(a, q)
	b.Sub(sum, b).Quo(b, p)
	return "0:" + a.String() + "/" + p.String() + " 1:" + b.String() + "/" + q.String()
}

// exactlyOne is a Dist whose masses sum to 1, while those of its first two points sum to
// a number with a denominator of more than 200 digits.
func exactlyOne(t *testing.T) string {
	t.Helper()
	a, b := "1/8"+zeros(118), "1/"+nines(118)+"8"
	return "-3:" + a + " -2:" + b + " 5:" + sumText(t, "1/2", "-"+a) + " 6:" + sumText(t, "1/2", "-"+b)
}

func validDists(t *testing.T) []impl.Dist {
	t.Helper()
	list := []impl.Dist{{}, {Points: []impl.Point{}}}
	for _, text := range []string{
		exampleText,
		"-1000:1",
		"1000:1",
		"-1000:1/2 1000:1/2",
		"-1000:1/4 1000:1/2",
		"7:1/" + nines(120),
		"-2:1/" + nines(120) + " 7:" + nines(119) + "8/" + nines(120),
		row(-1000, 60, "1/60"),
		row(941, 60, "1/60"),
		row(0, 60, "1/1000"),
		almostOne(t, -1),
		exactlyOne(t),
	} {
		list = append(list, dist(t, text))
	}
	return list
}

func invalidDists(t *testing.T) []impl.Dist {
	t.Helper()
	list := []impl.Dist{{Points: make([]impl.Point, 1)}, {Points: make([]impl.Point, 100000)}}
	for _, text := range []string{
		"0:0",
		"0:1/2 1:0",
		"0:0 1:1/2",
		"0:-1/2 1:1/2",
		"0:1/2 1:-1/2",
		"0:2/3 1:2/3",
		"0:2",
		"0:" + nines(120) + "/" + nines(119) + "8",
		"0:1/2 1:1/2 2:1/" + nines(120),
		"1:1/2 0:1/2",
		"0:1/4 2:1/4 1:1/4",
		"0:1/2 0:1/2",
		"0:1/4 1:1/4 1:1/2",
		"1001:1",
		"-1001:1",
		"-1001:1/2 0:1/2",
		"0:1/2 1001:1/2",
		strconv.Itoa(math.MinInt) + ":1",
		strconv.Itoa(math.MaxInt) + ":1",
		row(0, 61, "1/61"),
		row(-30, 61, "1/1000"),
		almostOne(t, 1),
	} {
		list = append(list, dist(t, text))
	}
	for _, mass := range invalidRats() {
		bad := impl.Point{Value: 1, Mass: mass}
		list = append(list, impl.Dist{Points: []impl.Point{bad}}, impl.Dist{Points: []impl.Point{point(t, 0, "1/2"), bad}})
	}
	return list
}

func TestIsValidDist(t *testing.T) {
	for i, d := range validDists(t) {
		if !impl.IsValidDist(d) {
			t.Errorf("case %d is not valid: %+v", i, d)
		}
	}
	for i, d := range invalidDists(t) {
		if impl.IsValidDist(d) {
			t.Errorf("case %d is valid: %+v", i, d)
		}
	}
}

func TestMassOf(t *testing.T) {
	for _, x := range []struct{ d, want string }{
		{exampleText, "1"},
		{"", "0"},
		{"5:1/6", "1/6"},
		{"-5:1/6 5:1/3", "1/2"},
		{row(0, 60, "1/60"), "1"},
		{exactlyOne(t), "1"},
		{almostOne(t, -1), fails},
		{"0:1/" + limitDen + " 1:1/" + lastDen, sumText(t, "1/"+limitDen, "1/"+lastDen)},
		{"0:1/" + limitDen + " 1:1/" + firstBeyond, fails},
	} {
		r, ok := impl.MassOf(dist(t, x.d))
		expectNumber(t, "mass of "+x.d, r, ok, x.want)
	}
}

func TestProbabilityAt(t *testing.T) {
	wide := "-1000:1/8 -1:1/4 1000:1/" + nines(120)
	for _, x := range []struct {
		d     string
		value int
		want  string
	}{
		{exampleText, 0, "1/2"},
		{exampleText, 1, "1/3"},
		{exampleText, 2, "0"},
		{exampleText, 3, "1/6"},
		{exampleText, 4, "0"},
		{exampleText, -1, "0"},
		{wide, -1000, "1/8"},
		{wide, -1001, "0"},
		{wide, -1, "1/4"},
		{wide, 1000, "1/" + nines(120)},
		{wide, 1001, "0"},
		{wide, math.MinInt, "0"},
		{wide, math.MaxInt, "0"},
		{"", 0, "0"},
		{almostOne(t, -1), 5, "0"},
	} {
		r, ok := impl.ProbabilityAt(dist(t, x.d), x.value)
		expectNumber(t, "mass at "+strconv.Itoa(x.value), r, ok, x.want)
	}
}

func TestFromWeights(t *testing.T) {
	for _, x := range []struct {
		what            string
		values, weights []int
		want            string
	}{
		{"example", []int{3, 0, 1, 0}, []int{1, 2, 2, 1}, exampleText},
		{"one value", []int{-7}, []int{1000}, "-7:1"},
		{"least and greatest weight", []int{1, 0}, []int{1, 1000}, "0:1000/1001 1:1/1001"},
		{"repeated value", []int{5, 5, 5}, []int{1000, 1000, 1}, "5:1"},
		{"repeated apart", []int{2, -2, 2, -2}, []int{1, 2, 3, 6}, "-2:2/3 2:1/3"},
		{"extreme values", []int{1000, -1000}, []int{3, 1}, "-1000:1/4 1000:3/4"},
		{"value too large", []int{0, 1001}, []int{1, 1}, fails},
		{"value too small", []int{-1001, 0}, []int{1, 1}, fails},
		{"value far out", []int{math.MinInt, math.MaxInt}, []int{1, 1}, fails},
		{"weight 0", []int{0, 1}, []int{0, 1}, fails},
		{"weight 0 at the end", []int{0, 1}, []int{1, 0}, fails},
		{"weight 1001", []int{0, 1}, []int{1, 1001}, fails},
		{"weight -1", []int{0, 1}, []int{2, -1}, fails},
		{"repeated value with weight 0", []int{1, 1}, []int{1, 0}, fails},
		{"extreme weights", []int{0, 1}, []int{math.MinInt, math.MaxInt}, fails},
		{"nil lists", nil, nil, fails},
		{"empty lists", []int{}, []int{}, fails},
		{"no weights", []int{1}, nil, fails},
		{"no values", nil, []int{1}, fails},
		{"fewer weights", []int{1, 2}, []int{1}, fails},
		{"fewer values", []int{1}, []int{1, 2}, fails},
	} {
		d, ok := impl.FromWeights(x.values, x.weights)
		expectDist(t, x.what, d, ok, x.want)
	}
}

func TestFromWeightsOfManyValues(t *testing.T) {
	for _, x := range []struct {
		what            string
		count, distinct int
		want            string
	}{
		{"60 points", 60, 60, row(0, 60, "1/60")},
		{"61 points", 61, 61, fails},
		{"60 points, each repeatedly", 60000, 60, row(0, 60, "1/60")},
		{"61 points, each repeatedly", 61000, 61, fails},
		{"one point, very often", 1000000, 1, "0:1"},
		{"more values than may occur", 10000, 5000, fails},
	} {
		values, weights := make([]int, x.count), make([]int, x.count)
		for i := range values {
			values[i], weights[i] = (i*7)%x.distinct, 1000
		}
		d, ok := impl.FromWeights(values, weights)
		expectDist(t, x.what, d, ok, x.want)
	}
}

func TestNormalize(t *testing.T) {
	small, other := "1/"+nines(120), "1/"+tenTo(119)
	even, odd, both := "3"+zeros(119), "3"+zeros(118)+"1", "6"+zeros(118)+"1"
	for _, x := range []struct{ d, want string }{
		{"2:1/6 5:1/3", "2:1/3 5:2/3"},
		{exampleText, exampleText},
		{"", fails},
		{"-1000:1/1000", "-1000:1"},
		{"4:" + small, "4:1"},
		{"4:" + small + " 5:" + small, "4:1/2 5:1/2"},
		{row(-1000, 60, "1/100"), row(-1000, 60, "1/60")},
		{exactlyOne(t), exactlyOne(t)},
		// The sum has a denominator of 240 digits, the quotients have one of 120 digits.
		{"0:1/" + even + " 1:1/" + odd, "0:" + odd + "/" + both + " 1:" + even + "/" + both},
		// The quotients have the denominator 10^119 + 10^120 - 1.
		{"0:" + small + " 1:" + other, fails},
		{almostOne(t, -1), fails},
	} {
		d, ok := impl.Normalize(dist(t, x.d))
		expectDist(t, "normalize "+x.d, d, ok, x.want)
	}
}

func TestMixture(t *testing.T) {
	low, high := row(0, 60, "1/60"), row(60, 60, "1/60")
	for _, x := range []struct{ a, b, p, want string }{
		{"0:1", "1:1", "1/4", "0:1/4 1:3/4"},
		{"1:1", "0:1", "1/4", "0:3/4 1:1/4"},
		{exampleText, exampleText, "2/7", exampleText},
		{exampleText, "1:1/2 2:1/2", "1/2", "0:1/4 1:5/12 2:1/4 3:1/12"},
		{"0:1", "1:1", "0", "1:1"},
		{"0:1", "1:1", "1", "0:1"},
		{"0:1/2 1:1/2", "1:1/2 2:1/4", "0", "1:1/2 2:1/4"},
		{"0:1/2 1:1/2", "1:1/2 2:1/4", "1", "0:1/2 1:1/2"},
		{"0:1/2", "0:1/4", "1/2", "0:3/8"},
		{"", "", "1/2", ""},
		{"", "0:1/2", "1/2", "0:1/4"},
		{"0:1/2", "", "1/2", "0:1/4"},
		{"0:1", "", "0", ""},
		{"", "0:1", "1", ""},
		{"-1000:1", "1000:1", "1/2", "-1000:1/2 1000:1/2"},
		{low, high, "0", high},
		{low, high, "1", low},
		{low, high, "1/2", fails},
		{low, "60:1", "1/2", fails},
		{low, "59:1", "1/2", row(0, 59, "1/120") + " 59:61/120"},
		{row(0, 30, "1/30"), row(30, 30, "1/30"), "1/2", row(0, 60, "1/60")},
		{row(0, 30, "1/30"), row(30, 31, "1/31"), "1/2", fails},
		{"0:1", "1:1", "-1/2", fails},
		{"0:1", "1:1", "-1/" + nines(120), fails},
		{"0:1", "1:1", "2", fails},
		{"0:1", "1:1", nines(120) + "/" + nines(119) + "8", fails},
		{"0:1", "1:1", nines(119) + "8/" + nines(120), "0:" + nines(119) + "8/" + nines(120) + " 1:1/" + nines(120)},
	} {
		d, ok := impl.Mixture(dist(t, x.a), dist(t, x.b), rat(t, x.p))
		expectDist(t, "mixture of "+x.a+" and "+x.b+" with "+x.p, d, ok, x.want)
	}
}

func TestMixtureAtTheLimit(t *testing.T) {
	for _, x := range []struct{ a, b, p, want string }{
		{"0:1/" + tenTo(59), "", "1/" + tenTo(60), "0:1/" + tenTo(119)},
		{"0:1/" + tenTo(60), "", "1/" + tenTo(60), fails},
		{"", "0:1/" + tenTo(119), "1/2", "0:1/2" + zeros(119)},
		{"", "0:1/5" + zeros(119), "1/2", fails},
		// Both products exceed the limit, but not their sum.
		{"0:1/" + nines(120), "0:1/" + nines(120), "1/" + nines(120), "0:1/" + nines(120)},
		{almostOne(t, -1), "", "1", almostOne(t, -1)},
		{almostOne(t, -1), "5:1", "0", "5:1"},
	} {
		d, ok := impl.Mixture(dist(t, x.a), dist(t, x.b), rat(t, x.p))
		expectDist(t, "mixture", d, ok, x.want)
	}
	for _, p := range invalidRats() {
		d, ok := impl.Mixture(dist(t, "0:1"), dist(t, "1:1"), p)
		expectDist(t, "mixture with an invalid number", d, ok, fails)
	}
}

func TestPushForward(t *testing.T) {
	for _, x := range []struct {
		d        string
		add, mod int
		want     string
	}{
		{exampleText, 1, 2, "0:1/2 1:1/2"},
		{exampleText, 0, 1000, exampleText},
		{exampleText, 0, 1, "0:1"},
		{exampleText, -1, 3, "0:1/3 2:2/3"},
		{exampleText, -2, 1000, "1:1/6 998:1/2 999:1/3"},
		{"", 5, 7, ""},
		{"-3:1/4 3:1/4", 0, 6, "3:1/2"},
		{"-1000:1/2 1000:1/3", 1000, 1000, "0:5/6"},
		{"-1000:1/2 1000:1/3", -1000, 999, "0:1/3 997:1/2"},
		{"-1000:1/2 1000:1/3", -1000, 7, "0:1/3 2:1/2"},
		{"-1000:1/2 1000:1/3", 1000, 7, "0:1/2 5:1/3"},
		{row(-30, 60, "1/60"), 0, 60, row(0, 60, "1/60")},
		{row(-1000, 60, "1/60"), -1000, 1, "0:1"},
		{exampleText, 1001, 2, fails},
		{exampleText, -1001, 2, fails},
		{exampleText, math.MaxInt, 2, fails},
		{exampleText, math.MinInt, 2, fails},
		{exampleText, 1, 0, fails},
		{exampleText, 1, -1, fails},
		{exampleText, 1, -2, fails},
		{exampleText, 1, 1001, fails},
		{exampleText, 1, math.MaxInt, fails},
		{exampleText, 1, math.MinInt, fails},
		{"", 1001, 1, fails},
		{"", 0, 0, fails},
		{"0:1/" + limitDen + " 2:1/" + lastDen, 0, 2, "0:" + sumText(t, "1/"+limitDen, "1/"+lastDen)},
		{"0:1/" + limitDen + " 2:1/" + firstBeyond, 0, 2, fails},
		{"0:1/" + limitDen + " 2:1/" + firstBeyond, 0, 3, "0:1/" + limitDen + " 2:1/" + firstBeyond},
		{exactlyOne(t), 0, 1, "0:1"},
		{almostOne(t, -1), 0, 1, fails},
	} {
		d, ok := impl.PushForward(dist(t, x.d), x.add, x.mod)
		expectDist(t, x.d+" + "+strconv.Itoa(x.add)+" mod "+strconv.Itoa(x.mod), d, ok, x.want)
	}
}

func TestConvolve(t *testing.T) {
	half := "0:1/2 1:1/2"
	for _, x := range []struct{ a, b, want string }{
		{half, half, "0:1/4 1:1/2 2:1/4"},
		{exampleText, "0:1", exampleText},
		{exampleText, "-3:1/2", "-3:1/4 -2:1/6 0:1/12"},
		{"-1:1/2 4:1/3", "1:1/5 6:1/7", "0:1/10 5:29/210 10:1/21"},
		{"", "", ""},
		{"", exampleText, ""},
		{exampleText, "", ""},
		{"999:1", "1:1", "1000:1"},
		{"1000:1", "1:1", fails},
		{"1000:1/2", "0:1/2 1:1/1000", fails},
		{"1000:1", "0:1", "1000:1"},
		{"-999:1", "-1:1", "-1000:1"},
		{"-1000:1", "-1:1", fails},
		{"-1000:1", "-1000:1", fails},
		{"1000:1", "1000:1", fails},
		{"-1000:1/2 1000:1/2", "0:1/3", "-1000:1/6 1000:1/6"},
		{"-1000:1", "1000:1", "0:1"},
		{row(0, 60, "1/60"), "940:1", row(940, 60, "1/60")},
		{row(0, 60, "1/60"), half, fails},
		{row(0, 60, "1/60"), row(0, 60, "1/60"), fails},
		{"0:1/2 30:1/2", row(0, 30, "1/30"), row(0, 60, "1/60")},
		{"0:1/2 31:1/2", row(0, 30, "1/30"), row(0, 30, "1/60") + " " + row(31, 30, "1/60")},
		{"0:1/2 30:1/2", row(0, 31, "1/31"), fails},
		{"0:1/" + tenTo(59), "0:1/" + tenTo(60), "0:1/" + tenTo(119)},
		{"0:1/" + tenTo(60), "0:1/" + tenTo(60), fails},
		{"0:1/" + tenTo(60) + " 1:1/2", "0:1/" + tenTo(60), fails},
		// One of the products for the value 1 is 1/(15 * 10^119); the sum is 1/(15 * 10^118).
		{"0:1/" + tenTo(59) + " 1:3/" + tenTo(59), "0:1/5" + zeros(60) + " 1:1/15" + zeros(60),
			"0:1/5" + zeros(119) + " 1:1/15" + zeros(118) + " 2:1/5" + zeros(119)},
	} {
		d, ok := impl.Convolve(dist(t, x.a), dist(t, x.b))
		expectDist(t, "convolution of "+x.a+" and "+x.b, d, ok, x.want)
		d, ok = impl.Convolve(dist(t, x.b), dist(t, x.a))
		expectDist(t, "convolution of "+x.b+" and "+x.a, d, ok, x.want)
	}
}

func TestExpectation(t *testing.T) {
	for _, x := range []struct{ d, want string }{
		{exampleText, "5/6"},
		{"", "0"},
		{"0:1", "0"},
		{"1000:1", "1000"},
		{"-1000:1", "-1000"},
		{"-1000:1/2 1000:1/2", "0"},
		{"-1000:1/2 1000:1/4", "-250"},
		{"-3:1/5 2:1/10", "-2/5"},
		{row(0, 60, "1/60"), "59/2"},
		{"3:1/3" + zeros(119), "1/" + tenTo(119)},
		{"1:1/" + limitDen + " 2:1/" + lastDen, sumText(t, "1/"+limitDen, "2/"+lastDen)},
		{"1:1/" + limitDen + " 3:1/" + firstBeyond, fails},
		{"0:1/" + limitDen + " 3:1/" + firstBeyond, "3/" + firstBeyond},
		{"-7:1/" + nines(120) + " 7:1/" + nines(120), "0"},
		{"8:" + tenTo(119) + "/" + nines(120), "8" + zeros(119) + "/" + nines(120)},
		{"16:" + tenTo(119) + "/" + nines(120), fails},
		{"-16:" + tenTo(119) + "/" + nines(120), fails},
		// Both products have numerators of 121 digits.
		{"-16:" + tenTo(119) + "/" + nines(120) + " 16:" + tenTo(119) + "/" + nines(120), "0"},
	} {
		r, ok := impl.Expectation(dist(t, x.d))
		expectNumber(t, "expectation of "+x.d, r, ok, x.want)
	}
}

func TestVariance(t *testing.T) {
	small := "1/1" + zeros(58)
	for _, x := range []struct{ d, want string }{
		{exampleText, "41/36"},
		{"0:1", "0"},
		{"-1000:1", "0"},
		{"-1000:1/2 1000:1/2", "1000000"},
		{"-1:1/2 1:1/2", "1"},
		{"5:1/4 6:3/4", "3/16"},
		{row(-1000, 60, "1/60"), "3599/12"},
		{"", fails},
		{"0:1/2", fails},
		{"0:1/2 1:1/3", fails},
		{"1:" + nines(119) + "8/" + nines(120), fails},
		{almostOne(t, -1), fails},
		{"0:" + small + " 1:" + sumText(t, "1", "-"+small), sumText(t, small, "-1/"+tenTo(116))},
		{"0:1/" + tenTo(60) + " 1:" + sumText(t, "1", "-1/"+tenTo(60)), fails},
		{exactlyOne(t), fails},
	} {
		r, ok := impl.Variance(dist(t, x.d))
		expectNumber(t, "variance of "+x.d, r, ok, x.want)
	}
}

func TestTotalVariation(t *testing.T) {
	for _, x := range []struct{ a, b, want string }{
		{exampleText, "0:1", "1/2"},
		{exampleText, exampleText, "0"},
		{"0:1", "1:1", "1"},
		{"-1000:1", "1000:1", "1"},
		{"0:1/2 1:1/2", "1:1/2 2:1/2", "1/2"},
		{"0:1/2 1:1/2", "0:1/3 1:2/3", "1/6"},
		{"0:1/2 1:1/3", "0:1/3 1:1/2", "1/6"},
		{"", "", "0"},
		{"", exampleText, "1/2"},
		{"3:1/4", "", "1/8"},
		{"3:1/4", "3:1/3", "1/24"},
		{"3:1/4 4:1/4", "3:1/4 5:1/3", "7/24"},
		{row(0, 60, "1/60"), row(60, 60, "1/60"), "1"},
		{row(0, 60, "1/60"), row(30, 60, "1/60"), "1/2"},
		{almostOne(t, -1), almostOne(t, -1), "0"},
		{exactlyOne(t), exactlyOne(t), "0"},
		{exactlyOne(t), "1000:1", "1"},
		{almostOne(t, -1), "", fails},
		{"0:1/2" + zeros(119), "", "1/4" + zeros(119)},
		{"0:1/5" + zeros(119), "", fails},
		{"0:1/" + limitDen, "1:1/" + lastDen, sumText(t, "1/2"+zeros(60), "1/2"+zeros(58)+"2")},
		{"0:1/" + limitDen, "1:1/" + firstBeyond, fails},
		{"0:1/" + nines(120) + " 1:1/2", "0:1/" + nines(120) + " 1:1/4", "1/8"},
	} {
		r, ok := impl.TotalVariation(dist(t, x.a), dist(t, x.b))
		expectNumber(t, "distance of "+x.a+" and "+x.b, r, ok, x.want)
		r, ok = impl.TotalVariation(dist(t, x.b), dist(t, x.a))
		expectNumber(t, "distance of "+x.b+" and "+x.a, r, ok, x.want)
	}
}

func TestFormatDist(t *testing.T) {
	for _, text := range []string{
		exampleText,
		"",
		"0:1",
		"-1000:1/2 -1:1/4 1000:1/" + nines(120),
		row(-1000, 60, "1/60"),
		almostOne(t, -1),
		exactlyOne(t),
	} {
		if got, ok := impl.FormatDist(dist(t, text)); got != text || !ok {
			t.Errorf("format: %q %v, want %q", got, ok, text)
		}
	}
}

func TestInvalidDistsYieldZeroValues(t *testing.T) {
	half, good := rat(t, "1/2"), dist(t, exampleText)
	for i, bad := range invalidDists(t) {
		what := "case " + strconv.Itoa(i)
		for _, f := range []func(impl.Dist) (impl.Rat, bool){impl.MassOf, impl.Expectation, impl.Variance} {
			r, ok := f(bad)
			expectNumber(t, what, r, ok, fails)
		}
		for _, value := range []int{0, 1, 2, 1001} {
			r, ok := impl.ProbabilityAt(bad, value)
			expectNumber(t, what+": ProbabilityAt", r, ok, fails)
		}
		if text, ok := impl.FormatDist(bad); text != "" || ok {
			t.Errorf("%s: FormatDist: %q %v", what, text, ok)
		}
		d, ok := impl.Normalize(bad)
		expectDist(t, what+": Normalize", d, ok, fails)
		d, ok = impl.PushForward(bad, 1, 2)
		expectDist(t, what+": PushForward", d, ok, fails)
		for _, pair := range [][2]impl.Dist{{bad, good}, {good, bad}, {bad, bad}, {bad, {}}, {{}, bad}} {
			for _, p := range []impl.Rat{half, rat(t, "0"), rat(t, "1"), {}} {
				d, ok = impl.Mixture(pair[0], pair[1], p)
				expectDist(t, what+": Mixture", d, ok, fails)
			}
			d, ok = impl.Convolve(pair[0], pair[1])
			expectDist(t, what+": Convolve", d, ok, fails)
			r, ok := impl.TotalVariation(pair[0], pair[1])
			expectNumber(t, what+": TotalVariation", r, ok, fails)
		}
	}
}
