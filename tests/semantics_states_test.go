package tests

import (
	"math"
	"math/big"
	"slices"
	"strconv"
	"strings"
	"testing"

	"loop.example/g00893/impl"
)

// manyStates returns the first states of five values, all with the same mass.
func manyStates(t *testing.T, count int, mass string) []impl.Weighted {
	t.Helper()
	var list []impl.Weighted
	for n := range count {
		values := []int{n >> 8 & 3, n >> 6 & 3, n >> 4 & 3, n >> 2 & 3, n & 3}
		list = append(list, impl.Weighted{Values: values, Mass: rat(t, mass)})
	}
	return list
}

// validLists returns valid lists of weighted states of at least one state, none with more than 60 digits in its sum.
func validLists(t *testing.T) [][]impl.Weighted {
	t.Helper()
	lists := [][]impl.Weighted{manyStates(t, 1024, "1/1024"), manyStates(t, 1024, "1/5000"), manyStates(t, 1000, "1/1001")}
	for _, text := range []string{
		"0:1", "3:1", "0:1/2", "0:1/2 1:1/2", "0:1/2 3:1/4", "0:1/4 1:1/4 2:1/4 3:1/4", "00:1/2 33:1/3", "01:1/6 10:1/3 11:1/3",
		"03:1/9 30:1/9", "00000:1", "33333:1/7", "00000:1/2 00001:1/4 00010:1/4", "32333:1/2 33233:1/2", "0123:1/3", "012:1/3 021:2/3",
		"1:1/" + tenTo(59), "1:" + nines(60) + "/" + tenTo(60), "20:1/" + nines(30) + " 21:1/" + nines(29) + "8",
	} {
		lists = append(lists, weightedOf(t, text))
	}
	return lists
}

// invalidLists returns lists that are invalid for one reason each, which is their key.
func invalidLists(t *testing.T) map[string][]impl.Weighted {
	t.Helper()
	lists := map[string][]impl.Weighted{
		"zero value": make([]impl.Weighted, 1), "many zero values": make([]impl.Weighted, 100000),
		"1025 states":      append(manyStates(t, 1024, "1/2000"), weightedOf(t, "33333:1/2000")...),
		"1025 of 6 values": append(manyStates(t, 1024, "1/2000"), weightedOf(t, "333330:1/2000")...),
	}
	for what, text := range map[string]string{
		"mass 0": "0:0", "mass 0 first": "0:0 1:1/2", "mass 0 last": "0:1/2 1:0", "negative mass": "0:-1/2", "negative mass first": "0:-1/4 1:1/2",
		"negative mass last": "0:1/2 1:-1/4", "mass above 1": "0:3/2", "sum above 1": "0:2/3 1:2/3", "sum slightly above 1": "0:1/2 1:1/2 2:1/" + nines(120),
		"sum above 1 with a negative mass": "0:2/3 1:2/3 2:-1/3", "out of order": "1:1/2 0:1/2", "out of order at the end": "0:1/4 2:1/4 1:1/4",
		"out of order behind": "010:1/4 002:1/4", "equal": "1:1/4 1:1/4", "equal at the end": "00:1/4 01:1/4 01:1/4", "no values": ":1",
		"no values first": ":1/4 0:1/2", "6 values": "000000:1", "6 values in order": "000000:1/2 000001:1/2", "longer": "0:1/4 01:1/4", "shorter": "01:1/4 1:1/4",
		"longer at the end": "00:1/4 01:1/4 011:1/4", "value 4": "4:1", "value 4 last": "00:1/2 04:1/2", "value 9": "01:1/2 90:1/2",
		"slightly above 1": almostOne(t, 1),
	} {
		lists[what] = weightedOf(t, text)
	}
	for _, value := range []int{-1, 4, math.MinInt, math.MaxInt} {
		mass := rat(t, "1/2")
		lists["value "+strconv.Itoa(value)] = []impl.Weighted{{Values: []int{value}, Mass: mass}}
		lists["last value "+strconv.Itoa(value)] = []impl.Weighted{{Values: []int{0, 0}, Mass: mass}, {Values: []int{1, value}, Mass: mass}}
	}
	for i, mass := range invalidRats() {
		bad := impl.Weighted{Values: []int{1}, Mass: mass}
		lists["mass "+strconv.Itoa(i)] = []impl.Weighted{bad}
		lists["last mass "+strconv.Itoa(i)] = append(weightedOf(t, "0:1/2"), bad)
	}
	return lists
}

// completed returns the result with the given states whose rejected mass completes the masses, if it may be negative.
func completed(t *testing.T, list []impl.Weighted) impl.Result {
	t.Helper()
	rest, ok := ratOfBig(new(big.Rat).Sub(big.NewRat(1, 1), massOfStates(t, list)))
	if !ok {
		t.Fatal("the masses cannot be completed")
	}
	return impl.Result{States: list, Rejected: rest, Exhausted: zeroRat}
}

func TestValidLists(t *testing.T) {
	for i, list := range validLists(t) {
		if !impl.IsValidResult(completed(t, list)) {
			t.Errorf("case %d is not accepted: %.300v", i, list)
		}
		if d, ok := impl.Marginal(list, 0); !ok || !impl.IsValidDist(d) {
			t.Errorf("case %d has no marginal: %.300v", i, list)
		}
	}
}

// expectResultFailures checks that all functions that take a result fail.
func expectResultFailures(t *testing.T, what string, r impl.Result) {
	t.Helper()
	if impl.IsValidResult(r) {
		t.Errorf("%s: accepted", what)
	}
	if list, ok := impl.Posterior(r); list != nil || ok {
		t.Errorf("%s: posterior %v %v", what, list, ok)
	}
	if text, ok := impl.FormatResult(r); text != "" || ok {
		t.Errorf("%s: text %q %v", what, text, ok)
	}
}

func TestInvalidLists(t *testing.T) {
	for what, list := range invalidLists(t) {
		for v := -1; v <= 6; v++ {
			d, ok := impl.Marginal(list, v)
			expectDist(t, what, d, ok, fails)
		}
		for _, lost := range []string{"0", "1", "1/2", "1/4", "-1/4"} {
			expectResultFailures(t, what, impl.Result{States: list, Rejected: rat(t, lost), Exhausted: zeroRat})
			expectResultFailures(t, what, impl.Result{States: list, Rejected: zeroRat, Exhausted: rat(t, lost)})
		}
	}
	for _, what := range []string{"negative mass first", "negative mass last", "out of order", "equal", "longer", "shorter", "6 values", "value 4"} {
		expectResultFailures(t, what+", completed", completed(t, invalidLists(t)[what]))
	}
}

// validResults returns results with at least one state.
func validResults(t *testing.T) []impl.Result {
	t.Helper()
	var results []impl.Result
	for _, list := range validLists(t) {
		results = append(results, completed(t, list))
	}
	for _, text := range []string{"01:1/6 10:1/3 11:1/3 R:1/6", "0:1/2 R:1/3 E:1/6", "1:3/4 E:1/4", "123:1", exactlyOneInStates(t), exactlyOneWithLost(t)} {
		results = append(results, resultOf(t, text))
	}
	return append(results, resultWithLongSum(t, "1", "3"), resultWithLongSum(t, tenTo(100), "1"))
}

// exactlyOneInStates is a result whose masses sum to 1, while those of its first states have a much longer sum.
func exactlyOneInStates(t *testing.T) string {
	t.Helper()
	text := exactlyOne(t)
	for i, value := range []string{"-3", "-2", "5", "6"} {
		text = strings.Replace(text, value+":", strconv.Itoa(i)+":", 1)
	}
	return text
}

// exactlyOneWithLost has these masses for two states and for the lost executions.
func exactlyOneWithLost(t *testing.T) string {
	t.Helper()
	return strings.Replace(strings.Replace(exactlyOneInStates(t), "2:", "R:", 1), "3:", "E:", 1)
}

// resultWithLongSum has the masses x/(a*b) and y/(b*c) of two states and lost masses with the denominators a*b and c*a, so
// that the sum of the two states has the denominator a*b*c, of 180 digits, but their shares of it are x*c and y*a to x*c+y*a.
func resultWithLongSum(t *testing.T, x, y string) impl.Result {
	t.Helper()
	number := func(text string) *big.Int {
		n, _ := new(big.Int).SetString(text, 10)
		return n
	}
	product := func(p, q *big.Int) *big.Int { return new(big.Int).Mul(p, q) }
	a, b, c := number(tenTo(59)+"1"), number(tenTo(59)), number(nines(59))
	xc, ya := product(number(x), c), product(number(y), a)
	rest := new(big.Int).Sub(product(a, product(b, c)), new(big.Int).Add(xc, ya))
	// rest = u*b + v*c
	u := new(big.Int).ModInverse(b, c)
	u.Mul(u, rest).Mod(u, c)
	v := new(big.Int).Sub(rest, product(u, b))
	v.Quo(v, c)
	mass := func(num, den *big.Int) string { return new(big.Rat).SetFrac(num, den).RatString() }
	ab, bc, ca := product(a, b), product(b, c), product(c, a)
	return resultOf(t, "02:"+mass(number(x), ab)+" 31:"+mass(number(y), bc)+" R:"+mass(u, ca)+" E:"+mass(v, ab))
}

func TestIsValidResult(t *testing.T) {
	results := append(validResults(t), resultOf(t, "R:1"), resultOf(t, "E:1"), resultOf(t, "R:1/3 E:2/3"),
		resultOf(t, "R:1/"+nines(120)+" E:"+nines(119)+"8/"+nines(120)), impl.Result{States: []impl.Weighted{}, Rejected: rat(t, "1"), Exhausted: zeroRat})
	for i, r := range results {
		if text, ok := impl.FormatResult(r); !impl.IsValidResult(r) || !ok || text != textOfResult(r) {
			t.Errorf("case %d: not accepted, or %q", i, text)
		}
	}
	for _, text := range []string{
		"", "0:1/2 R:1/4 E:1/8", "0:1/2 R:1/4 E:1/2", "0:1/2", "R:1/2", "E:1/2", "R:2", "E:2", "R:1 E:1", "0:1 R:1/2", "0:1 E:1/2", "0:1 R:1", "0:1/2 1:1/4", "0:1/2 R:1/2 E:1/2",
		"0:1 R:-1/4 E:1/4", "0:1 R:1/4 E:-1/4", "0:3/4 R:1/2 E:-1/4", "0:3/4 R:-1/4 E:1/2", "R:2 E:-1", "R:-1 E:2", "R:-1", "0:1 R:-1/2", "0:1 E:-1/2",
		"0:1/2 R:1/2 E:1/" + nines(120), "0:1/2 R:" + nines(119) + "/" + tenTo(119), almostOne(t, -1), strings.Replace(almostOne(t, -1), "1:", "R:", 1),
		strings.Replace(almostOne(t, 1), "1:", "R:", 1), strings.Replace(almostOne(t, 1), "1:", "E:", 1), "R:" + nines(120) + "/" + nines(119) + "8",
	} {
		expectResultFailures(t, text, resultOf(t, text))
	}
	expectResultFailures(t, "zero value", impl.Result{})
	for i, bad := range invalidRats() {
		for _, states := range []string{"", "0:1", "0:1/2"} {
			list := weightedOf(t, states)
			for _, lost := range []string{"0", "1/2", "1"} {
				expectResultFailures(t, "rejected "+strconv.Itoa(i), impl.Result{States: list, Rejected: bad, Exhausted: rat(t, lost)})
				expectResultFailures(t, "exhausted "+strconv.Itoa(i), impl.Result{States: list, Rejected: rat(t, lost), Exhausted: bad})
			}
		}
	}
	half := impl.Rat{Num: "2", Den: "4"}
	expectResultFailures(t, "not in lowest terms", impl.Result{States: []impl.Weighted{{Values: []int{0}, Mass: half}}, Rejected: rat(t, "1/2"), Exhausted: zeroRat})
	expectResultFailures(t, "rejected not in lowest terms", impl.Result{States: weightedOf(t, "0:1/2"), Rejected: half, Exhausted: zeroRat})
	expectResultFailures(t, "exhausted not in lowest terms", impl.Result{States: weightedOf(t, "0:1/2"), Rejected: zeroRat, Exhausted: half})
	expectResultFailures(t, "another zero", impl.Result{States: weightedOf(t, "0:1"), Rejected: impl.Rat{Num: "0", Den: "2"}, Exhausted: zeroRat})
}

// expectStates checks a list; wanted may be fails.
func expectStates(t *testing.T, what string, got []impl.Weighted, ok bool, wanted string) {
	t.Helper()
	if wanted == fails {
		if got != nil || ok {
			t.Errorf("%s: %v %v instead of a failure", what, got, ok)
		}
		return
	}
	if !ok || !sameStates(got, weightedOf(t, wanted)) {
		t.Errorf("%s: %v %v instead of %s", what, got, ok, wanted)
	}
}

func TestPosterior(t *testing.T) {
	long, short := tenTo(119), "2"+zeros(119)
	for _, c := range []struct{ result, wanted string }{
		{"01:1/6 10:1/3 11:1/3 R:1/6", "01:1/5 10:2/5 11:2/5"}, {"0:1/2 R:1/3 E:1/6", "0:1"}, {"0:1/2 3:1/2", "0:1/2 3:1/2"}, {"1:3/4 E:1/4", "1:1"},
		{"00000:1/7 33333:2/7 R:4/7", "00000:1/3 33333:2/3"}, {"0:1/10 1:1/5 2:3/10 E:2/5", "0:1/6 1:1/3 2:1/2"}, {"123:1", "123:1"},
		{"R:1", fails}, {"E:1", fails}, {"R:1/2 E:1/2", fails}, {"", fails}, {"0:1/2", fails}, {"0:1/2 R:1", fails},
		{"2:1/" + nines(120) + " R:" + nines(119) + "8/" + nines(120), "2:1"}, {"2:" + nines(119) + "8/" + nines(120) + " E:1/" + nines(120), "2:1"},
		{"0:1/" + short + " 1:" + sumText(t, "1/2", "-1/"+short) + " R:1/2", "0:1/" + long + " 1:" + sumText(t, "1", "-1/"+long)},
		{"0:1/" + long + " 1:" + sumText(t, "1/2", "-1/"+long) + " R:1/2", "0:1/5" + zeros(118) + " 1:" + sumText(t, "1", "-1/5"+zeros(118))},
		{"0:1/" + nines(120) + " 1:" + sumText(t, "1/3", "-1/"+nines(120)) + " R:2/3", "0:1/" + strings.Repeat("3", 120) + " 1:" + sumText(t, "1", "-1/"+strings.Repeat("3", 120))},
		{"0:1/" + nines(119) + " 1:" + sumText(t, "1/2", "-1/"+nines(119)) + " R:1/2", "0:2/" + nines(119) + " 1:" + sumText(t, "1", "-2/"+nines(119))},
		{"0:1/7" + zeros(118) + " 1:" + sumText(t, "1/11", "-1/7"+zeros(118)) + " E:10/11", "0:11/7" + zeros(118) + " 1:" + sumText(t, "1", "-11/7"+zeros(118))},
		{exactlyOneInStates(t), exactlyOneInStates(t)},
	} {
		list, ok := impl.Posterior(resultOf(t, c.result))
		expectStates(t, "posterior of "+c.result, list, ok, c.wanted)
	}
}

// TestPosteriorWithLongSum has a sum of masses beyond MaxDigits, and shares of it within and beyond.
func TestPosteriorWithLongSum(t *testing.T) {
	short := resultWithLongSum(t, "1", "3")
	if digits := len(massOfStates(t, short.States).Denom().String()); digits < 170 {
		t.Errorf("the sum has only %d digits", digits)
	}
	first, second := nines(59), sumText(t, tenTo(59)+"1", tenTo(59)+"1", tenTo(59)+"1")
	sum := sumText(t, first, second)
	list, ok := impl.Posterior(short)
	expectStates(t, "short shares", list, ok, "02:"+first+"/"+sum+" 31:"+second+"/"+sum)
	long := resultWithLongSum(t, tenTo(100), "1")
	if !impl.IsValidResult(long) {
		t.Errorf("not accepted: %+v", long)
	}
	list, ok = impl.Posterior(long)
	expectStates(t, "long shares", list, ok, fails)
}

func TestMarginal(t *testing.T) {
	g, empty := "01:1/5 10:2/5 11:2/5", ""
	atLimit, beyond := "00:1/"+limitDen+" 01:1/"+lastDen, "00:1/"+limitDen+" 01:1/"+firstBeyond
	for _, c := range []struct {
		list   string
		v      int
		wanted string
	}{
		{g, 0, "0:1/5 1:4/5"}, {g, 1, "0:2/5 1:3/5"}, {g, 2, fails}, {g, 4, fails}, {g, 5, fails}, {g, -1, fails}, {g, math.MinInt, fails}, {g, math.MaxInt, fails},
		{empty, -1, fails}, {empty, 0, ""}, {empty, 1, ""}, {empty, 4, ""}, {empty, 5, fails}, {empty, math.MinInt, fails}, {empty, math.MaxInt, fails},
		{"2:1/3", 0, "2:1/3"}, {"2:1/3", 1, fails}, {"0:1/7 1:2/7 3:1/7", 0, "0:1/7 1:2/7 3:1/7"}, {"01230:1/2 33333:1/2", 4, "0:1/2 3:1/2"},
		{"01230:1/2 33333:1/2", 3, "3:1"}, {"01230:1/2 33333:1/2", 5, fails}, {"01230:1/2 33333:1/2", -1, fails}, {"0123:1", 3, "3:1"}, {"0123:1", 4, fails},
		{"03:1/9 12:2/9 20:1/3 21:1/9", 1, "0:1/3 1:1/9 2:2/9 3:1/9"}, {"00:2/3 10:1/3", 1, "0:1"}, {"00:2/3 10:1/3", 0, "0:2/3 1:1/3"},
		{atLimit, 0, "0:" + sumText(t, "1/"+limitDen, "1/"+lastDen)}, {atLimit, 1, "0:1/" + limitDen + " 1:1/" + lastDen},
		{beyond, 0, fails}, {beyond, 1, "0:1/" + limitDen + " 1:1/" + firstBeyond},
		{almostOne(t, -1), 0, almostOne(t, -1)}, {almostOne(t, 1), 0, fails}, {exactlyOneInStates(t), 0, exactlyOneInStates(t)},
	} {
		d, ok := impl.Marginal(weightedOf(t, c.list), c.v)
		expectDist(t, "variable "+strconv.Itoa(c.v)+" of "+c.list, d, ok, c.wanted)
	}
	for v := range 5 {
		d, ok := impl.Marginal([]impl.Weighted{}, v)
		expectDist(t, "empty list", d, ok, "")
		d, ok = impl.Marginal(manyStates(t, 1024, "1/1024"), v)
		expectDist(t, "1024 states", d, ok, "0:1/4 1:1/4 2:1/4 3:1/4")
		d, ok = impl.Marginal(manyStates(t, 1024, "1/1025"), v)
		expectDist(t, "1024 states of less than 1", d, ok, row(0, 4, "256/1025"))
	}
}

func TestEqualStates(t *testing.T) {
	base := func() []impl.Weighted { return weightedOf(t, "012:1/6 100:1/3 111:1/3") }
	edits := map[string]func(l []impl.Weighted) []impl.Weighted{
		"value":                 func(l []impl.Weighted) []impl.Weighted { l[1].Values[2] = 1; return l },
		"first value":           func(l []impl.Weighted) []impl.Weighted { l[0].Values[0] = -1; return l },
		"value too many":        func(l []impl.Weighted) []impl.Weighted { l[2].Values = append(l[2].Values, 0); return l },
		"value too few":         func(l []impl.Weighted) []impl.Weighted { l[2].Values = l[2].Values[:2]; return l },
		"no values":             func(l []impl.Weighted) []impl.Weighted { l[0].Values = nil; return l },
		"numerator":             func(l []impl.Weighted) []impl.Weighted { l[1].Mass.Num = "2"; return l },
		"denominator":           func(l []impl.Weighted) []impl.Weighted { l[2].Mass.Den = "4"; return l },
		"sign":                  func(l []impl.Weighted) []impl.Weighted { l[0].Mass.Neg = true; return l },
		"no mass":               func(l []impl.Weighted) []impl.Weighted { l[0].Mass = impl.Rat{}; return l },
		"not in lowest terms":   func(l []impl.Weighted) []impl.Weighted { l[1].Mass = impl.Rat{Num: "2", Den: "6"}; return l },
		"order":                 func(l []impl.Weighted) []impl.Weighted { slices.Reverse(l); return l },
		"one state less":        func(l []impl.Weighted) []impl.Weighted { return l[:2] },
		"one state more":        func(l []impl.Weighted) []impl.Weighted { return append(l, impl.Weighted{}) },
		"first state twice":     func(l []impl.Weighted) []impl.Weighted { return append(l[:1], l...) },
		"no states":             func([]impl.Weighted) []impl.Weighted { return nil },
		"other first state":     func(l []impl.Weighted) []impl.Weighted { l[0] = impl.Weighted{}; return l },
		"zero values":           func([]impl.Weighted) []impl.Weighted { return make([]impl.Weighted, 3) },
		"values far out":        func(l []impl.Weighted) []impl.Weighted { l[1].Values[0] = math.MinInt; return l },
		"values far out upward": func(l []impl.Weighted) []impl.Weighted { l[1].Values[0] = math.MaxInt; return l },
	}
	for what, edit := range edits {
		a, b := base(), edit(base())
		if impl.EqualStates(a, b) || impl.EqualStates(b, a) || !impl.EqualStates(b, edit(base())) {
			t.Errorf("%s: wrong", what)
		}
	}
	for what, list := range invalidLists(t) {
		if !impl.EqualStates(list, slices.Clone(list)) || len(list) > 0 && impl.EqualStates(list, list[1:]) {
			t.Errorf("%s: wrong", what)
		}
	}
	nothing, empty := []impl.Weighted{{}}, []impl.Weighted{{Values: []int{}}}
	if !impl.EqualStates(base(), base()) || !impl.EqualStates(nil, []impl.Weighted{}) || !impl.EqualStates([]impl.Weighted{}, nil) ||
		!impl.EqualStates(nil, nil) || !impl.EqualStates(nothing, empty) || !impl.EqualStates(empty, nothing) || impl.EqualStates(nil, nothing) {
		t.Error("nil or empty lists")
	}
}

func TestFormatResult(t *testing.T) {
	for result, wanted := range map[string]string{
		"01:1/6 10:1/3 11:1/3 R:1/6": "0 1: 1/6\n1 0: 1/3\n1 1: 1/3\nrejected: 1/6\nexhausted: 0\n",
		"1:3/4 E:1/4":                "1: 3/4\nrejected: 0\nexhausted: 1/4\n",
		"R:1":                        "rejected: 1\nexhausted: 0\n",
		"R:2/5 E:3/5":                "rejected: 2/5\nexhausted: 3/5\n",
		"01233:1":                    "0 1 2 3 3: 1\nrejected: 0\nexhausted: 0\n",
		"3:1/" + nines(120) + " E:" + nines(119) + "8/" + nines(120): "3: 1/" + nines(120) + "\nrejected: 0\nexhausted: " + nines(119) + "8/" + nines(120) + "\n",
	} {
		if text, ok := impl.FormatResult(resultOf(t, result)); text != wanted || !ok {
			t.Errorf("%s: %q %v instead of %q", result, text, ok, wanted)
		}
	}
	text, ok := impl.FormatResult(impl.Result{States: manyStates(t, 1024, "1/1024"), Rejected: zeroRat, Exhausted: zeroRat})
	if !ok || strings.Count(text, "\n") != 1026 || !strings.HasSuffix(text, "\n3 3 3 3 3: 1/1024\nrejected: 0\nexhausted: 0\n") {
		t.Errorf("1024 states: %.100q %v", text, ok)
	}
}
