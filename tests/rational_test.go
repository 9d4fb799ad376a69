package tests

import (
	"math"
	"math/big"
	"math/rand"
	"strings"
	"testing"

	"loop.example/g00893/impl"
)

var zeroRat = impl.Rat{Num: "0", Den: "1"}

// ratOfBig returns the Rat of x, and the zero value and false if it exceeds MaxDigits.
func ratOfBig(x *big.Rat) (impl.Rat, bool) {
	num, den := new(big.Int).Abs(x.Num()).String(), x.Denom().String()
	if len(num) > impl.MaxDigits || len(den) > impl.MaxDigits {
		return impl.Rat{}, false
	}
	return impl.Rat{Neg: x.Sign() < 0, Num: num, Den: den}, true
}

func bigOfRat(t *testing.T, r impl.Rat) *big.Rat {
	t.Helper()
	x, ok := new(big.Rat).SetString(r.Num + "/" + r.Den)
	if !ok {
		t.Fatalf("no number: %+v", r)
	}
	if r.Neg {
		x.Neg(x)
	}
	return x
}

// rat makes a valid Rat of a text, without the functions under test.
func rat(t *testing.T, text string) impl.Rat {
	t.Helper()
	x, ok := new(big.Rat).SetString(text)
	if !ok {
		t.Fatalf("no number: %q", text)
	}
	r, ok := ratOfBig(x)
	if !ok {
		t.Fatalf("too large: %q", text)
	}
	return r
}

// expectRat checks a result; wanted "" means that the call fails.
func expectRat(t *testing.T, what string, got impl.Rat, ok bool, wanted string) {
	t.Helper()
	want := impl.Rat{}
	if wanted != "" {
		want = rat(t, wanted)
	}
	if got != want || ok != (wanted != "") {
		t.Errorf("%s: got %+v %v, want %+v %v", what, got, ok, want, wanted != "")
	}
}

func expectBig(t *testing.T, what string, got impl.Rat, ok bool, wanted *big.Rat) {
	t.Helper()
	want, exists := ratOfBig(wanted)
	if got != want || ok != exists {
		t.Fatalf("%s: got %+v %v, want %+v %v", what, got, ok, want, exists)
	}
}

// tenTo returns the numeral of 10 to the power n.
func tenTo(n int) string { return "1" + strings.Repeat("0", n) }

func nines(n int) string { return strings.Repeat("9", n) }

func randomBig(source *rand.Rand) *big.Int {
	digits := []int{1, 2, 5, 18, 19, 20, 38, 39, 59, 60, 61, 119, 120}[source.Intn(13)]
	limit := new(big.Int).Exp(big.NewInt(10), big.NewInt(int64(digits)), nil)
	switch source.Intn(8) {
	case 0:
		return limit.Sub(limit, big.NewInt(1))
	case 1:
		return limit.Quo(limit, big.NewInt(10))
	}
	return new(big.Int).Rand(source, limit)
}

func randomRat(source *rand.Rand) (impl.Rat, *big.Rat) {
	num, den := randomBig(source), randomBig(source)
	if den.Sign() == 0 {
		den.SetInt64(1)
	}
	x := new(big.Rat).SetFrac(num, den)
	if source.Intn(2) == 0 {
		x.Neg(x)
	}
	r, _ := ratOfBig(x)
	return r, x
}

// pairs calls check with random numbers, some of them equal, opposite or reciprocal.
func pairs(seed int64, count int, check func(a, b impl.Rat, x, y *big.Rat)) {
	source := rand.New(rand.NewSource(seed))
	for range count {
		a, x := randomRat(source)
		b, y := randomRat(source)
		switch source.Intn(8) {
		case 0:
			y = new(big.Rat).Set(x)
		case 1:
			y = new(big.Rat).Neg(x)
		case 2:
			if x.Sign() != 0 {
				y = new(big.Rat).Inv(x)
			}
		case 3:
			y = new(big.Rat).SetFrac(y.Num(), x.Denom())
		}
		b, _ = ratOfBig(y)
		check(a, b, x, y)
	}
}

func TestOperationsAgreeWithBigRationals(t *testing.T) {
	pairs(1, 4000, func(a, b impl.Rat, x, y *big.Rat) {
		if !impl.IsValidRat(a) || !impl.IsValidRat(b) {
			t.Fatalf("not valid: %+v or %+v", a, b)
		}
		r, ok := impl.AddRat(a, b)
		expectBig(t, "add", r, ok, new(big.Rat).Add(x, y))
		r, ok = impl.SubRat(a, b)
		expectBig(t, "sub", r, ok, new(big.Rat).Sub(x, y))
		r, ok = impl.MulRat(a, b)
		expectBig(t, "mul", r, ok, new(big.Rat).Mul(x, y))
		r, ok = impl.DivRat(a, b)
		if y.Sign() == 0 {
			expectRat(t, "division by zero", r, ok, "")
		} else {
			expectBig(t, "div", r, ok, new(big.Rat).Quo(x, y))
		}
		r, ok = impl.SumRats([]impl.Rat{a, b, a})
		expectBig(t, "sum", r, ok, new(big.Rat).Add(x, new(big.Rat).Add(x, y)))
		if order, ok := impl.CompareRat(a, b); order != x.Cmp(y) || !ok {
			t.Fatalf("compare %v %v: got %d %v", x, y, order, ok)
		}
	})
}

func TestPromise1OperationsAreCommutative(t *testing.T) {
	pairs(2, 2000, func(a, b impl.Rat, _, _ *big.Rat) {
		s, sOk := impl.AddRat(a, b)
		r, rOk := impl.AddRat(b, a)
		if s != r || sOk != rOk {
			t.Fatalf("addition of %+v and %+v", a, b)
		}
		s, sOk = impl.MulRat(a, b)
		r, rOk = impl.MulRat(b, a)
		if s != r || sOk != rOk {
			t.Fatalf("multiplication of %+v and %+v", a, b)
		}
	})
}

func TestPromise1OperationsHaveInverses(t *testing.T) {
	pairs(3, 2000, func(a, b impl.Rat, _, _ *big.Rat) {
		if s, ok := impl.AddRat(a, b); ok {
			if r, ok := impl.SubRat(s, b); r != a || !ok {
				t.Fatalf("%+v + %+v - the same: %+v %v", a, b, r, ok)
			}
		}
		if s, ok := impl.SubRat(a, b); ok {
			if r, ok := impl.AddRat(s, b); r != a || !ok {
				t.Fatalf("%+v - %+v + the same: %+v %v", a, b, r, ok)
			}
		}
		if b.Num == "0" {
			return
		}
		if s, ok := impl.MulRat(a, b); ok {
			if r, ok := impl.DivRat(s, b); r != a || !ok {
				t.Fatalf("%+v * %+v / the same: %+v %v", a, b, r, ok)
			}
		}
		if s, ok := impl.DivRat(a, b); ok {
			if r, ok := impl.MulRat(s, b); r != a || !ok {
				t.Fatalf("%+v / %+v * the same: %+v %v", a, b, r, ok)
			}
		}
	})
}

func TestPromise1TextIsParsedBack(t *testing.T) {
	source := rand.New(rand.NewSource(4))
	for range 3000 {
		r, x := randomRat(source)
		text, ok := impl.FormatRat(r)
		if text != x.RatString() || !ok {
			t.Fatalf("format %+v: %q %v", r, text, ok)
		}
		if back, ok := impl.ParseRat(text); back != r || !ok {
			t.Fatalf("parse %q: %+v %v", text, back, ok)
		}
	}
}

func TestRatOf(t *testing.T) {
	for _, x := range []struct {
		num, den int
		want     string
	}{
		{6, -4, "-3/2"},
		{-6, -4, "3/2"},
		{-6, 4, "-3/2"},
		{0, 5, "0"},
		{0, -5, "0"},
		{0, math.MinInt, "0"},
		{7, 7, "1"},
		{1, 0, ""},
		{0, 0, ""},
		{math.MinInt, 0, ""},
		{math.MinInt, 1, "-9223372036854775808"},
		{math.MinInt, -1, "9223372036854775808"},
		{1, math.MinInt, "-1/9223372036854775808"},
		{-1, math.MinInt, "1/9223372036854775808"},
		{math.MinInt, math.MinInt, "1"},
		{math.MinInt, 6, "-4611686018427387904/3"},
		{6, math.MinInt, "-3/4611686018427387904"},
		{math.MinInt, math.MaxInt, "-9223372036854775808/9223372036854775807"},
		{math.MaxInt, math.MinInt, "-9223372036854775807/9223372036854775808"},
		{math.MaxInt, math.MaxInt, "1"},
		{math.MaxInt, -1, "-9223372036854775807"},
	} {
		r, ok := impl.RatOf(x.num, x.den)
		expectRat(t, "RatOf", r, ok, x.want)
	}
}

func TestRatOfRandomInts(t *testing.T) {
	source := rand.New(rand.NewSource(5))
	for range 3000 {
		num, den := int(source.Uint64())>>source.Intn(64), int(source.Uint64())>>source.Intn(64)
		if den == 0 {
			continue
		}
		r, ok := impl.RatOf(num, den)
		expectBig(t, "RatOf", r, ok, new(big.Rat).SetFrac(big.NewInt(int64(num)), big.NewInt(int64(den))))
	}
}

// Every case lies exactly on the limit of MaxDigits digits or one digit beyond it.
func TestResultsAtTheLimit(t *testing.T) {
	add, sub, mul, div := impl.AddRat, impl.SubRat, impl.MulRat, impl.DivRat
	evenDen, oddDen := tenTo(59)+"1", tenTo(58)+"1" // 10^60+1 and 10^59+1: 61 and 60 digits
	for _, x := range []struct {
		what string
		op   func(impl.Rat, impl.Rat) (impl.Rat, bool)
		a, b string
		want string
	}{
		{"add", add, nines(119) + "8", "1", nines(120)},
		{"add", add, nines(120), "1", ""},
		{"add", add, "-" + nines(120), "-1", ""},
		{"add", add, nines(120), "1/2", ""},
		{"add denominators", add, "1/" + tenTo(60), "1/" + oddDen, "x"},
		{"add denominators", add, "1/" + tenTo(60), "1/" + evenDen, ""},
		{"sub", sub, "-" + nines(119) + "8", "1", "-" + nines(120)},
		{"sub", sub, "-" + nines(120), "1", ""},
		{"sub denominators", sub, "1/" + tenTo(60), "1/" + oddDen, "x"},
		{"sub denominators", sub, "1/" + tenTo(60), "1/" + evenDen, ""},
		{"mul", mul, tenTo(59), tenTo(60), tenTo(119)},
		{"mul", mul, tenTo(60), tenTo(60), ""},
		{"mul", mul, "-" + nines(60), nines(60), "-" + nines(59) + "8" + strings.Repeat("0", 59) + "1"},
		{"mul denominators", mul, "1/" + tenTo(59), "1/" + tenTo(60), "1/" + tenTo(119)},
		{"mul denominators", mul, "1/" + tenTo(60), "1/" + tenTo(60), ""},
		{"div", div, tenTo(59), "1/" + tenTo(60), tenTo(119)},
		{"div", div, tenTo(60), "1/" + tenTo(60), ""},
		{"div denominators", div, "1/" + tenTo(59), tenTo(60), "1/" + tenTo(119)},
		{"div denominators", div, "-1/" + tenTo(60), tenTo(60), ""},
	} {
		got, ok := x.op(rat(t, x.a), rat(t, x.b))
		if x.want != "x" {
			expectRat(t, x.what, got, ok, x.want)
		} else if !ok || len(got.Den) != impl.MaxDigits {
			t.Errorf("%s: got %+v %v", x.what, got, ok)
		}
	}
}

// The results are small, but a common denominator or an unreduced product is far too long.
func TestLargeIntermediateResults(t *testing.T) {
	add, sub, mul, div := impl.AddRat, impl.SubRat, impl.MulRat, impl.DivRat
	long, other := tenTo(118)+"1", nines(120)
	for _, x := range []struct {
		what string
		op   func(impl.Rat, impl.Rat) (impl.Rat, bool)
		a, b string
		want string
	}{
		{"add", add, "1/" + long, "-1/" + long, "0"},
		{"add", add, long + "/" + other, "-" + long + "/" + other, "0"},
		{"sub", sub, "1/" + other, "1/" + other, "0"},
		{"sub", sub, long + "/" + other, long + "/" + other, "0"},
		{"mul", mul, long + "/" + other, other + "/" + long, "1"},
		{"mul", mul, "-" + long, "1/" + long, "-1"},
		{"div", div, long + "/" + other, long + "/" + other, "1"},
		{"div", div, other, "-" + other, "-1"},
		{"add", add, nines(120) + "/2", "-1/2", nines(119) + "8/2"},
		{"add", add, "1/2" + strings.Repeat("0", 119), "1/2" + strings.Repeat("0", 119), "1/" + tenTo(119)},
	} {
		got, ok := x.op(rat(t, x.a), rat(t, x.b))
		expectRat(t, x.what, got, ok, x.want)
	}
}

func TestCompareRat(t *testing.T) {
	ordered := []string{
		"-" + nines(120), "-1", "-1/2", "-1/" + nines(119) + "8", "-1/" + nines(120), "0",
		"1/" + nines(120), "1/" + nines(119) + "8", "1/3", "1/2",
		nines(119) + "8/" + nines(120), "1", nines(120) + "/" + nines(119) + "8", nines(119) + "8", nines(120),
	}
	for i, a := range ordered {
		for j, b := range ordered {
			want := 0
			if i < j {
				want = -1
			} else if i > j {
				want = 1
			}
			if got, ok := impl.CompareRat(rat(t, a), rat(t, b)); got != want || !ok {
				t.Errorf("compare %s %s: got %d %v", a, b, got, ok)
			}
		}
	}
}

func TestSumRats(t *testing.T) {
	for _, x := range []struct {
		list []string
		want string
	}{
		{nil, "0"},
		{[]string{"-3/7"}, "-3/7"},
		{[]string{"1/2", "1/3", "1/6"}, "1"},
		{[]string{"1/2", "-1/2"}, "0"},
		{[]string{nines(120), "1", "-1"}, nines(120)},
		{[]string{nines(120), nines(120), "-" + nines(120)}, nines(120)},
		{[]string{nines(120), "1"}, ""},
		{[]string{"1/" + nines(120), "1/" + tenTo(119), "-1/" + nines(120)}, "1/" + tenTo(119)},
		{[]string{"1/" + nines(120), "1/" + tenTo(119)}, ""},
	} {
		var list []impl.Rat
		for _, text := range x.list {
			list = append(list, rat(t, text))
		}
		r, ok := impl.SumRats(list)
		expectRat(t, "sum", r, ok, x.want)
	}
	r, ok := impl.SumRats([]impl.Rat{})
	expectRat(t, "sum of an empty slice", r, ok, "0")
}

func TestSumsOfLongLists(t *testing.T) {
	list, sum := []impl.Rat{}, new(big.Rat)
	for i := range 1000 {
		x := big.NewRat(int64(i*i-300*i), int64(1+i%60))
		r, _ := ratOfBig(x)
		list, sum = append(list, r), sum.Add(sum, x)
	}
	r, ok := impl.SumRats(list)
	expectBig(t, "sum of 1000", r, ok, sum)
	r, ok = impl.SumRats(append(list, zeroRat))
	expectRat(t, "sum of 1001", r, ok, "")
}

// The partial sums of this list have denominators of tens of thousands of digits.
func TestSumOfCancellingLongList(t *testing.T) {
	source := rand.New(rand.NewSource(6))
	var list []impl.Rat
	for len(list) < 1000 {
		den := new(big.Int).Rand(source, new(big.Int).Exp(big.NewInt(10), big.NewInt(120), nil))
		r, _ := ratOfBig(new(big.Rat).SetFrac(big.NewInt(1), den.SetBit(den, 0, 1)))
		opposite := r
		opposite.Neg = true
		list = append(list, r, opposite)
	}
	source.Shuffle(len(list), func(i, j int) { list[i], list[j] = list[j], list[i] })
	r, ok := impl.SumRats(list)
	expectRat(t, "sum", r, ok, "0")
	list[source.Intn(len(list))] = zeroRat
	if r, ok = impl.SumRats(list); !ok || r.Num != "1" || len(r.Den) < 100 {
		t.Errorf("sum without one number: %+v %v", r, ok)
	}
}

func TestPowRat(t *testing.T) {
	twoTo200 := new(big.Int).Lsh(big.NewInt(1), 200).String()
	for _, x := range []struct {
		base string
		n    int
		want string
	}{
		{"2/3", 3, "8/27"},
		{"-2/3", 3, "-8/27"},
		{"-2/3", 2, "4/9"},
		{"2/3", 0, "1"},
		{"0", 0, "1"},
		{"-5", 0, "1"},
		{nines(120) + "/" + tenTo(119), 0, "1"},
		{nines(120) + "/" + tenTo(119), 1, nines(120) + "/" + tenTo(119)},
		{nines(120), 2, ""},
		{"0", 1, "0"},
		{"0", 200, "0"},
		{"1", 200, "1"},
		{"-1", 200, "1"},
		{"-1", 199, "-1"},
		{"2", 200, twoTo200},
		{"-1/2", 200, "1/" + twoTo200},
		{"4", 199, new(big.Int).Lsh(big.NewInt(1), 398).String()},
		{"4", 200, ""},
		{"1/4", 200, ""},
		{"10", 119, tenTo(119)},
		{"10", 120, ""},
		{"1/10", 119, "1/" + tenTo(119)},
		{"1/10", 120, ""},
		{"3/10", 120, ""},
		{"2", -1, ""},
		{"1", -1, ""},
		{"1", 201, ""},
		{"0", 201, ""},
		{"1", math.MinInt, ""},
		{"1", math.MaxInt, ""},
	} {
		r, ok := impl.PowRat(rat(t, x.base), x.n)
		expectRat(t, "power of "+x.base, r, ok, x.want)
	}
}

func TestFormatRat(t *testing.T) {
	for _, x := range []struct {
		r    impl.Rat
		want string
	}{
		{impl.Rat{Neg: true, Num: "3", Den: "2"}, "-3/2"},
		{impl.Rat{Num: "3", Den: "2"}, "3/2"},
		{impl.Rat{Neg: true, Num: "4", Den: "1"}, "-4"},
		{impl.Rat{Num: "10", Den: "1"}, "10"},
		{zeroRat, "0"},
		{impl.Rat{Num: nines(120), Den: tenTo(119)}, nines(120) + "/" + tenTo(119)},
	} {
		if got, ok := impl.FormatRat(x.r); got != x.want || !ok {
			t.Errorf("format %+v: %q %v", x.r, got, ok)
		}
	}
}

func TestParseRat(t *testing.T) {
	for _, text := range []string{"0", "1", "-1", "7/2", "-7/2", "1/10", "10", nines(120), "-" + tenTo(119) + "/" + nines(120)} {
		r, ok := impl.ParseRat(text)
		expectRat(t, "parse", r, ok, text)
	}
	for _, text := range []string{
		"", "-", "/", "-/", "1/", "/2", "-/2", "0/1", "0/5", "-0", "-0/1", "1/1", "-3/1", "2/4", "6/3", "1/0", "0/0",
		"01", "00", "-01", "1/02", "01/2", "+1", "--1", "1/-2", "1/+2", "1/2/3", "1//2", "1/2/", " 1", "1 ", "1 /2", "1/ 2",
		"1.5", "1e3", "0x1", "1_000", "a", "1/a", "\u0661", "\uff11", "1\x00", "\xff", "1/2\n", "-1-", "1:2",
		tenTo(120), "1/" + tenTo(120), "-" + tenTo(120), "0" + nines(119), strings.Repeat("1", 100000),
		nines(120) + "/" + strings.Repeat("3", 120),
	} {
		r, ok := impl.ParseRat(text)
		expectRat(t, "parse "+text, r, ok, "")
	}
}

func TestDecimalOf(t *testing.T) {
	for _, x := range []struct {
		text   string
		digits int
		want   string
	}{
		{"2/3", 4, "0.6666"},
		{"2/3", 0, "0"},
		{"-2/3", 4, "-0.6666"},
		{"-2/3", 0, "-0"},
		{"-1/1000", 2, "-0.00"},
		{"-1/1000", 3, "-0.001"},
		{"0", 0, "0"},
		{"0", 3, "0.000"},
		{"5", 0, "5"},
		{"5", 2, "5.00"},
		{"-7/2", 0, "-3"},
		{"-7/2", 1, "-3.5"},
		{"999/1000", 2, "0.99"},
		{"12345/100", 1, "123.4"},
		{"1/100", 1, "0.0"},
		{"1/100", 2, "0.01"},
		{"1/7", 50, "0.14285714285714285714285714285714285714285714285714"},
		{nines(120), 50, nines(120) + "." + strings.Repeat("0", 50)},
		{"1/" + nines(120), 50, "0." + strings.Repeat("0", 50)},
		{"-1/" + nines(120), 50, "-0." + strings.Repeat("0", 50)},
	} {
		if got, ok := impl.DecimalOf(rat(t, x.text), x.digits); got != x.want || !ok {
			t.Errorf("decimal of %s with %d digits: %q %v", x.text, x.digits, got, ok)
		}
	}
	for _, digits := range []int{-1, 51, math.MinInt, math.MaxInt} {
		if got, ok := impl.DecimalOf(rat(t, "1/2"), digits); got != "" || ok {
			t.Errorf("%d digits: %q %v", digits, got, ok)
		}
	}
}

func TestDecimalsOfRandomNumbers(t *testing.T) {
	source := rand.New(rand.NewSource(7))
	for range 2000 {
		r, x := randomRat(source)
		digits := source.Intn(51)
		scale := new(big.Int).Exp(big.NewInt(10), big.NewInt(int64(digits)), nil)
		scaled := new(big.Int).Quo(scale.Mul(scale, new(big.Int).Abs(x.Num())), x.Denom())
		want := scaled.String()
		for len(want) <= digits {
			want = "0" + want
		}
		if digits > 0 {
			want = want[:len(want)-digits] + "." + want[len(want)-digits:]
		}
		if x.Sign() < 0 {
			want = "-" + want
		}
		if got, ok := impl.DecimalOf(r, digits); got != want || !ok {
			t.Fatalf("decimal of %v with %d digits: %q %v, want %q", x, digits, got, ok, want)
		}
	}
}

func validRats() []impl.Rat {
	return []impl.Rat{
		zeroRat,
		{Num: "1", Den: "1"},
		{Neg: true, Num: "1", Den: "1"},
		{Num: "1", Den: "2"},
		{Neg: true, Num: "7", Den: "10"},
		{Num: nines(120), Den: "1"},
		{Neg: true, Num: "1", Den: nines(120)},
		{Num: tenTo(119), Den: nines(120)},
	}
}

func invalidRats() []impl.Rat {
	return []impl.Rat{
		{},
		{Neg: true},
		{Num: "0"},
		{Den: "1"},
		{Num: "1"},
		{Neg: true, Num: "0", Den: "1"},
		{Num: "0", Den: "2"},
		{Num: "0", Den: "0"},
		{Num: "1", Den: "0"},
		{Num: "2", Den: "4"},
		{Num: "2", Den: "2"},
		{Num: nines(120), Den: "3"},
		{Num: nines(120), Den: nines(60)},
		{Num: "01", Den: "2"},
		{Num: "1", Den: "02"},
		{Num: "00", Den: "1"},
		{Num: "1", Den: "01"},
		{Num: "-1", Den: "2"},
		{Num: "1", Den: "-2"},
		{Num: "+1", Den: "2"},
		{Num: " 1", Den: "2"},
		{Num: "1", Den: "2 "},
		{Num: "1/2", Den: "1"},
		{Num: "a", Den: "1"},
		{Num: "1", Den: "b"},
		{Num: "\u0663", Den: "1"},
		{Num: "1\x00", Den: "1"},
		{Num: "\xff", Den: "\xfe"},
		{Num: ":", Den: "1"},
		{Num: "1", Den: "3/"},
		{Num: tenTo(120), Den: "1"},
		{Num: "1", Den: tenTo(120)},
		{Num: "0" + nines(119), Den: "1"},
		{Num: strings.Repeat("7", 100000), Den: "1"},
		{Num: "1", Den: strings.Repeat("7", 100000)},
	}
}

func TestIsValidRat(t *testing.T) {
	for _, r := range validRats() {
		if !impl.IsValidRat(r) {
			t.Errorf("not valid: %+v", r)
		}
	}
	for _, r := range invalidRats() {
		if impl.IsValidRat(r) {
			t.Errorf("valid: %+v", r)
		}
	}
}

func TestInvalidArgumentsYieldZeroValues(t *testing.T) {
	for _, bad := range invalidRats() {
		for _, n := range []int{-1, 0, 1, 2, 200, 201} {
			r, ok := impl.PowRat(bad, n)
			expectRat(t, "power", r, ok, "")
			if text, ok := impl.DecimalOf(bad, n); text != "" || ok {
				t.Errorf("decimal of %+v: %q %v", bad, text, ok)
			}
		}
		if text, ok := impl.FormatRat(bad); text != "" || ok {
			t.Errorf("format %+v: %q %v", bad, text, ok)
		}
		for _, other := range append(validRats(), bad) {
			expectFailures(t, bad, other)
			expectFailures(t, other, bad)
		}
	}
}

// expectFailures checks the operations on two numbers of which at least one is not valid.
func expectFailures(t *testing.T, a, b impl.Rat) {
	t.Helper()
	for _, op := range []func(impl.Rat, impl.Rat) (impl.Rat, bool){impl.AddRat, impl.SubRat, impl.MulRat, impl.DivRat} {
		r, ok := op(a, b)
		expectRat(t, "operation", r, ok, "")
	}
	if order, ok := impl.CompareRat(a, b); order != 0 || ok {
		t.Errorf("compare %+v %+v: %d %v", a, b, order, ok)
	}
	r, ok := impl.SumRats([]impl.Rat{a, b, zeroRat})
	expectRat(t, "sum", r, ok, "")
}

func TestDivisionByZero(t *testing.T) {
	for _, a := range validRats() {
		r, ok := impl.DivRat(a, zeroRat)
		expectRat(t, "division by zero", r, ok, "")
	}
}

// Whatever the arguments are, a call returns, its result is valid if it succeeds, and zero if not.
func TestPromise33AllArgumentsAreAccepted(t *testing.T) {
	all := append(validRats(), invalidRats()...)
	expectSound := func(r impl.Rat, ok bool) {
		t.Helper()
		if ok != impl.IsValidRat(r) || !ok && r != (impl.Rat{}) {
			t.Errorf("%+v %v", r, ok)
		}
	}
	for _, a := range all {
		for _, n := range []int{math.MinInt, -1, 0, 1, 50, 51, 200, 201, math.MaxInt} {
			expectSound(impl.PowRat(a, n))
			impl.DecimalOf(a, n)
			expectSound(impl.RatOf(n, -n))
		}
		text, _ := impl.FormatRat(a)
		expectSound(impl.ParseRat(text))
		expectSound(impl.ParseRat(a.Num))
		expectSound(impl.ParseRat(a.Num + "/" + a.Den))
		for _, b := range all {
			expectSound(impl.AddRat(a, b))
			expectSound(impl.SubRat(a, b))
			expectSound(impl.MulRat(a, b))
			expectSound(impl.DivRat(a, b))
			expectSound(impl.SumRats([]impl.Rat{a, b}))
			impl.CompareRat(a, b)
		}
	}
	expectSound(impl.SumRats(nil))
	expectSound(impl.SumRats(all))
	expectSound(impl.SumRats(make([]impl.Rat, 1000)))
	expectSound(impl.SumRats(make([]impl.Rat, 1001)))
}

func TestPromise33ListsAreNotModified(t *testing.T) {
	for _, values := range [][]impl.Rat{validRats(), invalidRats()} {
		spare := append(values, impl.Rat{Num: "spare", Den: "capacity"})
		before := append([]impl.Rat(nil), spare...)
		first, ok := impl.SumRats(spare[:len(values)])
		again, same := impl.SumRats(spare[:len(values)])
		if first != again || ok != same {
			t.Errorf("the same sum twice: %+v %v, %+v %v", first, ok, again, same)
		}
		for i := range spare {
			if spare[i] != before[i] {
				t.Errorf("number %d was modified: %+v", i, spare[i])
			}
		}
	}
}

// Rat is passed by value, so that only results which depend on earlier calls could betray a change.
func TestPromise33ResultsDependOnArgumentsOnly(t *testing.T) {
	var first []string
	for round := range 2 {
		source := rand.New(rand.NewSource(8))
		for i := range 300 {
			a, _ := randomRat(source)
			b, _ := randomRat(source)
			r, _ := impl.AddRat(a, b)
			s, _ := impl.MulRat(r, b)
			text, _ := impl.FormatRat(s)
			decimal, _ := impl.DecimalOf(a, i%51)
			if round == 0 {
				first = append(first, text+" "+decimal)
			} else if first[i] != text+" "+decimal {
				t.Fatalf("case %d: %q, first %q", i, text+" "+decimal, first[i])
			}
		}
	}
}
