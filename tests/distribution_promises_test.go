package tests

import (
	"maps"
	"math"
	"math/big"
	"math/rand"
	"slices"
	"strconv"
	"strings"
	"testing"

	"loop.example/g00893/impl"
)

// bigDist is the reference for distributions: the mass of each value.
type bigDist map[int]*big.Rat

func bigOfDist(t *testing.T, d impl.Dist) bigDist {
	t.Helper()
	b := bigDist{}
	for _, p := range d.Points {
		b[p.Value] = bigOfRat(t, p.Mass)
	}
	return b
}

func (b bigDist) add(value int, mass *big.Rat) {
	sum := new(big.Rat).Set(mass)
	if old, ok := b[value]; ok {
		sum.Add(sum, old)
	}
	b[value] = sum
}

func (b bigDist) mass() *big.Rat { return b.moment(0) }

// moment returns the sum of value to the power n times mass.
func (b bigDist) moment(n int) *big.Rat {
	sum := new(big.Rat)
	for value, mass := range b {
		x := new(big.Rat).Set(mass)
		for range n {
			x.Mul(x, big.NewRat(int64(value), 1))
		}
		sum.Add(sum, x)
	}
	return sum
}

// distance returns half the sum of the absolute differences of the masses.
func (b bigDist) distance(other bigDist) *big.Rat {
	gaps, sum := maps.Clone(b), new(big.Rat)
	for value, mass := range other {
		gaps.add(value, new(big.Rat).Neg(mass))
	}
	for _, gap := range gaps {
		sum.Add(sum, new(big.Rat).Abs(gap))
	}
	return sum.Mul(sum, big.NewRat(1, 2))
}

// dist returns the valid Dist with these masses, and false if there is none.
func (b bigDist) dist() (impl.Dist, bool) {
	var d impl.Dist
	for _, value := range slices.Sorted(maps.Keys(b)) {
		if b[value].Sign() == 0 {
			continue
		}
		mass, ok := ratOfBig(b[value])
		if !ok || b[value].Sign() < 0 || value < -1000 || value > 1000 {
			return impl.Dist{}, false
		}
		d.Points = append(d.Points, impl.Point{Value: value, Mass: mass})
	}
	if len(d.Points) > 60 || b.mass().Cmp(big.NewRat(1, 1)) > 0 {
		return impl.Dist{}, false
	}
	return d, true
}

func expectBigDist(t *testing.T, what string, got impl.Dist, ok bool, wanted bigDist) {
	t.Helper()
	want, exists := wanted.dist()
	if !equalDists(got, want) || ok != exists {
		t.Fatalf("%s: got %+v %v, want %+v %v", what, got, ok, want, exists)
	}
}

// randomValues returns distinct values in order, sometimes close together, sometimes far apart.
func randomValues(source *rand.Rand) []int {
	count := []int{0, 1, 2, 3, 5, 8, 12, 30, 31, 59, 60}[source.Intn(11)]
	width := count + []int{0, 1, 5, 100}[source.Intn(4)]
	step := 1 + source.Intn(3)
	first := []int{0, -width / 2, -1000, 1000 - step*width, source.Intn(500) - 250}[source.Intn(5)]
	var values []int
	for _, i := range source.Perm(width)[:count] {
		values = append(values, max(-1000, first)+step*i)
	}
	slices.Sort(values)
	return values
}

// randomMasses returns count positive masses that sum to at most 1, and to exactly 1 if whole.
func randomMasses(source *rand.Rand, count int, whole bool) []*big.Rat {
	masses := make([]*big.Rat, count)
	digits := []int64{1, 2, 20, 57, 58, 59, 100}[source.Intn(7)]
	limit := new(big.Int).Exp(big.NewInt(10), big.NewInt(digits), nil)
	weights, total := make([]*big.Int, count), new(big.Int)
	for i := range weights {
		weights[i] = new(big.Int).Rand(source, limit)
		weights[i].Add(weights[i], big.NewInt(1))
		total.Add(total, weights[i])
	}
	if !whole {
		total.Add(total, new(big.Int).Rand(source, limit))
	}
	for i, weight := range weights {
		masses[i] = new(big.Rat).SetFrac(weight, total)
		if !whole && digits < 100 && source.Intn(3) == 0 {
			masses[i].Mul(masses[i], big.NewRat(int64(1+source.Intn(60)), 60))
		}
	}
	return masses
}

// randomDist returns a valid Dist; if whole, it has points and its masses sum to 1.
func randomDist(source *rand.Rand, whole bool) impl.Dist {
	values := randomValues(source)
	for whole && len(values) == 0 {
		values = randomValues(source)
	}
	var d impl.Dist
	for i, mass := range randomMasses(source, len(values), whole) {
		r, _ := ratOfBig(mass)
		d.Points = append(d.Points, impl.Point{Value: values[i], Mass: r})
	}
	return d
}

// distPairs calls check with random pairs; some of the second ones resemble the first.
func distPairs(seed int64, count int, check func(source *rand.Rand, a, b impl.Dist)) {
	source := rand.New(rand.NewSource(seed))
	for range count {
		a, b := randomDist(source, source.Intn(2) == 0), randomDist(source, source.Intn(2) == 0)
		switch source.Intn(4) {
		case 0:
			b = impl.Dist{Points: slices.Clone(a.Points[:source.Intn(len(a.Points)+1)])}
		case 1:
			b = impl.Dist{}
			for i, p := range a.Points {
				if i%3 != 2 {
					b.Points = append(b.Points, impl.Point{Value: p.Value, Mass: a.Points[i/2].Mass})
				}
			}
			if !impl.IsValidDist(b) {
				b = impl.Dist{}
			}
		}
		check(source, a, b)
	}
}

func TestNumbersOfDistsAgreeWithReference(t *testing.T) {
	distPairs(11, 300, func(source *rand.Rand, d, other impl.Dist) {
		b := bigOfDist(t, d)
		if !impl.IsValidDist(d) {
			t.Fatalf("not valid: %+v", d)
		}
		r, ok := impl.MassOf(d)
		expectBig(t, "mass", r, ok, b.mass())
		r, ok = impl.Expectation(d)
		expectBig(t, "expectation", r, ok, b.moment(1))
		r, ok = impl.Variance(d)
		if b.mass().Cmp(big.NewRat(1, 1)) == 0 {
			square := new(big.Rat).Mul(b.moment(1), b.moment(1))
			expectBig(t, "variance", r, ok, square.Sub(b.moment(2), square))
		} else {
			expectNumber(t, "variance", r, ok, fails)
		}
		r, ok = impl.TotalVariation(d, other)
		expectBig(t, "distance", r, ok, b.distance(bigOfDist(t, other)))
		for _, value := range append(slices.Sorted(maps.Keys(b)), source.Intn(2003)-1001) {
			mass, found := b[value]
			if !found {
				mass = new(big.Rat)
			}
			r, ok = impl.ProbabilityAt(d, value)
			expectBig(t, "mass at a value", r, ok, mass)
		}
		var fields []string
		for _, p := range d.Points {
			fields = append(fields, strconv.Itoa(p.Value)+":"+bigOfRat(t, p.Mass).RatString())
		}
		if text, ok := impl.FormatDist(d); text != strings.Join(fields, " ") || !ok {
			t.Fatalf("format: %q %v", text, ok)
		}
	})
}

func TestDistsOfDistsAgreeWithReference(t *testing.T) {
	distPairs(12, 300, func(source *rand.Rand, d, other impl.Dist) {
		b, c := bigOfDist(t, d), bigOfDist(t, other)
		normal, pushed, mixed, sums := bigDist{}, bigDist{}, bigDist{}, bigDist{}
		add, mod := source.Intn(2001)-1000, 1+source.Intn([]int{3, 60, 1000}[source.Intn(3)])
		share := big.NewRat(int64(source.Intn(7)), 6)
		rest := new(big.Rat).Sub(big.NewRat(1, 1), share)
		for value, mass := range b {
			normal.add(value, new(big.Rat).Quo(mass, b.mass()))
			pushed.add((value+add+1000*mod*mod)%mod, mass)
			mixed.add(value, new(big.Rat).Mul(mass, share))
			for value2, mass2 := range c {
				sums.add(value+value2, new(big.Rat).Mul(mass, mass2))
			}
		}
		for value, mass := range c {
			mixed.add(value, new(big.Rat).Mul(mass, rest))
		}
		got, ok := impl.Normalize(d)
		if len(d.Points) == 0 {
			expectDist(t, "normalize", got, ok, fails)
		} else {
			expectBigDist(t, "normalize", got, ok, normal)
		}
		got, ok = impl.PushForward(d, add, mod)
		expectBigDist(t, "push forward", got, ok, pushed)
		p, _ := ratOfBig(share)
		got, ok = impl.Mixture(d, other, p)
		expectBigDist(t, "mixture", got, ok, mixed)
		got, ok = impl.Convolve(d, other)
		expectBigDist(t, "convolution", got, ok, sums)
	})
}

// shiftMass moves a mass of amount from each of one value and its opposite to another value and its opposite.
func (b bigDist) shiftMass(amount *big.Rat, from, to int) {
	for _, sign := range []int{-1, 1} {
		b.add(sign*to, amount)
		b.add(sign*from, new(big.Rat).Neg(amount))
	}
}

// The expectation is the sum of three fractions 1/D and far too long, but the mean square holds
// every product of two of them, so that the variance is short.
func TestVarianceWithTooLongExpectation(t *testing.T) {
	b := bigDist{}
	for value := -15; value <= 15; value++ {
		if value != 0 {
			b.add(value, big.NewRat(1, 30))
		}
	}
	var parts []*big.Rat
	for _, digit := range []string{"1", "3", "7"} {
		part, _ := new(big.Rat).SetString("1/" + tenTo(49) + digit)
		parts = append(parts, part)
	}
	free := 4
	for i, part := range parts {
		half := new(big.Rat).Mul(part, big.NewRat(1, int64(2*(i+1))))
		b.add(i+1, half)
		b.add(-i-1, half.Neg(half))
		for j := range i + 1 {
			product := new(big.Rat).Mul(part, parts[j])
			if i != j {
				product.Add(product, product)
			}
			b.shiftMass(product.Mul(product, big.NewRat(1, int64(2*(2*free+1)))), free, free+1)
			free += 2
		}
	}
	d, ok := b.dist()
	if !ok || !impl.IsValidDist(d) {
		t.Fatalf("not valid: %+v", d)
	}
	r, ok := impl.Expectation(d)
	expectNumber(t, "expectation", r, ok, fails)
	r, ok = impl.Variance(d)
	expectNumber(t, "variance", r, ok, "248/3")
}

func TestFromWeightsAgreesWithReference(t *testing.T) {
	source := rand.New(rand.NewSource(13))
	for range 1000 {
		count, spread := 1+source.Intn(150), 1+source.Intn(64)
		first := source.Intn(2020-spread) - 1010
		values, weights := make([]int, count), make([]int, count)
		total := 0
		for i := range values {
			values[i], weights[i] = first+source.Intn(spread), 1+source.Intn(1000)
			total += weights[i]
		}
		want := bigDist{}
		for i, value := range values {
			want.add(value, big.NewRat(int64(weights[i]), int64(total)))
		}
		got, ok := impl.FromWeights(values, weights)
		expectBigDist(t, "from weights", got, ok, want)
	}
}

func TestPromise2WeightsSumToOne(t *testing.T) {
	source := rand.New(rand.NewSource(14))
	built := 0
	for range 1000 {
		values, weights := make([]int, 1+source.Intn(100)), []int{}
		for i := range values {
			values[i] = source.Intn(70) - 35
			weights = append(weights, 1+source.Intn(1000))
		}
		d, ok := impl.FromWeights(values, weights)
		if !ok {
			continue
		}
		built++
		r, ok := impl.MassOf(d)
		expectNumber(t, "mass", r, ok, "1")
	}
	if built < 500 {
		t.Errorf("only %d distributions", built)
	}
}

func TestPromise2MomentsOfConvolutionsAddUp(t *testing.T) {
	source := rand.New(rand.NewSource(15))
	expectations, variances := 0, 0
	for range 700 {
		a, b := randomDist(source, true), randomDist(source, true)
		c, ok := impl.Convolve(a, b)
		if !ok {
			continue
		}
		if addUp(t, impl.Expectation, a, b, c) {
			expectations++
		}
		if addUp(t, impl.Variance, a, b, c) {
			variances++
		}
	}
	if expectations < 100 || variances < 50 {
		t.Errorf("only %d expectations and %d variances", expectations, variances)
	}
}

// addUp checks that the numbers of a and b sum to that of c, and reports whether all of them exist.
func addUp(t *testing.T, f func(impl.Dist) (impl.Rat, bool), a, b, c impl.Dist) bool {
	t.Helper()
	x, xOk := f(a)
	y, yOk := f(b)
	z, zOk := f(c)
	if !xOk || !yOk || !zOk {
		return false
	}
	sum := new(big.Rat).Add(bigOfRat(t, x), bigOfRat(t, y))
	if sum.Cmp(bigOfRat(t, z)) != 0 {
		t.Fatalf("%+v and %+v: %v, their convolution %+v: %v", a, b, sum, c, bigOfRat(t, z))
	}
	return true
}

// distCalls returns the results of all functions of the chapter that take distributions, with their names.
func distCalls(a, b impl.Dist, p impl.Rat, n int) (map[string]impl.Dist, map[string]impl.Rat, map[string]bool) {
	dists, rats, oks := map[string]impl.Dist{}, map[string]impl.Rat{}, map[string]bool{}
	keepDist := func(name string) func(impl.Dist, bool) {
		return func(d impl.Dist, ok bool) { dists[name], oks[name] = d, ok }
	}
	keepRat := func(name string) func(impl.Rat, bool) {
		return func(r impl.Rat, ok bool) { rats[name], oks[name] = r, ok }
	}
	keepDist("Normalize")(impl.Normalize(a))
	keepDist("Mixture")(impl.Mixture(a, b, p))
	keepDist("PushForward")(impl.PushForward(a, n, n))
	keepDist("PushForward by 7")(impl.PushForward(a, n, 7))
	keepDist("PushForward of 5")(impl.PushForward(a, 5, n))
	keepDist("Convolve")(impl.Convolve(a, b))
	keepRat("MassOf")(impl.MassOf(a))
	keepRat("ProbabilityAt")(impl.ProbabilityAt(a, n))
	keepRat("Expectation")(impl.Expectation(a))
	keepRat("Variance")(impl.Variance(a))
	keepRat("TotalVariation")(impl.TotalVariation(a, b))
	return dists, rats, oks
}

// Whatever the arguments are, a call returns, its result is valid if it succeeds, and zero if not.
func TestPromise33AllDistsAreAccepted(t *testing.T) {
	all := append(validDists(t), invalidDists(t)...)
	numbers := []impl.Rat{zeroRat, rat(t, "1"), rat(t, "1/2"), rat(t, "1/"+nines(120)), rat(t, "-1"), rat(t, "2"), {}, {Num: "2", Den: "4"}}
	ints := []int{math.MinInt, -1001, -1000, -1, 0, 1, 2, 1000, 1001, math.MaxInt}
	for i, a := range all {
		if text, ok := impl.FormatDist(a); ok != impl.IsValidDist(a) || !ok && text != "" {
			t.Errorf("format: %q %v", text, ok)
		}
		for j, b := range all {
			dists, rats, oks := distCalls(a, b, numbers[(i+j)%len(numbers)], ints[(i*7+j)%len(ints)])
			for name, d := range dists {
				if oks[name] != impl.IsValidDist(d) && len(d.Points) > 0 || !oks[name] && d.Points != nil {
					t.Errorf("%s of cases %d and %d: %+v %v", name, i, j, d, oks[name])
				}
			}
			for name, r := range rats {
				if oks[name] != impl.IsValidRat(r) || !oks[name] && r != (impl.Rat{}) {
					t.Errorf("%s of cases %d and %d: %+v %v", name, i, j, r, oks[name])
				}
			}
		}
	}
	for _, values := range [][]int{nil, {}, {0}, {1001}, {-1001}, ints, make([]int, 61)} {
		for _, weights := range [][]int{nil, {}, {0}, {1}, {1001}, ints, make([]int, 61)} {
			if d, ok := impl.FromWeights(values, weights); !impl.IsValidDist(d) || ok != (len(d.Points) > 0) {
				t.Errorf("weights: %+v %v", d, ok)
			}
		}
	}
}

// spared returns a Dist with the same points and others in the spare capacity behind them, and the whole array.
func spared(d impl.Dist) (impl.Dist, []impl.Point) {
	array := append(slices.Clone(d.Points), impl.Point{Value: 5, Mass: impl.Rat{Num: "1", Den: "7"}}, impl.Point{Value: -9999})
	return impl.Dist{Points: array[:len(d.Points)]}, array
}

func TestPromise33DistsAreNeitherModifiedNorShared(t *testing.T) {
	all := append(validDists(t), invalidDists(t)[:30]...)
	for i, a := range all {
		for j, b := range all {
			p := rat(t, []string{"0", "1", "1/2", "1/3"}[(i+j)%4])
			x, xArray := spared(a)
			y, yArray := spared(b)
			xBefore, yBefore := slices.Clone(xArray), slices.Clone(yArray)
			impl.IsValidDist(x)
			impl.FormatDist(x)
			dists, rats, oks := distCalls(x, y, p, 1)
			for _, d := range dists {
				full := d.Points[:cap(d.Points)]
				for k := range full {
					full[k] = impl.Point{Value: 1234}
				}
			}
			if !slices.Equal(xArray, xBefore) || !slices.Equal(yArray, yBefore) {
				t.Fatalf("cases %d and %d: an argument was modified, or a result shares its memory", i, j)
			}
			again, ratsAgain, oksAgain := distCalls(a, b, p, 1)
			twice, _, _ := distCalls(x, y, p, 1)
			if !maps.EqualFunc(again, twice, equalDists) || !maps.Equal(rats, ratsAgain) || !maps.Equal(oks, oksAgain) {
				t.Fatalf("cases %d and %d: the results depend on more than the arguments", i, j)
			}
		}
	}
}

func TestPromise33ListsOfWeightsAreNotModified(t *testing.T) {
	values, weights := []int{3, 0, 1, 0, 777, 888}, []int{1, 2, 2, 1, 555, 0}
	valuesBefore, weightsBefore := slices.Clone(values), slices.Clone(weights)
	for range 3 {
		d, ok := impl.FromWeights(values[:4], weights[:4])
		expectDist(t, "example", d, ok, exampleText)
		d.Points[0] = impl.Point{}
		d, ok = impl.FromWeights(values, weights)
		expectDist(t, "weight 0", d, ok, fails)
	}
	if !slices.Equal(values, valuesBefore) || !slices.Equal(weights, weightsBefore) {
		t.Errorf("modified: %v %v", values, weights)
	}
}
