package impl

import (
	"math/big"
	"math/rand"
	"testing"
)

// edgeWords are words on which carries, borrows and quotient estimates are most likely to go wrong.
var edgeWords = []uint64{0, 1, 2, 1<<32 - 1, 1 << 32, 1<<63 - 1, 1 << 63, 1<<63 + 1, 1<<64 - 2, 1<<64 - 1}

func randomNatural(source *rand.Rand, words int) natural {
	n := make(natural, source.Intn(words+1))
	for i := range n {
		n[i] = source.Uint64()
		if source.Intn(2) == 0 {
			n[i] = edgeWords[source.Intn(len(edgeWords))]
		}
	}
	return trimmed(n)
}

func bigOfNatural(n natural) *big.Int {
	sum := new(big.Int)
	for i := len(n) - 1; i >= 0; i-- {
		sum.Lsh(sum, 64)
		sum.Or(sum, new(big.Int).SetUint64(n[i]))
	}
	return sum
}

func expectNatural(t *testing.T, what string, got natural, want *big.Int) {
	t.Helper()
	if len(got) > 0 && got[len(got)-1] == 0 {
		t.Fatalf("%s: leading zero in %v", what, got)
	}
	if bigOfNatural(got).Cmp(want) != 0 {
		t.Fatalf("%s: got %v, want %v", what, bigOfNatural(got), want)
	}
}

func TestNaturalsAgreeWithBigInts(t *testing.T) {
	source := rand.New(rand.NewSource(1))
	for range 20000 {
		a, b := randomNatural(source, 12), randomNatural(source, 8)
		x, y := bigOfNatural(a), bigOfNatural(b)
		if got, want := compareNaturals(a, b), x.Cmp(y); got != want {
			t.Fatalf("compare %v %v: got %d, want %d", x, y, got, want)
		}
		if got := decimalOfNatural(a); got != x.String() {
			t.Fatalf("decimal of %v: got %s", x, got)
		}
		expectNatural(t, "sum", addNaturals(a, b), new(big.Int).Add(x, y))
		expectNatural(t, "product", multiplyNaturals(a, b), new(big.Int).Mul(x, y))
		expectNatural(t, "divisor", gcdNaturals(a, b), new(big.Int).GCD(nil, nil, x, y))
		if x.Cmp(y) >= 0 {
			expectNatural(t, "difference", subtractNaturals(a, b), new(big.Int).Sub(x, y))
		}
		if len(b) > 0 {
			quotient, rest := divideNaturals(a, b)
			wantQuotient, wantRest := new(big.Int).QuoRem(x, y, new(big.Int))
			expectNatural(t, "quotient", quotient, wantQuotient)
			expectNatural(t, "rest", rest, wantRest)
		}
		expectNatural(t, "first operand afterwards", a, x)
		expectNatural(t, "second operand afterwards", b, y)
	}
}

func TestExactQuotientsOfProducts(t *testing.T) {
	source := rand.New(rand.NewSource(2))
	for range 20000 {
		a, b := randomNatural(source, 9), randomNatural(source, 9)
		if len(b) > 0 {
			expectNatural(t, "quotient", exactQuotient(multiplyNaturals(a, b), b), bigOfNatural(a))
		}
	}
}

func TestCommonDivisorsOfMultiples(t *testing.T) {
	source := rand.New(rand.NewSource(3))
	for range 5000 {
		a, b, c := randomNatural(source, 9), randomNatural(source, 9), randomNatural(source, 9)
		x, y := multiplyNaturals(a, c), multiplyNaturals(b, c)
		want := new(big.Int).GCD(nil, nil, bigOfNatural(x), bigOfNatural(y))
		expectNatural(t, "divisor", gcdNaturals(x, y), want)
	}
}

// Neighbouring Fibonacci numbers take the most steps of Euclid's algorithm for their size.
func TestCommonDivisorsOfFibonacciNumbers(t *testing.T) {
	a, b := natural{1}, natural{1}
	for range 2000 {
		if !gcdNaturals(a, b).isOne() {
			t.Fatalf("%v and %v have a common divisor", a, b)
		}
		a, b = b, addNaturals(a, b)
	}
}

func TestLongNaturals(t *testing.T) {
	source := rand.New(rand.NewSource(4))
	for range 20 {
		a, b, c := randomNatural(source, 400), randomNatural(source, 300), randomNatural(source, 200)
		x, y := multiplyNaturals(a, c), multiplyNaturals(b, c)
		want := new(big.Int).GCD(nil, nil, bigOfNatural(x), bigOfNatural(y))
		expectNatural(t, "divisor", gcdNaturals(x, y), want)
		expectNatural(t, "product", x, new(big.Int).Mul(bigOfNatural(a), bigOfNatural(c)))
	}
}
