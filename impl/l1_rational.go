package impl

import (
	"math/bits"
	"slices"
	"strconv"
	"strings"
)

// MaxDigits is the maximum number of decimal digits of a numerator or denominator.
const MaxDigits = 120

const (
	maxSummands = 1000
	maxExponent = 200
	maxDecimals = 50
)

// Rat is a rational number in lowest terms. Num and Den are decimal numerals
// without leading zeros, and Den is not "0". Zero is {false, "0", "1"}.
type Rat struct {
	Neg bool
	Num string
	Den string
}

// IsValidRat reports whether a rational number is valid.
func IsValidRat(r Rat) bool {
	_, ok := fractionOfRat(r)
	return ok
}

// RatOf returns num/den in lowest terms, and false if den is 0.
func RatOf(num int, den int) (Rat, bool) {
	if den == 0 {
		return Rat{}, false
	}
	return ratOfFraction(fractionOfInts(num, den))
}

// AddRat returns a + b.
func AddRat(a Rat, b Rat) (Rat, bool) {
	x, y, ok := fractionsOfRats(a, b)
	if !ok {
		return Rat{}, false
	}
	return ratOfFraction(addFractions(x, y))
}

// SubRat returns a - b.
func SubRat(a Rat, b Rat) (Rat, bool) {
	x, y, ok := fractionsOfRats(a, b)
	if !ok {
		return Rat{}, false
	}
	return ratOfFraction(subtractFractions(x, y))
}

// MulRat returns a * b.
func MulRat(a Rat, b Rat) (Rat, bool) {
	x, y, ok := fractionsOfRats(a, b)
	if !ok {
		return Rat{}, false
	}
	return ratOfFraction(multiplyFractions(x, y))
}

// DivRat returns a / b, and false if b is zero.
func DivRat(a Rat, b Rat) (Rat, bool) {
	x, y, ok := fractionsOfRats(a, b)
	if !ok || y.isZero() {
		return Rat{}, false
	}
	return ratOfFraction(multiplyFractions(x, invertFraction(y)))
}

// CompareRat returns -1, 0 or 1 if a is less than, equal to or greater than b.
func CompareRat(a Rat, b Rat) (int, bool) {
	x, y, ok := fractionsOfRats(a, b)
	if !ok {
		return 0, false
	}
	return compareFractions(x, y), true
}

// SumRats returns the sum of a list of at most 1000 rational numbers, 0 for the empty list.
// Only the sum itself is limited to MaxDigits digits.
func SumRats(list []Rat) (Rat, bool) {
	if len(list) > maxSummands {
		return Rat{}, false
	}
	summands := make([]fraction, len(list))
	for i, r := range list {
		f, ok := fractionOfRat(r)
		if !ok {
			return Rat{}, false
		}
		summands[i] = f
	}
	return ratOfFraction(sumFractions(summands))
}

// PowRat returns r to the power n, for n from 0 to 200; the power 0 of every number is 1.
func PowRat(r Rat, n int) (Rat, bool) {
	f, ok := fractionOfRat(r)
	if !ok || n < 0 || n > maxExponent {
		return Rat{}, false
	}
	num, numOk := boundedPower(f.num, n)
	den, denOk := boundedPower(f.den, n)
	if !numOk || !denOk {
		return Rat{}, false
	}
	return ratOfFraction(fraction{neg: f.neg && n%2 == 1, num: num, den: den})
}

// FormatRat returns the decimal numerator, preceded by "-" if the number is negative, and,
// if the denominator is not 1, "/" and the denominator.
func FormatRat(r Rat) (string, bool) {
	if !IsValidRat(r) {
		return "", false
	}
	var text strings.Builder
	if r.Neg {
		text.WriteByte('-')
	}
	text.WriteString(r.Num)
	if r.Den != "1" {
		text.WriteByte('/')
		text.WriteString(r.Den)
	}
	return text.String(), true
}

// ParseRat returns the valid rational number whose FormatRat is s, or false if there is none.
func ParseRat(s string) (Rat, bool) {
	unsigned, neg := strings.CutPrefix(s, "-")
	num, den, divided := strings.Cut(unsigned, "/")
	if !divided {
		den = "1"
	} else if den == "1" {
		return Rat{}, false
	}
	if !IsValidRat(Rat{Neg: neg, Num: num, Den: den}) {
		return Rat{}, false
	}
	return Rat{Neg: neg, Num: strings.Clone(num), Den: strings.Clone(den)}, true
}

// DecimalOf returns the number as a decimal fraction with digits digits after the point,
// 0 to 50, rounded toward zero; without a point if digits is 0. A negative number keeps
// its "-" even if all digits are zero.
func DecimalOf(r Rat, digits int) (string, bool) {
	f, ok := fractionOfRat(r)
	if !ok || digits < 0 || digits > maxDecimals {
		return "", false
	}
	scale, _ := boundedPower(natural{10}, digits)
	scaled, _ := divideNaturals(multiplyNaturals(f.num, scale), f.den)
	numeral := decimalOfNatural(scaled)
	numeral = strings.Repeat("0", max(0, digits+1-len(numeral))) + numeral
	point := len(numeral) - digits
	text := numeral[:point]
	if digits > 0 {
		text += "." + numeral[point:]
	}
	if f.neg {
		text = "-" + text
	}
	return text, true
}

// fraction is a rational number of any size in lowest terms. den is positive, and zero is
// not negative. Intermediate results are fractions, because only results are limited.
type fraction struct {
	neg bool
	num natural
	den natural
}

func (f fraction) isZero() bool { return len(f.num) == 0 }

// fractionOfRat reads a Rat and reports whether it is valid.
func fractionOfRat(r Rat) (fraction, bool) {
	num, numOk := blockOfNumeral(r.Num)
	den, denOk := blockOfNumeral(r.Den)
	if !numOk || !denOk || den == (block{}) {
		return fraction{}, false
	}
	if num == (block{}) && (r.Neg || den != unitBlock) {
		return fraction{}, false
	}
	f := fraction{neg: r.Neg, num: num.natural(), den: den.natural()}
	if den != unitBlock && !gcdNaturals(f.num, f.den).isOne() {
		return fraction{}, false
	}
	return f, true
}

func fractionsOfRats(a, b Rat) (fraction, fraction, bool) {
	x, xOk := fractionOfRat(a)
	y, yOk := fractionOfRat(b)
	return x, y, xOk && yOk
}

// fractionOfInts returns num/den; den must not be 0.
func fractionOfInts(num, den int) fraction {
	a, b := magnitude(num), magnitude(den)
	g := gcdWords(a, b)
	return fraction{
		neg: num != 0 && (num < 0) != (den < 0),
		num: naturalOfWord(a / g),
		den: naturalOfWord(b / g),
	}
}

// magnitude returns the absolute value, which for the least int fits no int.
func magnitude(n int) uint64 {
	if n < 0 {
		return -uint64(n)
	}
	return uint64(n)
}

// ratOfFraction writes a fraction as a Rat and reports whether it meets MaxDigits.
func ratOfFraction(f fraction) (Rat, bool) {
	if len(f.num) > blockWords || len(f.den) > blockWords {
		return Rat{}, false
	}
	num, den := decimalOfNatural(f.num), decimalOfNatural(f.den)
	if len(num) > MaxDigits || len(den) > MaxDigits {
		return Rat{}, false
	}
	return Rat{Neg: f.neg, Num: num, Den: den}, true
}

// addFractions reduces by divisors of the two denominators' greatest common divisor only,
// because the sum over their least common multiple has no other divisors to lose.
func addFractions(a, b fraction) fraction {
	g := gcdNaturals(a.den, b.den)
	aScale, bScale := exactQuotient(b.den, g), exactQuotient(a.den, g)
	x, y := multiplyNaturals(a.num, aScale), multiplyNaturals(b.num, bScale)
	neg, num := addSigned(a.neg, x, b.neg, y)
	if len(num) == 0 {
		return fraction{den: natural{1}}
	}
	g = gcdNaturals(num, g)
	return fraction{
		neg: neg,
		num: exactQuotient(num, g),
		den: multiplyNaturals(bScale, exactQuotient(b.den, g)),
	}
}

// addSigned adds two numbers given by sign and magnitude; the sign of a zero sum has no meaning.
func addSigned(aNeg bool, a natural, bNeg bool, b natural) (bool, natural) {
	if aNeg == bNeg {
		return aNeg, addNaturals(a, b)
	}
	if compareNaturals(a, b) < 0 {
		return bNeg, subtractNaturals(b, a)
	}
	return aNeg, subtractNaturals(a, b)
}

func subtractFractions(a, b fraction) fraction { return addFractions(a, negateFraction(b)) }

func negateFraction(f fraction) fraction {
	f.neg = !f.neg && !f.isZero()
	return f
}

// invertFraction returns 1/f; f must not be zero.
func invertFraction(f fraction) fraction {
	return fraction{neg: f.neg, num: f.den, den: f.num}
}

func multiplyFractions(a, b fraction) fraction {
	g, h := gcdNaturals(a.num, b.den), gcdNaturals(b.num, a.den)
	return fraction{
		neg: a.neg != b.neg && !a.isZero() && !b.isZero(),
		num: multiplyNaturals(exactQuotient(a.num, g), exactQuotient(b.num, h)),
		den: multiplyNaturals(exactQuotient(a.den, h), exactQuotient(b.den, g)),
	}
}

func compareFractions(a, b fraction) int {
	if a.neg != b.neg {
		if a.neg {
			return -1
		}
		return 1
	}
	order := compareNaturals(multiplyNaturals(a.num, b.den), multiplyNaturals(b.num, a.den))
	if a.neg {
		return -order
	}
	return order
}

// sumFractions adds halves, so that the large denominators of a long list meet only in the
// last few additions.
func sumFractions(list []fraction) fraction {
	switch len(list) {
	case 0:
		return fraction{den: natural{1}}
	case 1:
		return list[0]
	}
	half := len(list) / 2
	return addFractions(sumFractions(list[:half]), sumFractions(list[half:]))
}

// blockWords is large enough for MaxDigits decimal digits: 10^120 < 2^448.
const blockWords = 7

// block holds the number of a numeral of at most MaxDigits digits in words of 64 bits, the
// least significant first. It is an array so that numbers are compared as values.
type block [blockWords]uint64

var unitBlock = block{1}

const (
	chunkDigits = 19
	// chunkBase is the greatest power of 10 that fits a word, 10^chunkDigits.
	chunkBase = 10000000000000000000
)

// blockOfNumeral reads a decimal numeral of at most MaxDigits digits without leading zeros.
func blockOfNumeral(numeral string) (block, bool) {
	if !isNumeral(numeral) {
		return block{}, false
	}
	var b block
	for start := 0; start < len(numeral); start += chunkDigits {
		chunk, scale := uint64(0), uint64(1)
		for i := start; i < min(start+chunkDigits, len(numeral)); i++ {
			chunk = chunk*10 + uint64(numeral[i]-'0')
			scale *= 10
		}
		b = b.scaledPlus(scale, chunk)
	}
	return b, true
}

func isNumeral(text string) bool {
	if text == "" || len(text) > MaxDigits || text[0] == '0' && text != "0" {
		return false
	}
	for i := range len(text) {
		if !isDigit(text[i]) {
			return false
		}
	}
	return true
}

// scaledPlus returns b*scale + plus, which must fit a block.
func (b block) scaledPlus(scale, plus uint64) block {
	for i, word := range b {
		b[i], plus = multiplyAdd(word, scale, plus)
	}
	return b
}

func (b block) natural() natural { return slices.Clone(trimmed(b[:])) }

// natural is a natural number of any size in words of 64 bits, the least significant first
// and the last one not 0. Naturals share memory and are not modified once they are made.
type natural []uint64

func (n natural) isOne() bool { return len(n) == 1 && n[0] == 1 }

func naturalOfWord(word uint64) natural { return trimmed(natural{word}) }

// trimmed returns n without leading zeros, in the same memory.
func trimmed(n natural) natural {
	for len(n) > 0 && n[len(n)-1] == 0 {
		n = n[:len(n)-1]
	}
	return n
}

// padded returns n with leading zeros up to length words, in new memory if it is shorter.
func padded(n natural, length int) natural {
	if len(n) == length {
		return n
	}
	wide := make(natural, length)
	copy(wide, n)
	return wide
}

// decimalOfNatural returns the decimal numeral of n.
func decimalOfNatural(n natural) string {
	var chunks []uint64
	for len(n) > 1 || len(n) == 1 && n[0] >= chunkBase {
		var chunk uint64
		n, chunk = divideByWord(n, chunkBase)
		chunks = append(chunks, chunk)
	}
	first := uint64(0)
	if len(n) == 1 {
		first = n[0]
	}
	text := strconv.AppendUint(nil, first, 10)
	for _, chunk := range slices.Backward(chunks) {
		digits := strconv.FormatUint(chunk, 10)
		text = append(text, strings.Repeat("0", chunkDigits-len(digits))...)
		text = append(text, digits...)
	}
	return string(text)
}

func compareNaturals(a, b natural) int {
	if len(a) != len(b) {
		if len(a) < len(b) {
			return -1
		}
		return 1
	}
	for i := len(a) - 1; i >= 0; i-- {
		if a[i] != b[i] {
			if a[i] < b[i] {
				return -1
			}
			return 1
		}
	}
	return 0
}

func addNaturals(a, b natural) natural {
	if len(a) < len(b) {
		a, b = b, a
	}
	sum := make(natural, len(a)+1)
	copy(sum, a)
	addInto(sum, b)
	return trimmed(sum)
}

// addInto adds b to the words of a and returns the carry out of the last one.
func addInto(a, b natural) uint64 {
	carry := uint64(0)
	for i, word := range b {
		a[i], carry = bits.Add64(a[i], word, carry)
	}
	for i := len(b); carry != 0 && i < len(a); i++ {
		a[i], carry = bits.Add64(a[i], 0, carry)
	}
	return carry
}

// subtractNaturals returns a - b; b must not be greater than a.
func subtractNaturals(a, b natural) natural {
	rest := slices.Clone(a)
	subtractMultiple(rest, b, 1)
	return trimmed(rest)
}

// subtractMultiple subtracts factor*b from the words of a and returns what it had to
// borrow beyond the last one.
func subtractMultiple(a, b natural, factor uint64) uint64 {
	carry, borrow := uint64(0), uint64(0)
	for i, word := range b {
		var part uint64
		part, carry = multiplyAdd(word, factor, carry)
		a[i], borrow = bits.Sub64(a[i], part, borrow)
	}
	for i := len(b); i < len(a) && (carry != 0 || borrow != 0); i++ {
		a[i], borrow = bits.Sub64(a[i], carry, borrow)
		carry = 0
	}
	return carry + borrow
}

// multiplyAdd returns the low and the high word of x*y + plus.
func multiplyAdd(x, y, plus uint64) (uint64, uint64) {
	high, low := bits.Mul64(x, y)
	low, carry := bits.Add64(low, plus, 0)
	return low, high + carry
}

func multiplyNaturals(a, b natural) natural {
	if a.isOne() {
		return b
	}
	if b.isOne() {
		return a
	}
	product := make(natural, len(a)+len(b))
	for i, factor := range a {
		row, carry := product[i:i+len(b)], uint64(0)
		for j, word := range b {
			low, high := multiplyAdd(word, factor, carry)
			var over uint64
			row[j], over = bits.Add64(row[j], low, 0)
			carry = high + over
		}
		product[i+len(b)] = carry
	}
	return trimmed(product)
}

// boundedPower returns base to the power exponent, and false if it fits no block.
func boundedPower(base natural, exponent int) (natural, bool) {
	power := natural{1}
	for range exponent {
		power = multiplyNaturals(power, base)
		if len(power) > blockWords {
			return nil, false
		}
	}
	return power, true
}

// exactQuotient returns a / b, where b divides a.
func exactQuotient(a, b natural) natural {
	if b.isOne() {
		return a
	}
	quotient, _ := divideNaturals(a, b)
	return quotient
}

// divideNaturals returns the quotient and the remainder of a by b, which is not 0, by long
// division in base 2^64.
func divideNaturals(a, b natural) (natural, natural) {
	if compareNaturals(a, b) < 0 {
		return nil, a
	}
	if len(b) == 1 {
		quotient, rest := divideByWord(a, b[0])
		return quotient, naturalOfWord(rest)
	}
	// The estimates of divideStep need a divisor whose highest bit is set.
	shift := bits.LeadingZeros64(b[len(b)-1])
	divisor, rest := trimmed(shiftedLeft(b, shift)), shiftedLeft(a, shift)
	quotient := make(natural, len(rest)-len(divisor))
	for i := len(quotient) - 1; i >= 0; i-- {
		quotient[i] = divideStep(rest[i:i+len(divisor)+1], divisor)
	}
	return trimmed(quotient), trimmed(shiftedRight(rest[:len(divisor)], shift))
}

// divideStep divides the window, one word longer than the divisor, by the divisor, leaves
// the remainder in it and returns the quotient, which must fit a word.
func divideStep(window, divisor natural) uint64 {
	n := len(divisor)
	guess := uint64(1<<64 - 1)
	if top := divisor[n-1]; window[n] < top {
		var rest uint64
		guess, rest = bits.Div64(window[n], window[n-1], top)
		high, low := bits.Mul64(guess, divisor[n-2])
		for high > rest || high == rest && low > window[n-2] {
			guess--
			rest += top
			if rest < top {
				break
			}
			high, low = bits.Mul64(guess, divisor[n-2])
		}
	}
	debt := subtractMultiple(window, divisor, guess)
	for debt != 0 {
		guess--
		debt -= addInto(window, divisor)
	}
	return guess
}

// divideByWord returns the quotient and the remainder of n by a word, which is not 0.
func divideByWord(n natural, word uint64) (natural, uint64) {
	quotient, rest := make(natural, len(n)), uint64(0)
	for i := len(n) - 1; i >= 0; i-- {
		quotient[i], rest = bits.Div64(rest, n[i], word)
	}
	return trimmed(quotient), rest
}

// shiftedLeft returns n * 2^shift, for a shift below 64, with one more word than n.
func shiftedLeft(n natural, shift int) natural {
	wide, carry := make(natural, len(n)+1), uint64(0)
	for i, word := range n {
		wide[i] = word<<shift | carry
		carry = word >> (64 - shift)
	}
	wide[len(n)] = carry
	return wide
}

// shiftedRight returns n / 2^shift, for a shift below 64, with as many words as n.
func shiftedRight(n natural, shift int) natural {
	narrow, carry := make(natural, len(n)), uint64(0)
	for i := len(n) - 1; i >= 0; i-- {
		narrow[i] = n[i]>>shift | carry
		carry = n[i] << (64 - shift)
	}
	return narrow
}

// gcdNaturals returns the greatest common divisor, by Lehmer's form of Euclid's algorithm:
// most steps are computed on the leading words alone and then applied together.
func gcdNaturals(a, b natural) natural {
	if compareNaturals(a, b) < 0 {
		a, b = b, a
	}
	if len(b) > 1 {
		a, b = slices.Clone(a), slices.Clone(b)
	}
	for len(b) > 1 {
		b = padded(b, len(a))
		if s := leadingSteps(a, b); s.v0 != 0 {
			s.apply(a, b)
			a, b = trimmed(a), trimmed(b)
			continue
		}
		b = trimmed(b)
		_, rest := divideNaturals(a, b)
		a, b = b, rest
	}
	if len(b) == 0 {
		return a
	}
	if len(a) > 1 {
		_, rest := divideByWord(a, b[0])
		return naturalOfWord(gcdWords(b[0], rest))
	}
	return naturalOfWord(gcdWords(a[0], b[0]))
}

// euclidSteps stands for several steps of Euclid's algorithm. They turn a and b into
// u0*a - v0*b and v1*b - u1*a, or into the negatives of these.
type euclidSteps struct {
	u0, v0  uint64
	u1, v1  uint64
	negated bool
}

// leadingSteps returns the steps that the leading 64 bits of a and b, of the same number of
// words, determine whatever bits follow (Collins' condition); if there are none, v0 is 0.
func leadingSteps(a, b natural) euclidSteps {
	n := len(a)
	shift := bits.LeadingZeros64(a[n-1])
	x := a[n-1]<<shift | a[n-2]>>(64-shift)
	y := b[n-1]<<shift | b[n-2]>>(64-shift)
	s := euclidSteps{u1: 1, negated: true}
	u, v := uint64(0), uint64(1)
	for y >= v && x-y >= s.v1+v {
		q := x / y
		x, y = y, x%y
		s = euclidSteps{u0: s.u1, v0: s.v1, u1: u, v1: v, negated: !s.negated}
		u, v = s.u0+q*u, s.v0+q*v
	}
	return s
}

// apply performs the steps on a and b in place.
func (s euclidSteps) apply(a, b natural) {
	if s.negated {
		s.u0, s.v0, s.u1, s.v1 = s.v0, s.u0, s.v1, s.u1
	}
	var pCarry, qCarry, rCarry, sCarry, aBorrow, bBorrow uint64
	for i := range a {
		x, y := a[i], b[i]
		if s.negated {
			x, y = y, x
		}
		var p, q uint64
		p, pCarry = multiplyAdd(x, s.u0, pCarry)
		q, qCarry = multiplyAdd(y, s.v0, qCarry)
		a[i], aBorrow = bits.Sub64(p, q, aBorrow)
		p, rCarry = multiplyAdd(y, s.v1, rCarry)
		q, sCarry = multiplyAdd(x, s.u1, sCarry)
		b[i], bBorrow = bits.Sub64(p, q, bBorrow)
	}
}

// gcdWords returns the greatest common divisor by halving and subtracting.
func gcdWords(a, b uint64) uint64 {
	if a == 0 || b == 0 {
		return a | b
	}
	shift := bits.TrailingZeros64(a | b)
	a >>= bits.TrailingZeros64(a)
	for b != 0 {
		b >>= bits.TrailingZeros64(b)
		a, b = min(a, b), max(a, b)-min(a, b)
	}
	return a << shift
}
