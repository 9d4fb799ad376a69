package tests

import (
	"fmt"
	"math/big"
	"strings"
	"testing"

	"loop.example/g00893/impl"
)

// atLimit and beyondLimit are two probabilities whose product has a denominator of 120 and of 121 digits.
var atLimit, beyondLimit = "1/" + limitDen + " 1/" + lastDen, "1/" + limitDen + " 1/" + firstBeyond

// productOf returns the text of the product of numbers.
func productOf(t *testing.T, numbers string) string {
	t.Helper()
	product := big.NewRat(1, 1)
	for _, x := range strings.Fields(numbers) {
		factor, _ := new(big.Rat).SetString(x)
		product.Mul(product, factor)
	}
	return product.RatString()
}

const bothOfTwo, allOfThree = "2 3; 1?1:0; 0?2:0", "3 4; 2?1:0; 1?2:0; 0?3:0"

func TestCountsAtTheLimit(t *testing.T) {
	count, ok := impl.WeightedCount(diagram(t, bothOfTwo), chancesOf(t, atLimit).rats())
	expectRat(t, "at the limit", count, ok, productOf(t, atLimit))
	if len(count.Den) != 120 {
		t.Errorf("%d digits", len(count.Den))
	}
	count, ok = impl.WeightedCount(diagram(t, bothOfTwo), chancesOf(t, beyondLimit).rats())
	expectRat(t, "beyond the limit", count, ok, "")
	slopes, ok := impl.CountGradient(diagram(t, bothOfTwo), chancesOf(t, beyondLimit).rats())
	expectRats(t, "gradient of a count beyond the limit", slopes, ok, "1/"+firstBeyond+" 1/"+limitDen)
	bits, prob, ok := impl.MostProbable(diagram(t, bothOfTwo), chancesOf(t, atLimit).rats())
	expectMost(t, "at the limit", bits, prob, ok, "11", productOf(t, atLimit))
	bits, prob, ok = impl.MostProbable(diagram(t, bothOfTwo), chancesOf(t, beyondLimit).rats())
	expectMost(t, "beyond the limit", bits, prob, ok, "", fails)
	bits, prob, ok = impl.MostProbable(diagram(t, "2 1"), chancesOf(t, beyondLimit).rats())
	expectMost(t, "a product that is shortened", bits, prob, ok, "00", nines(60)+"/"+firstBeyond)
	share, ok := impl.ConditionalCount(diagram(t, bothOfTwo), diagram(t, "2 1"), chancesOf(t, atLimit).rats())
	expectRat(t, "at the limit", share, ok, productOf(t, atLimit))
	share, ok = impl.ConditionalCount(diagram(t, bothOfTwo), diagram(t, "2 1"), chancesOf(t, beyondLimit).rats())
	expectRat(t, "beyond the limit", share, ok, "")
}

// TestGradientsAtTheLimit has the limit at each level, while the other derivatives are within it.
func TestGradientsAtTheLimit(t *testing.T) {
	for at := range 3 {
		for _, pair := range []string{atLimit, beyondLimit} {
			numbers := strings.Fields(pair)
			list := []string{numbers[0], numbers[1]}
			list = append(list[:at], append([]string{"0"}, list[at:]...)...)
			probs := chancesOf(t, strings.Join(list, " ")).rats()
			count, ok := impl.WeightedCount(diagram(t, allOfThree), probs)
			expectRat(t, "count", count, ok, "0")
			wanted := []string{"0", "0", "0"}
			wanted[at] = productOf(t, pair)
			text := strings.Join(wanted, " ")
			if pair == beyondLimit {
				text = fails
			}
			slopes, ok := impl.CountGradient(diagram(t, allOfThree), probs)
			expectRats(t, fmt.Sprint("gradient at ", at), slopes, ok, text)
		}
	}
}

// TestLongIntermediateCounts has results within the limit that need numbers beyond it.
func TestLongIntermediateCounts(t *testing.T) {
	for _, c := range []struct{ diagram, probs, count, gradient string }{
		// The children are opposite to each other, which makes the last derivatives 0.
		{"3 6; 2?1:0; 1?2:0; 2?0:1; 1?4:1; 0?5:3", "1/2 1/" + firstBeyond + " 1/" + firstBeyond, "1/2", fails}, {"3 5; 2?1:0; 1?2:0; 1?1:2; 0?4:3", "0 " + beyondLimit, "", fails},
		{allOfThree, "0 " + beyondLimit, "0", fails}, {allOfThree, "1/" + limitDen + " 0 1/" + firstBeyond, "0", fails},
		{allOfThree, productOf(t, atLimit) + " 0 0", "0", "0 0 0"}, {"2 4; 1?1:0; 1?0:1; 0?3:2", "1/2 " + "1/" + nines(120), "1/2", productOf(t, "1/"+nines(120)+" "+sumText(t, nines(120), "-2")) + " 0"},
	} {
		probs := chancesOf(t, c.probs).rats()
		count, ok := impl.WeightedCount(diagram(t, c.diagram), probs)
		expectRat(t, c.diagram, count, ok, c.count)
		slopes, ok := impl.CountGradient(diagram(t, c.diagram), probs)
		expectRats(t, "gradient of "+c.diagram, slopes, ok, c.gradient)
	}
	for _, c := range []struct{ query, given, share string }{{bothOfTwo, bothOfTwo, "1"}, {bothOfTwo, "2 2; 0?1:0", "1/" + firstBeyond}, {bothOfTwo, "2 2; 1?1:0", "1/" + limitDen}, {"2 3; 1?0:1; 0?2:0", bothOfTwo, "0"}, {"2 2; 0?0:1", bothOfTwo, "0"}} {
		share, ok := impl.ConditionalCount(diagram(t, c.query), diagram(t, c.given), chancesOf(t, beyondLimit).rats())
		expectRat(t, c.query+" given "+c.given, share, ok, c.share)
	}
}

// TestLongIntermediateProbabilities has two levels with the probabilities 1 - u/v and 1 - v/w for numbers u, v and w of 101
// or 102 digits, so that u/w is the only product that is not much longer.
func TestLongIntermediateProbabilities(t *testing.T) {
	u, v, w := "7"+zeros(100), nines(101), "12"+zeros(99)+"7"
	probs := chancesOf(t, sumText(t, "1", "-"+u+"/"+v)+" "+sumText(t, "1", "-"+v+"/"+w)).rats()
	bits, prob, ok := impl.MostProbable(diagram(t, "2 1"), probs)
	expectMost(t, "any", bits, prob, ok, "00", sumText(t, u+"/"+w))
	bits, prob, ok = impl.MostProbable(diagram(t, "2 3; 1?1:0; 0?1:2"), probs)
	expectMost(t, "one", bits, prob, ok, "10", sumText(t, v+"/"+w, "-"+u+"/"+w))
	bits, prob, ok = impl.MostProbable(diagram(t, "2 2; 1?1:0"), probs)
	expectMost(t, "the last one", bits, prob, ok, "", fails)
}
