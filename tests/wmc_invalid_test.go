package tests

import (
	"fmt"
	"slices"
	"testing"

	"loop.example/g00893/impl"
)

// expectNoCounts checks that all functions of chapter 11 that take a diagram and probabilities fail.
func expectNoCounts(t *testing.T, what string, d impl.Diagram, probs []impl.Rat) {
	t.Helper()
	count, ok := impl.WeightedCount(d, probs)
	expectRat(t, what+": count", count, ok, "")
	slopes, ok := impl.CountGradient(d, probs)
	expectRats(t, what+": gradient", slopes, ok, fails)
	bits, prob, ok := impl.MostProbable(d, probs)
	expectMost(t, what+": most probable", bits, prob, ok, "", fails)
	for _, other := range []impl.Diagram{d, {Levels: d.Levels}, {Levels: d.Levels, Root: 1}, {Levels: len(probs), Root: 1}, diagram(t, "3 2; 1?1:0")} {
		share, ok := impl.ConditionalCount(d, other, probs)
		expectRat(t, what+": conditional", share, ok, "")
		share, ok = impl.ConditionalCount(other, d, probs)
		expectRat(t, what+": condition", share, ok, "")
	}
}

func TestCountsOfInvalidDiagrams(t *testing.T) {
	for what, text := range invalidDiagrams() {
		d := diagram(t, text)
		for _, levels := range []int{0, 1, 2, 3, 10, 11} {
			expectNoCounts(t, what, d, slices.Repeat(chancesOf(t, "1/2"), levels).rats())
		}
		for levels := range 4 {
			moved, ok := impl.ReorderLevels(d, forward(levels))
			expectDiagram(t, what, moved, ok, "")
		}
		order, nodes, ok := impl.BestOrder(d)
		expectList(t, what, order, ok, nil)
		expectInt(t, what, nodes, ok, -1)
	}
}

func TestZeroValuesOfCounting(t *testing.T) {
	count, ok := impl.WeightedCount(impl.Diagram{}, nil)
	expectRat(t, "the zero diagram", count, ok, "0")
	slopes, ok := impl.CountGradient(impl.Diagram{}, []impl.Rat{})
	expectRats(t, "the zero diagram", slopes, ok, "")
	bits, prob, ok := impl.MostProbable(impl.Diagram{}, nil)
	expectMost(t, "the zero diagram", bits, prob, ok, "", fails)
	share, ok := impl.ConditionalCount(impl.Diagram{}, impl.Diagram{}, nil)
	expectRat(t, "the zero diagram", share, ok, "")
	share, ok = impl.ConditionalCount(impl.Diagram{}, impl.Diagram{Root: 1}, nil)
	expectRat(t, "the zero diagram given true", share, ok, "0")
	moved, ok := impl.ReorderLevels(impl.Diagram{}, nil)
	expectDiagram(t, "the zero diagram", moved, ok, "0 0")
	order, nodes, ok := impl.BestOrder(impl.Diagram{})
	expectList(t, "the zero diagram", order, ok, []int{})
	expectInt(t, "the zero diagram", nodes, ok, 0)
	expectNoCounts(t, "the zero number", diagram(t, "1 2; 0?1:0"), make([]impl.Rat, 1))
	expectNoCounts(t, "a zero node", impl.Diagram{Levels: 1, Nodes: make([]impl.DiagramNode, 1), Root: 2}, chancesOf(t, "1/2").rats())
}

func TestTooFewOrTooManyProbabilities(t *testing.T) {
	for levels := range 11 {
		for _, root := range []int{0, 1} {
			for _, count := range []int{0, levels - 1, levels + 1, 2 * levels, 11, 1000} {
				if count >= 0 && count != levels {
					expectNoCounts(t, fmt.Sprint(count, " for ", levels), impl.Diagram{Levels: levels, Root: root}, slices.Repeat(chancesOf(t, "1/2"), count).rats())
				}
			}
		}
	}
	expectNoCounts(t, "one for two", diagram(t, bothOfTwo), chancesOf(t, "1/2").rats())
	expectNoCounts(t, "three for two", diagram(t, bothOfTwo), chancesOf(t, "1/2 1/2 1/2").rats())
}

// improbable returns numbers that are no probabilities, although they are valid.
func improbable(t *testing.T) []impl.Rat {
	t.Helper()
	var list []impl.Rat
	for _, text := range []string{"-1", "-1/2", "-1/" + nines(120), "2", "3/2", nines(120) + "/" + nines(119) + "8", nines(120), "-" + nines(120), "7/6"} {
		list = append(list, rat(t, text))
	}
	return list
}

// TestNumbersThatAreNoProbabilities has them at levels on which the functions depend, or do not.
func TestNumbersThatAreNoProbabilities(t *testing.T) {
	for _, r := range append(invalidRats(), improbable(t)...) {
		for _, text := range []string{"3 0", "3 1", "3 2; 0?1:0", "3 2; 1?0:1", "3 2; 2?1:0", allOfThree, "3 6; 2?1:0; 2?0:1; 1?3:2; 1?2:3; 0?5:4"} {
			for at := range 3 {
				for _, other := range []string{"1/2", "0", "1"} {
					probs := slices.Repeat(chancesOf(t, other), 3).rats()
					probs[at] = r
					expectNoCounts(t, fmt.Sprintf("%.50s with %.100v at %d", text, r, at), diagram(t, text), probs)
				}
			}
		}
	}
}

func TestConditionsWithOtherLevels(t *testing.T) {
	for levels := range 11 {
		for others := range 11 {
			for _, count := range []int{levels, others} {
				for query := range 2 {
					share, ok := impl.ConditionalCount(impl.Diagram{Levels: levels, Root: query}, impl.Diagram{Levels: others, Root: 1}, slices.Repeat(chancesOf(t, "1/2"), count).rats())
					wanted := ""
					if levels == others {
						wanted = fmt.Sprint(query)
					}
					expectRat(t, fmt.Sprint(levels, " and ", others, " levels"), share, ok, wanted)
				}
			}
		}
	}
	for _, other := range []string{"1 2; 0?1:0", "3 2; 0?1:0", "10 2; 0?1:0"} {
		for _, count := range []int{1, 2, 3, 10} {
			probs := slices.Repeat(chancesOf(t, "1/2"), count).rats()
			share, ok := impl.ConditionalCount(diagram(t, "2 2; 0?1:0"), diagram(t, other), probs)
			expectRat(t, other, share, ok, "")
			share, ok = impl.ConditionalCount(diagram(t, other), diagram(t, "2 2; 0?1:0"), probs)
			expectRat(t, other, share, ok, "")
		}
	}
}
