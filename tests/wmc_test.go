package tests

import (
	"fmt"
	"math/big"
	"slices"
	"strings"
	"testing"

	"loop.example/g00893/impl"
)

// textOfRats lists numbers, separated by blanks.
func textOfRats(list []impl.Rat) string {
	var texts []string
	for _, r := range list {
		texts = append(texts, textOfRat(r))
	}
	return strings.Join(texts, " ")
}

// expectRats checks a list of numbers; fails means that the call must fail.
func expectRats(t *testing.T, what string, got []impl.Rat, ok bool, wanted string) {
	t.Helper()
	if text := textOfRats(got); wanted == fails && (ok || got != nil) || wanted != fails && (!ok || text != wanted) {
		t.Errorf("%s: got %s %v, want %s", what, text, ok, wanted)
	}
}

// expectBigs checks a list of numbers, which there is if none of them exceeds the limit.
func expectBigs(t *testing.T, what string, got []impl.Rat, ok bool, wanted []*big.Rat) {
	t.Helper()
	var texts []string
	for _, x := range wanted {
		if _, ok := ratOfBig(x); !ok {
			expectRats(t, what, got, ok, fails)
			return
		}
		texts = append(texts, x.RatString())
	}
	expectRats(t, what, got, ok, strings.Join(texts, " "))
}

// expectMost checks an assignment and its probability; fails means that the call must fail.
func expectMost(t *testing.T, what, bits string, prob impl.Rat, ok bool, wantedBits, wanted string) {
	t.Helper()
	expectNumber(t, what, prob, ok, wanted)
	if ok && bits != wantedBits || !ok && bits != "" {
		t.Errorf("%s: got %q, want %q", what, bits, wantedBits)
	}
}

// expectShare checks a conditional count; a wanted number of nil means that the call must fail.
func expectShare(t *testing.T, what string, got impl.Rat, ok bool, wanted *big.Rat) {
	t.Helper()
	if wanted == nil {
		expectRat(t, what, got, ok, "")
		return
	}
	expectBig(t, what, got, ok, wanted)
}

// expectWeighted checks all functions that take one diagram and probabilities.
func expectWeighted(t *testing.T, c chances, table string) {
	t.Helper()
	what := fmt.Sprintf("%.40q with %.200v", table, c)
	d := diagramByReference(len(c), table)
	count, ok := impl.WeightedCount(d, c.rats())
	expectBig(t, what+": count", count, ok, c.count(table))
	slopes, ok := impl.CountGradient(d, c.rats())
	expectBigs(t, what+": gradient", slopes, ok, c.gradient(table))
	wantedBits, wanted := c.most(table)
	bits, prob, ok := impl.MostProbable(d, c.rats())
	expectShare(t, what+": most probable", prob, ok, wanted)
	if ok && bits != wantedBits || !ok && bits != "" {
		t.Errorf("%s: most probable %q instead of %q", what, bits, wantedBits)
	}
}

// expectConditional checks ConditionalCount for two tables.
func expectConditional(t *testing.T, c chances, query, given string) {
	t.Helper()
	share, ok := impl.ConditionalCount(diagramByReference(len(c), query), diagramByReference(len(c), given), c.rats())
	expectShare(t, fmt.Sprintf("%.40q given %.40q with %.200v", query, given, c), share, ok, c.share(query, given))
}

func TestExampleOfCounting(t *testing.T) {
	p := exampleG()
	holds, finishes, probs, ok := impl.CompileQuery(p, 2)
	expectFunction(t, "query", holds, ok, 2, "1110")
	expectFunction(t, "condition", finishes, ok, 2, "1110")
	expectRats(t, "coins", probs, ok, "1/3 1/2")
	count, ok := impl.WeightedCount(holds, probs)
	expectRat(t, "count", count, ok, "5/6")
	slopes, ok := impl.CountGradient(holds, probs)
	expectRats(t, "gradient", slopes, ok, "-1/2 -1/3")
	marginal, ok := impl.MarginalByDiagram(p, 0)
	expectDist(t, "marginal", marginal, ok, "0:1/5 1:4/5")
	bits, prob, ok := impl.MostProbable(holds, probs)
	expectMost(t, "most probable", bits, prob, ok, "00", "1/3")
	share, ok := impl.ConditionalCount(holds, finishes, probs)
	expectRat(t, "conditional", share, ok, "1")
	for e, wanted := range []string{"4/5", "3/5", "1"} {
		probability, ok := impl.ProbabilityByDiagram(p, e)
		expectRat(t, fmt.Sprint("expression ", e), probability, ok, wanted)
	}
	marginal, ok = impl.MarginalByDiagram(p, 1)
	expectDist(t, "marginal of b", marginal, ok, "0:2/5 1:3/5")
	swapped, ok := impl.ReorderLevels(diagram(t, "2 3; 1?0:1; 0?0:2"), []int{1, 0})
	expectDiagram(t, "swapped", swapped, ok, "2 3; 1?0:1; 0?0:2")
	order, nodes, ok := impl.BestOrder(holds)
	expectList(t, "order", order, ok, []int{0, 1})
	expectInt(t, "nodes", nodes, ok, 2)
}

func TestWeightedCounts(t *testing.T) {
	for _, c := range []struct{ diagram, probs, count, gradient string }{
		{"0 0", "", "0", ""}, {"0 1", "", "1", ""}, {"1 0", "1/3", "0", "0"}, {"1 1", "1/3", "1", "0"}, {"1 2; 0?1:0", "1/3", "1/3", "1"}, {"1 2; 0?0:1", "1/3", "2/3", "-1"},
		{"2 3; 1?1:0; 0?2:0", "1/3 2/5", "2/15", "2/5 1/3"}, {"2 3; 1?1:0; 0?1:2", "1/3 2/5", "3/5", "3/5 2/3"}, {"2 4; 1?1:0; 1?0:1; 0?3:2", "1/3 2/5", "7/15", "1/5 1/3"},
		{"2 2; 0?1:0", "1/3 2/5", "1/3", "1 0"}, {"2 2; 1?1:0", "1/3 2/5", "2/5", "0 1"}, {"2 2; 1?0:1", "1/3 2/5", "3/5", "0 -1"}, {"2 1", "1/3 2/5", "1", "0 0"}, {"2 0", "1/3 2/5", "0", "0 0"},
		{"3 5; 2?1:0; 1?2:0; 1?1:2; 0?4:3", "1/2 1/3 1/4", "7/24", "5/12 1/2 1/2"}, {"3 6; 2?1:0; 2?0:1; 1?3:2; 1?2:3; 0?5:4", "1/2 1/3 1/4", "1/2", "1/6 0 0"},
		{"3 3; 2?1:0; 0?2:0", "1/2 1/3 1/4", "1/8", "1/4 0 1/2"}, {"3 3; 1?1:0; 0?1:2", "1/2 1/3 1/4", "2/3", "2/3 1/2 0"}, {"3 3; 2?0:1; 1?1:2", "1/2 1/3 1/4", "5/6", "0 1/4 -2/3"},
		{"3 4; 2?1:0; 1?1:0; 0?3:2", "1/2 1/3 1/4", "7/24", "1/12 1/2 1/2"}, {"3 4; 2?1:0; 1?1:0; 0?3:2", "0 1/3 1/4", "1/4", "1/12 0 1"}, {"3 4; 2?1:0; 1?1:0; 0?3:2", "1 1/3 1/4", "1/3", "1/12 1 0"},
		{"2 3; 1?1:0; 0?2:0", "0 0", "0", "0 0"}, {"2 3; 1?1:0; 0?2:0", "1 1", "1", "1 1"}, {"2 3; 1?1:0; 0?2:0", "0 1", "0", "1 0"}, {"2 4; 1?1:0; 1?0:1; 0?3:2", "1 1", "0", "-1 -1"}, {"2 4; 1?1:0; 1?0:1; 0?3:2", "0 1", "1", "-1 1"},
	} {
		probs := chancesOf(t, c.probs).rats()
		count, ok := impl.WeightedCount(diagram(t, c.diagram), probs)
		expectRat(t, c.diagram+" with "+c.probs, count, ok, c.count)
		slopes, ok := impl.CountGradient(diagram(t, c.diagram), probs)
		expectRats(t, "gradient of "+c.diagram+" with "+c.probs, slopes, ok, c.gradient)
	}
}

func TestMostProbable(t *testing.T) {
	for _, c := range []struct{ diagram, probs, bits, prob string }{
		{"0 1", "", "", "1"}, {"1 1", "1/3", "0", "2/3"}, {"1 1", "2/3", "1", "2/3"}, {"1 1", "1/2", "0", "1/2"}, {"1 2; 0?1:0", "1/3", "1", "1/3"}, {"1 2; 0?1:0", "0", "1", "0"}, {"1 2; 0?0:1", "1", "0", "0"}, {"1 1", "0", "0", "1"}, {"1 1", "1", "1", "1"},
		{"0 0", "", "", fails}, {"1 0", "1/3", "", fails}, {"3 0", "0 1 1/2", "", fails},
		// Equally probable assignments.
		{"2 1", "1/2 1/2", "00", "1/4"}, {"2 4; 1?1:0; 1?0:1; 0?3:2", "1/2 1/2", "01", "1/4"}, {"2 4; 1?1:0; 1?0:1; 0?3:2", "1/3 1/3", "01", "2/9"}, {"2 4; 1?0:1; 1?1:0; 0?3:2", "1/3 2/3", "00", "2/9"},
		{"2 3; 1?1:0; 0?1:2", "1/2 1/3", "10", "1/3"}, {"2 3; 1?1:0; 0?1:2", "1/3 1/2", "01", "1/3"}, {"3 1", "2/3 1/2 1/3", "100", "2/9"}, {"3 1", "1/2 2/3 1/2", "010", "1/6"}, {"3 2; 1?1:0", "1/2 1/3 2/3", "011", "1/9"},
		{"3 5; 2?1:0; 1?2:0; 1?1:2; 0?4:3", "1/3 1/3 1/3", "011", "2/27"}, {"3 5; 2?1:0; 1?2:0; 1?1:2; 0?4:3", "2/3 1/3 1/3", "101", "4/27"}, {"3 5; 2?1:0; 1?2:0; 1?1:2; 0?4:3", "3/4 3/4 3/4", "111", "27/64"},
		// A greedy choice of the first bit would be wrong.
		{"2 3; 1?1:0; 0?1:2", "2/5 9/10", "01", "27/50"}, {"3 4; 2?1:0; 1?1:0; 0?3:2", "1/3 9/10 1/4", "110", "9/40"},
		// All assignments have the probability 0, so that the least one counts, whatever its bits.
		{"2 2; 0?1:0", "0 2/3", "10", "0"}, {"2 2; 0?0:1", "1 2/3", "00", "0"}, {"3 3; 1?1:0; 0?1:2", "0 0 9/10", "010", "0"}, {"3 3; 2?1:0; 1?2:1", "1/2 1 0", "000", "0"}, {"3 3; 2?1:0; 1?2:0", "2/3 1 0", "011", "0"}, {"3 3; 1?1:0; 0?2:0", "0 1 1", "110", "0"},
		// Some of them have the probability 0.
		{"2 1", "0 1", "01", "1"}, {"2 1", "1 0", "10", "1"}, {"2 3; 1?1:0; 0?1:2", "1/3 0", "10", "1/3"}, {"2 3; 1?1:0; 0?1:2", "0 1/3", "01", "1/3"}, {"3 3; 1?1:0; 0?1:2", "1/100 0 1", "101", "1/100"},
	} {
		bits, prob, ok := impl.MostProbable(diagram(t, c.diagram), chancesOf(t, c.probs).rats())
		expectMost(t, c.diagram+" with "+c.probs, bits, prob, ok, c.bits, c.prob)
	}
}

func TestConditionalCounts(t *testing.T) {
	for _, c := range []struct{ query, given, probs, share string }{
		{"0 1", "0 1", "", "1"}, {"0 0", "0 1", "", "0"}, {"0 1", "0 0", "", ""}, {"0 0", "0 0", "", ""}, {"1 2; 0?1:0", "1 1", "1/3", "1/3"}, {"1 1", "1 2; 0?1:0", "1/3", "1"}, {"1 2; 0?0:1", "1 2; 0?1:0", "1/3", "0"},
		{"2 2; 0?1:0", "2 3; 1?1:0; 0?1:2", "1/3 1/2", "1/2"}, {"2 3; 1?1:0; 0?2:0", "2 3; 1?1:0; 0?1:2", "1/3 1/2", "1/4"}, {"2 3; 1?1:0; 0?1:2", "2 3; 1?1:0; 0?2:0", "1/3 1/2", "1"}, {"2 2; 1?1:0", "2 2; 0?1:0", "1/3 2/7", "2/7"},
		{"2 2; 0?1:0", "2 4; 1?1:0; 1?0:1; 0?3:2", "1/3 1/4", "3/5"}, {"2 2; 0?1:0", "2 4; 1?0:1; 1?1:0; 0?3:2", "1/3 1/4", "1/7"},
		// The condition is false everywhere, or true with probability 0.
		{"2 1", "2 0", "1/3 1/2", ""}, {"2 0", "2 0", "1/3 1/2", ""}, {"2 1", "2 2; 0?1:0", "0 1/2", ""}, {"2 1", "2 2; 0?0:1", "1 1/2", ""}, {"2 0", "2 3; 1?1:0; 0?2:0", "1 0", ""}, {"2 2; 0?1:0", "2 2; 0?1:0", "0 1", ""},
		// The condition is certain, and so is, or is not, the query.
		{"2 2; 0?1:0", "2 1", "0 1/2", "0"}, {"2 2; 0?1:0", "2 2; 1?1:0", "1 1", "1"}, {"2 2; 1?1:0", "2 2; 0?1:0", "1 2/3", "2/3"}, {"2 2; 1?1:0", "2 2; 0?1:0", "1/5 2/3", "2/3"},
	} {
		share, ok := impl.ConditionalCount(diagram(t, c.query), diagram(t, c.given), chancesOf(t, c.probs).rats())
		expectRat(t, c.query+" given "+c.given+" with "+c.probs, share, ok, c.share)
	}
}

// listsOfThree are probabilities of three levels, among them 0 and 1, and equal ones.
func listsOfThree() []string {
	return []string{"1/2 1/2 1/2", "1/3 1/3 1/3", "2/3 1/3 2/3", "0 1/2 1", "1 1/7 0", "0 0 0", "1 1 1", "3/5 0 1/2", "1/10 99/100 4/7"}
}

func TestWeightedCountsOfThreeLevels(t *testing.T) {
	for _, probs := range listsOfThree() {
		for _, table := range assignmentsOf(8) {
			expectWeighted(t, chancesOf(t, probs), table)
		}
	}
}

func TestConditionalCountsOfAllFunctionsOfTwoLevels(t *testing.T) {
	for levels := range 3 {
		for _, probs := range listsOfThree() {
			c := chancesOf(t, probs)[:levels]
			for _, query := range assignmentsOf(1 << levels) {
				for _, given := range assignmentsOf(1 << levels) {
					expectConditional(t, c, query, given)
				}
			}
		}
	}
}

// TestCountsOfConstants has diagrams without nodes.
func TestWeightedCountsOfConstants(t *testing.T) {
	long := chancesOf(t, "1/"+nines(120)+" "+nines(119)+"8/"+nines(120))
	for levels := range 11 {
		for digit := range 2 {
			d := diagram(t, fmt.Sprint(levels, " ", digit))
			table := strings.Repeat(fmt.Sprint(digit), 1<<levels)
			for _, c := range []chances{slices.Repeat(chancesOf(t, "1/2"), levels), slices.Repeat(chancesOf(t, "0 2/3 1"), 4)[:levels], slices.Repeat(long, 5)[:levels]} {
				expectWeighted(t, c, table)
				count, ok := impl.WeightedCount(d, c.rats())
				expectRat(t, "count", count, ok, fmt.Sprint(digit))
				slopes, ok := impl.CountGradient(d, c.rats())
				expectRats(t, "gradient", slopes, ok, strings.TrimSpace(strings.Repeat("0 ", levels)))
				for other := range 2 {
					expectConditional(t, c, table, strings.Repeat(fmt.Sprint(other), 1<<levels))
				}
			}
		}
	}
}

// TestLevelsThatDoNotMatter changes the probabilities of the first level, the last one, one between, and several, on which
// the functions do not depend.
func TestLevelsThatDoNotMatter(t *testing.T) {
	for text, others := range map[string][]int{
		"4 4; 3?1:0; 2?2:0; 1?1:3": {0}, "4 4; 2?1:0; 1?2:0; 0?1:3": {3}, "4 4; 3?1:0; 1?2:0; 0?1:3": {2}, "4 2; 0?1:0": {1, 2, 3}, "4 2; 3?0:1": {0, 1, 2}, "4 3; 2?1:0; 1?2:0": {0, 3}, "4 1": {0, 1, 2, 3}, "4 0": {0, 1, 2, 3},
	} {
		d := diagram(t, text)
		first := chancesOf(t, "1/3 2/5 3/7 4/9")
		count, _ := impl.WeightedCount(d, first.rats())
		slopes, _ := impl.CountGradient(d, first.rats())
		for _, v := range others {
			if slopes[v] != zeroRat {
				t.Errorf("%s: slope %+v at level %d", text, slopes[v], v)
			}
			for _, other := range []string{"0", "1", "1/2", "1/" + nines(120), nines(119) + "8/" + nines(120)} {
				c := slices.Clone(first)
				c[v] = chancesOf(t, other)[0]
				again, ok := impl.WeightedCount(d, c.rats())
				expectRat(t, text, again, ok, textOfRat(count))
				gradient, ok := impl.CountGradient(d, c.rats())
				expectRats(t, text, gradient, ok, textOfRats(slopes))
				share, ok := impl.ConditionalCount(d, d, c.rats())
				expectRat(t, text, share, ok, map[bool]string{true: "1"}[d.Root != 0])
			}
		}
	}
}

// TestCountsOfTheMostNodes has 10 levels and a diagram with 269 nodes.
func TestWeightedCountsOfTheMostNodes(t *testing.T) {
	table := largestTable()
	for _, probs := range []string{"1/2 1/3 1/4 1/5 1/6 1/7 1/8 1/9 1/10 1/11", "1/2 1/2 1/2 1/2 1/2 1/2 1/2 1/2 1/2 1/2", "1 0 1/2 1 0 1/3 1 0 1/4 2/3", "0 0 0 0 0 0 0 0 0 0"} {
		c := chancesOf(t, probs)
		expectWeighted(t, c, table)
		expectConditional(t, c, table, negatedTable(table))
		expectConditional(t, c, table, tableWith(10, func(bits string) bool { return strings.Count(bits, "1") == 5 }))
	}
	var c chances
	for i := range 10 {
		c = append(c, big.NewRat(int64(i+1), 1<<62-int64(i)))
	}
	expectWeighted(t, c, table)
}
