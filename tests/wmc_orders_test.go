package tests

import (
	"fmt"
	"math"
	"slices"
	"strings"
	"testing"

	"loop.example/g00893/impl"
)

// backward returns the reversed order of that many levels, and forward the identity.
func backward(levels int) []int {
	order := forward(levels)
	slices.Reverse(order)
	return order
}

func forward(levels int) []int {
	order := []int{}
	for level := range levels {
		order = append(order, level)
	}
	return order
}

// expectReordered checks ReorderLevels for a table.
func expectReordered(t *testing.T, levels int, table string, order []int) {
	t.Helper()
	moved, ok := impl.ReorderLevels(diagramByReference(levels, table), order)
	expectFunction(t, fmt.Sprintf("%.40q in the order %v", table, order), moved, ok, levels, reorderedTable(levels, table, order))
}

// expectBestOrder checks BestOrder for a table.
func expectBestOrder(t *testing.T, levels int, table string) {
	t.Helper()
	wanted, fewest := bestOrder(levels, table)
	order, nodes, ok := impl.BestOrder(diagramByReference(levels, table))
	expectList(t, fmt.Sprintf("best order of %q", table), order, ok, append([]int{}, wanted...))
	expectInt(t, fmt.Sprintf("fewest nodes of %q", table), nodes, ok, fewest)
}

func TestReorderLevels(t *testing.T) {
	for _, c := range []struct {
		before string
		order  []int
		after  string
	}{
		{"0 0", nil, "0 0"}, {"0 1", []int{}, "0 1"}, {"1 2; 0?1:0", []int{0}, "1 2; 0?1:0"}, {"2 2; 0?1:0", []int{1, 0}, "2 2; 1?1:0"}, {"2 2; 1?0:1", []int{1, 0}, "2 2; 0?0:1"}, {"2 2; 0?1:0", []int{0, 1}, "2 2; 0?1:0"},
		// The order is no permutation that is its own inverse: the level that moves to k is order[k].
		{"3 2; 0?1:0", []int{1, 2, 0}, "3 2; 2?1:0"}, {"3 2; 1?1:0", []int{1, 2, 0}, "3 2; 0?1:0"}, {"3 2; 2?1:0", []int{1, 2, 0}, "3 2; 1?1:0"}, {"3 2; 0?1:0", []int{2, 0, 1}, "3 2; 1?1:0"}, {"3 2; 2?1:0", []int{2, 0, 1}, "3 2; 0?1:0"},
		{"2 3; 1?0:1; 0?2:0", []int{1, 0}, "2 3; 1?1:0; 0?0:2"}, {"3 3; 2?0:1; 0?2:0", []int{1, 2, 0}, "3 3; 2?1:0; 1?0:2"}, {"3 4; 2?1:0; 1?1:0; 0?3:2", []int{1, 0, 2}, "3 5; 2?1:0; 1?0:2; 1?1:2; 0?4:3"},
		{"4 1", []int{3, 1, 2, 0}, "4 1"}, {"10 0", backward(10), "10 0"}, {"10 2; 0?1:0", backward(10), "10 2; 9?1:0"}, {"10 2; 3?1:0", backward(10), "10 2; 6?1:0"},
	} {
		moved, ok := impl.ReorderLevels(diagram(t, c.before), c.order)
		expectDiagram(t, fmt.Sprint(c.before, " in the order ", c.order), moved, ok, c.after)
	}
}

func TestAllOrdersOfSmallFunctions(t *testing.T) {
	for levels := range 4 {
		for _, table := range assignmentsOf(1 << levels) {
			for _, order := range allOrders(levels) {
				expectReordered(t, levels, table, order)
			}
			expectBestOrder(t, levels, table)
		}
	}
}

func TestOrdersOfLargeFunctions(t *testing.T) {
	for levels := range 11 {
		for _, table := range []string{largestTable()[:1<<levels], strings.Repeat("0110", 256)[:1<<levels], tableWith(levels, func(bits string) bool { return strings.HasPrefix(bits, "101") })} {
			d, _ := impl.DiagramOf(levels, table)
			same, ok := impl.ReorderLevels(d, forward(levels))
			expectDiagram(t, "the same order", same, ok, diagramText(d))
			expectReordered(t, levels, table, backward(levels))
			shifted := append(forward(levels)[levels/3:], forward(levels/3)...)
			expectReordered(t, levels, table, shifted)
			back, ok := impl.ReorderLevels(diagramByReference(levels, reorderedTable(levels, table, shifted)), append(forward(levels)[levels-levels/3:], forward(levels-levels/3)...))
			expectDiagram(t, "shifted back", back, ok, diagramText(d))
		}
	}
}

func TestListsThatAreNoOrders(t *testing.T) {
	for levels := range 11 {
		d, _ := impl.DiagramOf(levels, strings.Repeat("0110", 256)[:1<<levels])
		good := backward(levels)
		bad := [][]int{append(slices.Clone(good), levels), append(slices.Clone(good), 0), append([]int{-1}, good...), slices.Concat(good, good, []int{0}), make([]int, 11), make([]int, 100000)}
		for at := range good {
			bad = append(bad, good[:at], good[at+1:])
			for _, other := range []int{-1, levels, levels + 1, 10, 11, 64, good[at] + 64, good[at] - 64, ^good[at], math.MinInt, math.MinInt + 1, math.MaxInt, good[(at+1)%levels]} {
				if other == good[at] {
					continue
				}
				changed := slices.Clone(good)
				changed[at] = other
				bad = append(bad, changed)
			}
		}
		for _, order := range bad {
			moved, ok := impl.ReorderLevels(d, order)
			expectDiagram(t, fmt.Sprintf("%d levels, %.200v", levels, order), moved, ok, "")
		}
	}
}

// pairsOf is true if one of three pairs of bits is true, which are those with the same digit in a string.
func pairsOf(digits string) string {
	return tableWith(len(digits), func(bits string) bool {
		for _, pair := range []string{"0", "1", "2"} {
			if bits[strings.Index(digits, pair)] == '1' && bits[strings.LastIndex(digits, pair)] == '1' {
				return true
			}
		}
		return false
	})
}

func TestBestOrder(t *testing.T) {
	parity := tableWith(6, func(bits string) bool { return strings.Count(bits, "1")%2 == 1 })
	for _, c := range []struct {
		levels int
		table  string
		order  []int
		nodes  int
	}{
		{0, "0", []int{}, 0}, {0, "1", []int{}, 0}, {1, "00", []int{0}, 0}, {1, "01", []int{0}, 1}, {2, "0011", []int{0, 1}, 1}, {2, "0101", []int{0, 1}, 1}, {3, "00110101", []int{0, 1, 2}, 3}, {3, "01000111", []int{1, 0, 2}, 3}, {3, "00010111", []int{0, 1, 2}, 4},
		{6, strings.Repeat("1", 64), []int{0, 1, 2, 3, 4, 5}, 0}, {6, strings.Repeat("01", 32), []int{0, 1, 2, 3, 4, 5}, 1}, {6, parity, []int{0, 1, 2, 3, 4, 5}, 11},
		// Several orders have the fewest nodes: either bit of a pair may come first, and so may each pair.
		{6, pairsOf("001122"), []int{0, 1, 2, 3, 4, 5}, 6}, {6, pairsOf("012012"), []int{0, 3, 1, 4, 2, 5}, 6}, {6, pairsOf("012210"), []int{0, 5, 1, 4, 2, 3}, 6}, {6, pairsOf("010212"), []int{0, 2, 1, 4, 3, 5}, 6},
	} {
		order, nodes, ok := impl.BestOrder(diagramByReference(c.levels, c.table))
		expectList(t, "best order of "+c.table, order, ok, c.order)
		expectInt(t, "fewest nodes of "+c.table, nodes, ok, c.nodes)
		expectBestOrder(t, c.levels, c.table)
		if d, ok := impl.ReorderLevels(diagramByReference(c.levels, c.table), order); !ok || len(d.Nodes) != nodes {
			t.Errorf("%s has %d nodes", diagramText(d), len(d.Nodes))
		}
	}
}

func TestTooManyLevelsToOrder(t *testing.T) {
	for levels := range 11 {
		for _, text := range []string{fmt.Sprint(levels, " 0"), fmt.Sprint(levels, " 1"), fmt.Sprint(levels, " 2; ", max(0, levels-1), "?1:0")} {
			if levels == 0 && strings.Contains(text, ";") {
				continue
			}
			order, nodes, ok := impl.BestOrder(diagram(t, text))
			if levels <= 6 {
				expectList(t, text, order, ok, forward(levels))
				expectInt(t, text, nodes, ok, strings.Count(text, ";"))
				continue
			}
			expectList(t, text, order, ok, nil)
			expectInt(t, text, nodes, ok, -1)
		}
	}
}
