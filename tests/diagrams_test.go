package tests

import (
	"fmt"
	"math"
	"slices"
	"strings"
	"testing"

	"loop.example/g00893/impl"
)

// expectDiagram checks a diagram that a call returns; an empty text means that the call must fail.
func expectDiagram(t *testing.T, what string, got impl.Diagram, ok bool, wanted string) {
	t.Helper()
	if wanted == "" && (ok || !sameDiagrams(got, impl.Diagram{})) || wanted != "" && (!ok || diagramText(got) != wanted) {
		t.Errorf("%s: %s %v instead of %q", what, diagramText(got), ok, wanted)
	}
}

// expectFunction checks that a diagram that a call returns is the valid one of a truth table.
func expectFunction(t *testing.T, what string, got impl.Diagram, ok bool, levels int, table string) {
	t.Helper()
	expectDiagram(t, what, got, ok, diagramText(diagramByReference(levels, table)))
	if !impl.IsValidDiagram(got) {
		t.Errorf("%s: %s is not valid", what, diagramText(got))
	}
}

// expectReadings checks all functions that read the valid diagram of a truth table.
func expectReadings(t *testing.T, what string, d impl.Diagram, levels int, table string) {
	t.Helper()
	if !impl.IsValidDiagram(d) || !impl.EqualDiagram(d, d) {
		t.Errorf("%s: %s is not valid", what, diagramText(d))
	}
	got, ok := impl.TableOf(d)
	expectTable(t, what, got, ok, table)
	for _, bits := range assignmentsOf(levels) {
		if value, ok := impl.EvaluateDiagram(d, bits); value != valueIn(table, bits) || !ok {
			t.Errorf("%s: at %q %v %v", what, bits, value, ok)
		}
	}
	models, ok := impl.CountModels(d)
	expectInt(t, what+": models", models, ok, strings.Count(table, "1"))
	support, ok := impl.DiagramSupport(d)
	expectList(t, what+": support", support, ok, supportOf(levels, table))
	text, ok := impl.FormatDiagram(d)
	expectTable(t, what+": text", text, ok, diagramText(d))
	parsed, ok := impl.ParseDiagram(text)
	expectDiagram(t, what+": parsed", parsed, ok, text)
}

// expectChanges checks all functions that make a diagram of the valid diagram of a truth table alone.
func expectChanges(t *testing.T, what string, d impl.Diagram, levels int, table string) {
	t.Helper()
	negated, ok := impl.NegateDiagram(d)
	expectFunction(t, what+": negated", negated, ok, levels, negatedTable(table))
	for v := range levels {
		for bit, value := range map[string]bool{"0": false, "1": true} {
			restricted, ok := impl.RestrictDiagram(d, v, value)
			expectFunction(t, fmt.Sprint(what, ": level ", v, " is ", bit), restricted, ok, levels, restrictedTable(levels, table, v, bit))
		}
		exists, ok := impl.ExistsDiagram(d, v)
		expectFunction(t, fmt.Sprint(what, ": level ", v), exists, ok, levels, existsTable(levels, table, v))
	}
}

// expectAllOf checks all functions that take one diagram for a truth table.
func expectAllOf(t *testing.T, levels int, table string) {
	t.Helper()
	what := fmt.Sprintf("%d levels, %.20q", levels, table)
	d, ok := impl.DiagramOf(levels, table)
	expectFunction(t, what, d, ok, levels, table)
	expectReadings(t, what, d, levels, table)
	expectChanges(t, what, d, levels, table)
}

func TestExampleOfDiagrams(t *testing.T) {
	d, ok := impl.DiagramOf(2, "0001")
	expectDiagram(t, "conjunction", d, ok, "2 3; 1?1:0; 0?2:0")
	if d.Levels != 2 || !slices.Equal(d.Nodes, []impl.DiagramNode{{Level: 1, Low: 0, High: 1}, {Level: 0, Low: 0, High: 2}}) || d.Root != 3 {
		t.Errorf("conjunction: %+v", d)
	}
	text, ok := impl.FormatDiagram(d)
	expectTable(t, "text", text, ok, "2 3; 1?1:0; 0?2:0")
	models, ok := impl.CountModels(d)
	expectInt(t, "models", models, ok, 1)
	last, ok := impl.VariableDiagram(2, 1)
	expectDiagram(t, "variable", last, ok, "2 2; 1?1:0")
	restricted, ok := impl.RestrictDiagram(d, 0, true)
	expectDiagram(t, "restricted", restricted, ok, "2 2; 1?1:0")
	exists, ok := impl.ExistsDiagram(d, 0)
	expectDiagram(t, "exists", exists, ok, "2 2; 1?1:0")
	if !impl.EqualDiagram(restricted, last) || !impl.EqualDiagram(exists, last) || impl.EqualDiagram(d, last) {
		t.Error("the diagrams are not equal to that of the variable")
	}
	// The example of chapter 32.
	d, ok = impl.DiagramOf(2, "1110")
	expectDiagram(t, "of a table of chapter 9", d, ok, "2 3; 1?0:1; 0?2:1")
}

func TestDiagramsOfTables(t *testing.T) {
	for levels, texts := range []map[string]string{
		{"0": "0 0", "1": "0 1"},
		{"00": "1 0", "01": "1 2; 0?1:0", "10": "1 2; 0?0:1", "11": "1 1"},
		{
			"0000": "2 0", "0001": "2 3; 1?1:0; 0?2:0", "0010": "2 3; 1?0:1; 0?2:0", "0011": "2 2; 0?1:0",
			"0100": "2 3; 1?1:0; 0?0:2", "0101": "2 2; 1?1:0", "0110": "2 4; 1?1:0; 1?0:1; 0?3:2", "0111": "2 3; 1?1:0; 0?1:2",
			"1000": "2 3; 1?0:1; 0?0:2", "1001": "2 4; 1?0:1; 1?1:0; 0?3:2", "1010": "2 2; 1?0:1", "1011": "2 3; 1?0:1; 0?1:2",
			"1100": "2 2; 0?0:1", "1101": "2 3; 1?1:0; 0?2:1", "1110": "2 3; 1?0:1; 0?2:1", "1111": "2 1",
		},
		{
			"01101001": "3 6; 2?1:0; 2?0:1; 1?3:2; 1?2:3; 0?5:4", "00010111": "3 5; 2?1:0; 1?2:0; 1?1:2; 0?4:3", "01010011": "3 4; 2?1:0; 1?1:0; 0?3:2",
			"00110101": "3 4; 1?1:0; 2?1:0; 0?3:2", "01000111": "3 5; 2?1:0; 1?0:2; 1?1:2; 0?4:3", "10100000": "3 3; 2?0:1; 0?0:2", "11001100": "3 2; 1?0:1",
			"00001111": "3 2; 0?1:0", "01100110": "3 4; 2?1:0; 2?0:1; 1?3:2", "00000001": "3 4; 2?1:0; 1?2:0; 0?3:0", "11100001": "3 6; 2?0:1; 1?2:1; 2?1:0; 1?4:0; 0?5:3",
		},
	} {
		for table, text := range texts {
			d, ok := impl.DiagramOf(levels, table)
			expectDiagram(t, table, d, ok, text)
			if !sameDiagrams(diagram(t, text), diagramByReference(levels, table)) {
				t.Errorf("%s: the reference differs", table)
			}
			expectAllOf(t, levels, table)
		}
	}
}

// TestAllDiagramsOfFourLevels has all functions of 4 levels, and compares some of them with the reference.
func TestAllDiagramsOfFourLevels(t *testing.T) {
	seen := map[string]string{}
	for i, table := range assignmentsOf(16) {
		d, ok := impl.DiagramOf(4, table)
		again, okTable := impl.TableOf(d)
		if text := fmt.Sprint(d); !ok || !okTable || !impl.IsValidDiagram(d) || again != table || seen[text] != "" {
			t.Fatalf("%s: %s, which has the table %s and was that of %q", table, text, again, seen[text])
		}
		seen[fmt.Sprint(d)] = table
		if i%97 == 0 {
			expectAllOf(t, 4, table)
		}
	}
}

func TestAllDiagramsOfThreeLevels(t *testing.T) {
	for _, table := range assignmentsOf(8) {
		expectAllOf(t, 3, table)
	}
}

func TestAllCombinationsOfTwoLevels(t *testing.T) {
	for levels := range 3 {
		for _, a := range assignmentsOf(1 << levels) {
			for _, b := range assignmentsOf(1 << levels) {
				for op := impl.BoolAnd; op <= impl.BoolXor; op++ {
					x, _ := impl.DiagramOf(levels, a)
					y, _ := impl.DiagramOf(levels, b)
					combined, ok := impl.CombineDiagrams(op, x, y)
					expectFunction(t, fmt.Sprint(a, " ", op, " ", b), combined, ok, levels, combinedTable(op, a, b))
				}
			}
		}
	}
}

func TestConstantsAndVariables(t *testing.T) {
	for levels := range 11 {
		for value, digit := range map[bool]string{false: "0", true: "1"} {
			constant, ok := impl.ConstantDiagram(levels, value)
			expectDiagram(t, "constant", constant, ok, fmt.Sprint(levels, " ", digit))
			table := strings.Repeat(digit, 1<<levels)
			expectReadings(t, "constant", constant, levels, table)
			expectChanges(t, "constant", constant, levels, table)
			of, ok := impl.DiagramOf(levels, table)
			expectDiagram(t, "constant", of, ok, fmt.Sprint(levels, " ", digit))
		}
		for v := range levels {
			variable, ok := impl.VariableDiagram(levels, v)
			expectDiagram(t, "variable", variable, ok, fmt.Sprintf("%d 2; %d?1:0", levels, v))
			table := tableWith(levels, func(bits string) bool { return bits[v] == '1' })
			expectReadings(t, "variable", variable, levels, table)
			expectChanges(t, "variable", variable, levels, table)
			support, ok := impl.DiagramSupport(variable)
			expectList(t, "support", support, ok, []int{v})
			models, ok := impl.CountModels(variable)
			expectInt(t, "models", models, ok, 1<<levels/2)
			of, ok := impl.DiagramOf(levels, table)
			expectDiagram(t, "variable", of, ok, diagramText(variable))
		}
	}
}

// extremes are numbers that are no levels and no operations, but for 0.
func extremes() []int {
	return []int{0, -1, 11, -2, 12, 64, 63, -64, 1 << 32, 1<<63 - 1, math.MinInt, math.MinInt + 1, math.MaxInt - 1}
}

func TestNumbersThatAreNoLevels(t *testing.T) {
	for _, n := range extremes() {
		constant, ok := impl.ConstantDiagram(n, true)
		expectDiagram(t, fmt.Sprint(n), constant, ok, map[bool]string{true: "0 1"}[n == 0])
		for _, v := range []int{0, -1, 9, n, n - 1} {
			variable, ok := impl.VariableDiagram(n, v)
			expectDiagram(t, fmt.Sprint(n, " ", v), variable, ok, "")
		}
		for _, table := range []string{"", "1", "10", strings.Repeat("1", 1024), strings.Repeat("0", 2048)} {
			d, ok := impl.DiagramOf(n, table)
			expectDiagram(t, fmt.Sprintf("%d %.20q", n, table), d, ok, map[bool]string{true: "0 1"}[n == 0 && table == "1"])
		}
	}
	for levels := range 11 {
		d, _ := impl.DiagramOf(levels, strings.Repeat("0110", 256)[:1<<levels])
		for _, v := range append(extremes()[1:], levels, levels+1) {
			what := fmt.Sprint(levels, " levels, level ", v)
			variable, ok := impl.VariableDiagram(levels, v)
			expectDiagram(t, what, variable, ok, "")
			for _, value := range []bool{false, true} {
				restricted, ok := impl.RestrictDiagram(d, v, value)
				expectDiagram(t, what, restricted, ok, "")
			}
			exists, ok := impl.ExistsDiagram(d, v)
			expectDiagram(t, what, exists, ok, "")
		}
	}
}

func TestStringsThatAreNoTables(t *testing.T) {
	for levels := range 11 {
		good := strings.Repeat("0110", 256)[:1<<levels]
		bad := []string{"", good + "0", good + good, good[1:], good[:len(good)/2], good + " ", " " + good[1:], good[:len(good)-1] + "\n", strings.Repeat("0", 1025), strings.Repeat("1", 1<<16)}
		for _, other := range []string{"2", "/", ":", " ", "\x00", "\x01", "\x80", "\xb0", "\xff", "a", "O", "\n", "+", "-"} {
			for _, at := range []int{0, len(good) / 2, len(good) - 1} {
				bad = append(bad, good[:at]+other+good[at+1:])
			}
		}
		if levels > 0 {
			bad = append(bad, "é"+good[2:])
		}
		for _, table := range bad {
			d, ok := impl.DiagramOf(levels, table)
			expectDiagram(t, fmt.Sprintf("%d %.20q", levels, table), d, ok, "")
		}
	}
}

func TestBitsOfOtherLevels(t *testing.T) {
	for levels := range 11 {
		good := "1010010110"[:levels]
		d, _ := impl.DiagramOf(levels, tableWith(levels, func(bits string) bool { return bits == good }))
		if value, ok := impl.EvaluateDiagram(d, good); !value || !ok {
			t.Errorf("%d levels: %v %v", levels, value, ok)
		}
		bad := []string{good + "0", good + "1", good + " ", " " + good, good + "\x00", strings.Repeat("1", 11), strings.Repeat("0", 1024)}
		for at := range levels {
			bad = append(bad, good[:at], good[:at]+good[at+1:])
			for _, other := range []string{"2", "/", ":", " ", "\x00", "\x01", "\x80", "\xb0", "\xff", "a", "O", "l", "\n", "-", "é"} {
				bad = append(bad, withBit(good, at, other))
			}
		}
		for _, bits := range bad {
			if value, ok := impl.EvaluateDiagram(d, bits); value || ok {
				t.Errorf("%d levels: at %q %v %v", levels, bits, value, ok)
			}
		}
	}
}

func TestOperationsThatThereAreNot(t *testing.T) {
	a, b := diagram(t, "2 2; 0?1:0"), diagram(t, "2 2; 1?1:0")
	for _, op := range append(extremes(), 4, 5, 1<<32+1, -3) {
		combined, ok := impl.CombineDiagrams(op, a, b)
		expectDiagram(t, fmt.Sprint("operation ", op), combined, ok, "")
	}
	for op, wanted := range map[int]string{impl.BoolAnd: "2 3; 1?1:0; 0?2:0", impl.BoolOr: "2 3; 1?1:0; 0?1:2", impl.BoolXor: "2 4; 1?1:0; 1?0:1; 0?3:2"} {
		combined, ok := impl.CombineDiagrams(op, a, b)
		expectDiagram(t, fmt.Sprint("operation ", op), combined, ok, wanted)
	}
	if impl.BoolAnd != 1 || impl.BoolOr != 2 || impl.BoolXor != 3 || impl.MaxLevels != 10 {
		t.Error("the constants have other values")
	}
}

func TestDiagramsWithOtherLevels(t *testing.T) {
	for levels := range 11 {
		for others := range 11 {
			for op := impl.BoolAnd; op <= impl.BoolXor; op++ {
				a, _ := impl.ConstantDiagram(levels, true)
				b, _ := impl.ConstantDiagram(others, false)
				wanted := map[bool]string{true: fmt.Sprint(levels, " ", truthOf(op != impl.BoolAnd))}[levels == others]
				combined, ok := impl.CombineDiagrams(op, a, b)
				expectDiagram(t, fmt.Sprint(levels, " and ", others), combined, ok, wanted)
			}
			if a, b := diagram(t, fmt.Sprint(levels, " 1")), diagram(t, fmt.Sprint(others, " 1")); impl.EqualDiagram(a, b) != (levels == others) {
				t.Errorf("constants of %d and %d levels", levels, others)
			}
		}
	}
	for _, other := range []string{"1 2; 0?1:0", "3 2; 0?1:0", "10 2; 0?1:0"} {
		combined, ok := impl.CombineDiagrams(impl.BoolOr, diagram(t, "2 2; 0?1:0"), diagram(t, other))
		expectDiagram(t, other, combined, ok, "")
	}
}

// TestChangesAtLevels has functions that depend on the first level, the last one, on all but one, and on none.
func TestChangesAtLevels(t *testing.T) {
	type change struct {
		text                string
		v                   int
		isFalse, isTrue, or string
	}
	for _, c := range []change{
		{"3 2; 0?1:0", 0, "3 0", "3 1", "3 1"}, {"3 2; 0?1:0", 1, "3 2; 0?1:0", "3 2; 0?1:0", "3 2; 0?1:0"}, {"3 2; 0?1:0", 2, "3 2; 0?1:0", "3 2; 0?1:0", "3 2; 0?1:0"},
		{"3 2; 2?0:1", 2, "3 1", "3 0", "3 1"}, {"3 2; 2?0:1", 0, "3 2; 2?0:1", "3 2; 2?0:1", "3 2; 2?0:1"},
		{"3 0", 1, "3 0", "3 0", "3 0"}, {"3 1", 1, "3 1", "3 1", "3 1"}, {"10 1", 9, "10 1", "10 1", "10 1"},
		{"3 3; 2?1:0; 0?2:0", 1, "3 3; 2?1:0; 0?2:0", "3 3; 2?1:0; 0?2:0", "3 3; 2?1:0; 0?2:0"}, {"3 3; 2?1:0; 0?2:0", 0, "3 0", "3 2; 2?1:0", "3 2; 2?1:0"},
		{"3 3; 2?1:0; 0?2:0", 2, "3 0", "3 2; 0?1:0", "3 2; 0?1:0"}, {"3 4; 2?1:0; 1?1:0; 0?3:2", 0, "3 2; 2?1:0", "3 2; 1?1:0", "3 3; 2?1:0; 1?1:2"},
		{"3 4; 2?1:0; 1?1:0; 0?3:2", 1, "3 3; 2?1:0; 0?0:2", "3 3; 2?1:0; 0?1:2", "3 3; 2?1:0; 0?1:2"},
		// The restriction to true reaches the nodes of the last level in another order.
		{"4 8; 3?1:0; 3?0:1; 2?3:2; 2?2:3; 1?5:4; 1?4:5; 0?7:6", 0, "4 6; 3?1:0; 3?0:1; 2?3:2; 2?2:3; 1?5:4", "4 6; 3?0:1; 3?1:0; 2?3:2; 2?2:3; 1?5:4", "4 1"},
		// Two nodes become equal, and so do the children of the node above them.
		{"3 6; 2?1:0; 1?2:0; 2?0:1; 1?2:4; 0?5:3", 1, "3 3; 2?0:1; 0?2:0", "3 2; 2?1:0", "3 3; 2?1:0; 0?1:2"},
	} {
		d := diagram(t, c.text)
		isFalse, ok := impl.RestrictDiagram(d, c.v, false)
		expectDiagram(t, fmt.Sprint(c.text, " at ", c.v, " to false"), isFalse, ok, c.isFalse)
		isTrue, ok := impl.RestrictDiagram(d, c.v, true)
		expectDiagram(t, fmt.Sprint(c.text, " at ", c.v, " to true"), isTrue, ok, c.isTrue)
		or, ok := impl.ExistsDiagram(d, c.v)
		expectDiagram(t, fmt.Sprint(c.text, " at ", c.v), or, ok, c.or)
	}
}

// TestDiagramsWithTheMostNodes has a diagram with 127 nodes for the first seven levels, one for each sequence of decisions,
// 128 for the next one, 12 for the functions of two levels that depend on the first one, and 2 for those of one level.
func TestDiagramsWithTheMostNodes(t *testing.T) {
	d, ok := impl.DiagramOf(10, largestTable())
	expectFunction(t, "the most nodes", d, ok, 10, largestTable())
	counts := map[int]int{}
	for _, n := range d.Nodes {
		counts[n.Level]++
	}
	if fmt.Sprint(counts) != "map[0:1 1:2 2:4 3:8 4:16 5:32 6:64 7:128 8:12 9:2]" || d.Root != 270 {
		t.Errorf("nodes of the levels %v, root %d", counts, d.Root)
	}
	expectReadings(t, "the most nodes", d, 10, largestTable())
	expectChanges(t, "the most nodes", d, 10, largestTable())
	negated, _ := impl.NegateDiagram(d)
	reversed := []byte(largestTable())
	slices.Reverse(reversed)
	other, ok := impl.DiagramOf(10, string(reversed))
	expectFunction(t, "backward", other, ok, 10, string(reversed))
	for op, wanted := range map[int]string{impl.BoolAnd: "10 0", impl.BoolOr: "10 1", impl.BoolXor: "10 1"} {
		combined, ok := impl.CombineDiagrams(op, d, negated)
		expectDiagram(t, "with its negation", combined, ok, wanted)
		combined, ok = impl.CombineDiagrams(op, d, other)
		expectFunction(t, "with another one", combined, ok, 10, combinedTable(op, largestTable(), string(reversed)))
	}
	if text, _ := impl.FormatDiagram(d); len(text) > 4000 {
		t.Errorf("a text has %d bytes", len(text))
	}
}

// TestEqualDiagramsOfDifferentOperations reaches the same function in several ways.
func TestEqualDiagramsOfDifferentOperations(t *testing.T) {
	combine := func(op int, a, b impl.Diagram) impl.Diagram {
		t.Helper()
		d, ok := impl.CombineDiagrams(op, a, b)
		if !ok {
			t.Fatalf("%s %d %s", diagramText(a), op, diagramText(b))
		}
		return d
	}
	var x [4]impl.Diagram
	for v := range x {
		x[v], _ = impl.VariableDiagram(4, v)
	}
	none, _ := impl.ConstantDiagram(4, false)
	not1, _ := impl.NegateDiagram(x[1])
	all := combine(impl.BoolAnd, combine(impl.BoolAnd, x[0], x[1]), combine(impl.BoolAnd, x[2], x[3]))
	ways := map[string][]impl.Diagram{
		"4 2; 1?1:0":                      {x[1], combine(impl.BoolOr, x[1], x[1]), combine(impl.BoolXor, x[1], none), combine(impl.BoolAnd, x[1], combine(impl.BoolOr, x[1], x[3])), combine(impl.BoolXor, combine(impl.BoolXor, x[0], x[1]), x[0])},
		"4 0":                             {none, combine(impl.BoolAnd, x[1], not1), combine(impl.BoolXor, all, all), combine(impl.BoolAnd, none, all)},
		"4 1":                             {combine(impl.BoolOr, not1, x[1]), combine(impl.BoolXor, not1, x[1]), combine(impl.BoolOr, all, combine(impl.BoolXor, combine(impl.BoolOr, x[1], not1), all))},
		"4 5; 3?1:0; 2?2:0; 1?3:0; 0?4:0": {all, combine(impl.BoolAnd, x[3], combine(impl.BoolAnd, x[2], combine(impl.BoolAnd, x[1], x[0]))), combine(impl.BoolAnd, all, x[2]), combine(impl.BoolOr, none, all)},
	}
	for text, diagrams := range ways {
		for i, d := range diagrams {
			expectDiagram(t, fmt.Sprint("way ", i), d, true, text)
			if !impl.EqualDiagram(d, diagrams[0]) || !impl.IsValidDiagram(d) {
				t.Errorf("way %d: %s", i, diagramText(d))
			}
		}
	}
}

func TestEqualDiagram(t *testing.T) {
	texts := []string{
		"0 0", "0 1", "1 0", "2 3; 1?1:0; 0?2:0", "2 3; 1?1:0; 0?0:2", "2 3; 1?0:1; 0?2:0", "3 3; 1?1:0; 0?2:0", "2 2; 1?1:0; 0?2:0", "2 3; 0?2:0; 1?1:0", "2 3; 1?1:0", "2 3",
		"2 3; 1?1:0; 0?2:0; 0?2:0", "-1 -1; -1?-1:-1", "9 9; 9?9:9", "9 9; 9?9:8", "9 9; 9?8:9", "9 9; 8?9:9", "9 8; 9?9:9", "8 9; 9?9:9", "9 9; 9?9:9; 9?9:9",
		"9223372036854775807 -9223372036854775808; 9223372036854775807?0:0",
	}
	for i, a := range texts {
		for j, b := range texts {
			if impl.EqualDiagram(diagram(t, a), diagram(t, b)) != (i == j) {
				t.Errorf("%s and %s", a, b)
			}
		}
	}
	if !impl.EqualDiagram(impl.Diagram{}, impl.Diagram{Nodes: []impl.DiagramNode{}}) || !impl.EqualDiagram(impl.Diagram{Levels: 77, Nodes: make([]impl.DiagramNode, 0, 5)}, impl.Diagram{Levels: 77}) {
		t.Error("an empty list of nodes differs from none")
	}
	if impl.EqualDiagram(impl.Diagram{}, impl.Diagram{Nodes: make([]impl.DiagramNode, 1)}) {
		t.Error("a node with zero values is missed")
	}
}
