package tests

import (
	"fmt"
	"slices"
	"strings"
	"testing"

	"loop.example/g00893/impl"
)

// expectNoDiagram checks that a diagram is not valid, and that all functions that take one fail.
func expectNoDiagram(t *testing.T, what string, d impl.Diagram) {
	t.Helper()
	if impl.IsValidDiagram(d) || isDiagramByReference(d) {
		t.Errorf("%s is valid: %.100s", what, diagramText(d))
	}
	table, ok := impl.TableOf(d)
	expectTable(t, what+": table", table, ok, "")
	for _, bits := range []string{"", "0", "01", "110", "0101", "0000000000"} {
		if value, ok := impl.EvaluateDiagram(d, bits); value || ok {
			t.Errorf("%s: at %q %v %v", what, bits, value, ok)
		}
	}
	models, ok := impl.CountModels(d)
	expectInt(t, what+": models", models, ok, -1)
	support, ok := impl.DiagramSupport(d)
	expectList(t, what+": support", support, ok, nil)
	text, ok := impl.FormatDiagram(d)
	expectTable(t, what+": text", text, ok, "")
	parsed, ok := impl.ParseDiagram(diagramText(d))
	expectDiagram(t, what+": parsed", parsed, ok, "")
	negated, ok := impl.NegateDiagram(d)
	expectDiagram(t, what+": negated", negated, ok, "")
	for v := range 2 {
		restricted, ok := impl.RestrictDiagram(d, v, v > 0)
		expectDiagram(t, what+": restricted", restricted, ok, "")
		exists, ok := impl.ExistsDiagram(d, v)
		expectDiagram(t, what+": exists", exists, ok, "")
	}
	for op := impl.BoolAnd; op <= impl.BoolXor; op++ {
		for _, other := range []impl.Diagram{d, {Levels: d.Levels}, {Levels: d.Levels, Root: 1}, diagram(t, "3 2; 1?1:0")} {
			combined, ok := impl.CombineDiagrams(op, d, other)
			expectDiagram(t, what+": combined", combined, ok, "")
			combined, ok = impl.CombineDiagrams(op, other, d)
			expectDiagram(t, what+": combined", combined, ok, "")
		}
	}
}

// invalidDiagrams returns texts of diagrams that are not valid, by what is wrong with them.
func invalidDiagrams() map[string]string {
	return map[string]string{
		"levels below 0": "-1 0", "too many levels": "11 0", "too many levels for a node": "11 2; 10?1:0", "the least levels": "-9223372036854775808 1", "the greatest levels": "9223372036854775807 1",
		"no levels, but a node": "0 2; 0?1:0", "a root below 0": "3 -1", "the least root": "3 -9223372036854775808", "the greatest root": "3 9223372036854775807",
		"a root without a node": "3 2", "a root past the nodes": "3 3; 0?1:0", "a root far past the nodes": "3 9; 0?1:0", "a root below 0 with a node": "3 -1; 0?1:0",
		"a level below 0": "3 2; -1?1:0", "the number of levels": "3 2; 3?1:0", "the least level": "3 2; -9223372036854775808?1:0", "the greatest level": "3 2; 9223372036854775807?1:0",
		"a zero value": "3 2; 0?0:0", "equal children that are true": "3 2; 0?1:1", "equal children that are nodes": "3 3; 1?1:0; 0?2:2", "equal children below": "3 3; 1?1:1; 0?2:0",
		"a zero value below": "3 3; 2?0:0; 1?2:1", "a negative Low": "3 2; 0?1:-1", "a negative High": "3 2; 0?-1:0", "a Low past the nodes": "3 2; 0?1:3", "a High past the nodes": "3 2; 0?3:0",
		"the least Low": "3 2; 0?1:-9223372036854775808", "the greatest High": "3 2; 0?9223372036854775807:0", "a node that is its Low": "3 2; 0?1:2", "a node that is its High": "3 2; 0?2:0",
		"a node that is its Low behind another one": "3 3; 1?1:0; 0?2:3", "a reference to a later node": "3 3; 0?3:0; 1?1:0", "a Low that is later": "3 2; 0?1:3; 1?1:0", "two nodes in a circle": "3 3; 0?3:0; 1?2:0",
		"a Low at the same level": "3 3; 1?1:0; 1?1:2", "a High at the same level": "3 3; 1?1:0; 1?2:0", "a Low at a lower level": "3 3; 0?1:0; 1?1:2", "a High at a lower level": "3 3; 0?1:0; 2?2:1",
		"a constant with a node": "3 0; 0?1:0", "the true constant with a node": "3 1; 0?1:0", "a node that is not reached": "3 2; 0?1:0; 1?1:0", "a node before that is not reached": "3 3; 1?1:0; 0?1:0",
		"a node between that is not reached": "3 4; 2?1:0; 1?2:1; 0?2:0", "a node twice, once not reached": "3 3; 0?1:0; 0?1:0", "a node twice at the end": "3 2; 0?1:0; 0?1:0", "a node twice, both reached": "3 4; 2?1:0; 2?1:0; 1?3:2",
		"a node twice below different ones": "3 6; 2?1:0; 1?2:0; 2?1:0; 1?1:4; 0?5:3", "High before Low": "2 4; 1?0:1; 1?1:0; 0?2:3", "nodes of Low in another order": "3 6; 2?1:0; 2?0:1; 1?2:3; 1?3:2; 0?4:5",
		"nodes by levels": "3 6; 2?1:0; 2?0:1; 1?2:0; 1?3:0; 0?5:4", "nodes of High before those of Low": "3 6; 2?0:1; 1?2:0; 2?1:0; 1?4:0; 0?3:5", "a node of High between those of Low": "3 6; 2?1:0; 2?0:1; 1?2:0; 1?3:1; 0?5:4",
	}
}

func TestInvalidDiagrams(t *testing.T) {
	for what, text := range invalidDiagrams() {
		expectNoDiagram(t, what, diagram(t, text))
	}
	nodes := slices.Repeat([]impl.DiagramNode{{Level: 0, Low: 0, High: 1}}, 100000)
	expectNoDiagram(t, "very many equal nodes", impl.Diagram{Levels: 3, Nodes: nodes, Root: 2})
	for k := range nodes {
		nodes[k] = impl.DiagramNode{Level: 9 - k%10, Low: k % 2, High: max(0, k-k%10) + 1 - k%2}
	}
	expectNoDiagram(t, "very many nodes", impl.Diagram{Levels: 10, Nodes: nodes, Root: len(nodes) + 1})
}

// TestManyPathsToAnInvalidDiagram has a ladder of nodes that has 2^9 paths through it, and below that some that are not valid.
func TestManyPathsToAnInvalidDiagram(t *testing.T) {
	ladder := []impl.DiagramNode{{Level: 9, Low: 0, High: 1}, {Level: 9, Low: 1, High: 0}}
	for level := 8; level > 0; level-- {
		low, high := len(ladder), len(ladder)+1
		ladder = append(ladder, impl.DiagramNode{Level: level, Low: low, High: high}, impl.DiagramNode{Level: level, Low: high, High: low})
	}
	ladder = append(ladder, impl.DiagramNode{Level: 0, Low: len(ladder), High: len(ladder) + 1})
	d := impl.Diagram{Levels: 10, Nodes: ladder, Root: len(ladder) + 1}
	parity := tableWith(10, func(bits string) bool { return strings.Count(bits, "1")%2 == 1 })
	if !impl.IsValidDiagram(d) || !sameDiagrams(d, diagramByReference(10, parity)) {
		t.Errorf("%s is not the parity", diagramText(d))
	}
	expectReadings(t, "parity", d, 10, parity)
	for k, n := range ladder {
		for _, edit := range []impl.DiagramNode{{Level: n.Level, Low: n.Low, High: n.Low}, {Level: n.Level, Low: n.High, High: n.Low}, {Level: n.Level, Low: 0, High: n.High}, {Level: n.Level - 1, Low: n.Low, High: n.High}} {
			wrong := impl.Diagram{Levels: 10, Nodes: slices.Clone(ladder), Root: d.Root}
			wrong.Nodes[k] = edit
			if is, wanted := impl.IsValidDiagram(wrong), isDiagramByReference(wrong); is != wanted {
				t.Errorf("node %d %+v: %v instead of %v", k, edit, is, wanted)
			}
		}
	}
}

func TestZeroDiagram(t *testing.T) {
	expectReadings(t, "the zero value", impl.Diagram{}, 0, "0")
	expectChanges(t, "the zero value", impl.Diagram{}, 0, "0")
	negated, ok := impl.NegateDiagram(impl.Diagram{})
	expectDiagram(t, "negated", negated, ok, "0 1")
	expectReadings(t, "negated", negated, 0, "1")
	expectNoDiagram(t, "a zero node", impl.Diagram{Levels: 1, Nodes: make([]impl.DiagramNode, 1), Root: 2})
	for op := impl.BoolAnd; op <= impl.BoolXor; op++ {
		combined, ok := impl.CombineDiagrams(op, impl.Diagram{}, negated)
		expectDiagram(t, "combined", combined, ok, fmt.Sprint("0 ", truthOf(op != impl.BoolAnd)))
	}
}

func TestTextsThatAreNoDiagrams(t *testing.T) {
	good := "2 3; 1?1:0; 0?2:0"
	parsed, ok := impl.ParseDiagram(good)
	expectDiagram(t, good, parsed, ok, good)
	for _, text := range []string{
		"", " ", "2", "2 ", " 3", "2 0 ", " 2 0", "2  0", "2\t0", "2\n0", "2 0\n", "2 0;", "2 0; ", "2 0;  ", "2,0", "2 0 0", "a b", "2 a", "a 0", "2 0x0", "2 1e0", "2 1.0", "2 \x00", "2 \xff", "٢ 0", "2 ０",
		"02 0", "2 00", "+2 0", "2 +0", "-0 0", "2 -0", "2 -1", "-2 0", "2 01", "2 0_0", "1_0 0", "11 0", "99999999999999999999 0", "2 99999999999999999999", "18446744073709551618 0", "2 18446744073709551616",
		"2 3;1?1:0; 0?2:0", "2 3; 1?1:0;0?2:0", "2 3 ; 1?1:0; 0?2:0", "2 3;  1?1:0; 0?2:0", "2 3; 1?1:0; 0?2:0;", "2 3; 1?1:0; 0?2:0; ", "2 3; 1?1:0; 0?2:0 ", " 2 3; 1?1:0; 0?2:0", "2 3; 1?1:0; 0?2:0\n",
		"2 3; 1? 1:0; 0?2:0", "2 3; 1 ?1:0; 0?2:0", "2 3; 1?1 :0; 0?2:0", "2 3; 1?1: 0; 0?2:0", "2 3, 1?1:0, 0?2:0", "2 3; 1:1?0; 0?2:0", "2 3; 1?1?0; 0?2:0", "2 3; 1:1:0; 0?2:0",
		"2 3; 1?1:0; 0?2:", "2 3; 1?1:0; 0?:0", "2 3; 1?1:0; ?2:0", "2 3; 1?1:0; 0?2", "2 3; 1?1:0; 0", "2 3; ; 1?1:0; 0?2:0", "2 3; 1?1:0; ; 0?2:0", "2 3; 1?1:0; 0?2:0; ;", "; 1?1:0", "2; 1?1:0; 0?2:0",
		"2 3; 01?1:0; 0?2:0", "2 3; 1?01:0; 0?2:0", "2 3; 1?1:00; 0?2:0", "2 3; 1?1:0; 00?2:0", "2 3; 1?1:0; 0?02:0", "2 03; 1?1:0; 0?2:0", "2 3; +1?1:0; 0?2:0", "2 3; 1?+1:0; 0?2:0", "2 3; 1?1:-0; 0?2:0", "2 3; 1?1:+0; 0?2:0",
		"2 3; 1?1:0; -0?2:0", "2 3; 1?1:0; 0?2:0; 0?2:0", "2 2; 1?1:0; 0?2:0", "2 3; 0?2:0; 1?1:0", "1 3; 1?1:0; 0?2:0", "2 3; 1?0:1; 0?2:2", "2 3; 1?1:18446744073709551616; 0?2:0", "2 3; 1?1:0; 0?2:0:0", "2 3; 1?1:0; 0?2:0?0",
		"2 3; 1?1:0; 0?2:0\x00", "{2 [] 0}", "2 2; 1?1:b", "2 2; 1?1:", "2 2; 1?1", "2 2; 1?:0", "1 2; ?1:0", "1 2; 0?1:", "1 2; a?1:0", "1 0; ", "1 0; 0?0:0", "0 ", "0", " 0", "0  ",
	} {
		parsed, ok := impl.ParseDiagram(text)
		expectDiagram(t, fmt.Sprintf("%q", text), parsed, ok, "")
	}
}

// TestTextsWithAnotherByte replaces each byte of a text by all others.
func TestTextsWithAnotherByte(t *testing.T) {
	good := "2 3; 1?1:0; 0?2:0"
	wanted := map[string]string{good[:16] + "1": good[:16] + "1"}
	for levels := range 8 {
		text := fmt.Sprint(2+levels) + good[1:]
		wanted[text] = text
	}
	for at := range len(good) {
		for other := range 256 {
			text := good[:at] + string([]byte{byte(other)}) + good[at+1:]
			parsed, ok := impl.ParseDiagram(text)
			expectDiagram(t, fmt.Sprintf("%q", text), parsed, ok, wanted[text])
		}
	}
}

// TestLongTexts has texts of up to 4000 bytes, and longer ones. No diagram has a text of so many.
func TestLongTexts(t *testing.T) {
	d, _ := impl.DiagramOf(10, largestTable())
	long, _ := impl.FormatDiagram(d)
	for _, length := range []int{len(long) + 1, 3999, 4000, 4001, 5000, 1 << 20} {
		for _, filler := range []string{" ", "0", "; ", "; 9?1:0", "; 0?1:0", "\x00", ";"} {
			filled := strings.Repeat(filler, length)[:length-len(long)]
			for _, text := range []string{long + filled, filled + long, strings.Repeat(filler, length)[:length], "10 2" + strings.Repeat(filler, length)[:length-4]} {
				parsed, ok := impl.ParseDiagram(text)
				expectDiagram(t, fmt.Sprintf("%d bytes of %.30q", length, text), parsed, ok, "")
			}
		}
	}
	parsed, ok := impl.ParseDiagram(long)
	expectDiagram(t, "the longest text", parsed, ok, long)
}
