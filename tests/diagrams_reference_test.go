package tests

import (
	"fmt"
	"maps"
	"math/rand"
	"slices"
	"strconv"
	"strings"
	"testing"

	"loop.example/g00893/impl"
)

// cofactor is what is left of a function after decisions at all levels before the given one.
type cofactor struct {
	level int
	table string
}

func (c cofactor) half(bit int) cofactor {
	size := len(c.table) / 2
	return cofactor{c.level + 1, c.table[bit*size : (bit+1)*size]}
}

// isDecided reports whether the function does not depend on its first level, or has none.
func (c cofactor) isDecided() bool { return len(c.table) == 1 || c.half(0) == c.half(1) }

// dependent skips the first levels on which the function does not depend.
func (c cofactor) dependent() cofactor {
	for len(c.table) > 1 && c.isDecided() {
		c = c.half(0)
	}
	return c
}

// cofactorsInOrder lists what is left after each sequence of decisions, which comes after all longer ones that begin with
// it, and after those with a 0 where it has a 1.
func cofactorsInOrder(levels int, table string) []cofactor {
	after := map[string]cofactor{}
	for level := range levels + 1 {
		size := len(table) >> level
		for i, decisions := range assignmentsOf(level) {
			after[decisions+"2"] = cofactor{level, table[i*size : (i+1)*size]}
		}
	}
	var list []cofactor
	for _, decisions := range slices.Sorted(maps.Keys(after)) {
		list = append(list, after[decisions])
	}
	return list
}

// diagramByReference has a node for each different cofactor that depends on its first level.
func diagramByReference(levels int, table string) impl.Diagram {
	refs := map[cofactor]int{{levels, "0"}: 0, {levels, "1"}: 1}
	d := impl.Diagram{Levels: levels}
	for _, c := range cofactorsInOrder(levels, table) {
		if _, ok := refs[c]; !ok && !c.isDecided() {
			refs[c] = 2 + len(d.Nodes)
			d.Nodes = append(d.Nodes, impl.DiagramNode{Level: c.level, Low: refs[c.half(0).dependent()], High: refs[c.half(1).dependent()]})
		}
	}
	d.Root = refs[cofactor{0, table}.dependent()]
	return d
}

// valueByWalk goes from Root to a constant, and fails if it comes to a reference that there is not, or to a level that there
// is not or that is not greater than the ones before.
func valueByWalk(d impl.Diagram, bits string) (string, bool) {
	ref, next := d.Root, 0
	for ref != 0 && ref != 1 {
		if ref < 0 || ref-2 >= len(d.Nodes) {
			return "", false
		}
		n := d.Nodes[ref-2]
		if n.Level < next || n.Level >= d.Levels {
			return "", false
		}
		next = n.Level + 1
		if ref = n.Low; bits[n.Level] == '1' {
			ref = n.High
		}
	}
	return fmt.Sprint(ref), true
}

// tableByWalks returns the truth table of a diagram whose walks do not fail.
func tableByWalks(d impl.Diagram) (string, bool) {
	if d.Levels < 0 || d.Levels > 10 {
		return "", false
	}
	table := ""
	for _, bits := range assignmentsOf(d.Levels) {
		value, ok := valueByWalk(d, bits)
		if !ok {
			return "", false
		}
		table += value
	}
	return table, true
}

// isDiagramByReference reports whether a diagram is the only valid one that represents its function.
func isDiagramByReference(d impl.Diagram) bool {
	table, ok := tableByWalks(d)
	return ok && sameDiagrams(d, diagramByReference(d.Levels, table))
}

func sameDiagrams(a, b impl.Diagram) bool { return fmt.Sprint(a) == fmt.Sprint(b) }

// diagramText is the reference for FormatDiagram.
func diagramText(d impl.Diagram) string {
	var text strings.Builder
	fmt.Fprintf(&text, "%d %d", d.Levels, d.Root)
	for _, n := range d.Nodes {
		fmt.Fprintf(&text, "; %d?%d:%d", n.Level, n.High, n.Low)
	}
	return text.String()
}

// diagram reads a diagram, which need not be valid.
func diagram(t *testing.T, text string) impl.Diagram {
	t.Helper()
	parts := strings.Split(text, "; ")
	var d impl.Diagram
	_, err := fmt.Sscanf(parts[0], "%d %d", &d.Levels, &d.Root)
	for _, part := range parts[1:] {
		var n impl.DiagramNode
		if _, errNode := fmt.Sscanf(part, "%d?%d:%d", &n.Level, &n.High, &n.Low); errNode != nil {
			err = errNode
		}
		d.Nodes = append(d.Nodes, n)
	}
	if err != nil || diagramText(d) != text {
		t.Fatalf("%q is no diagram", text)
	}
	return d
}

// tableWith returns the truth table that has the value of a function for each assignment.
func tableWith(levels int, value func(bits string) bool) string {
	table := ""
	for _, bits := range assignmentsOf(levels) {
		table += fmt.Sprint(truthOf(value(bits)))
	}
	return table
}

// valueIn returns the value of an assignment, which is the binary representation of its index in a table.
func valueIn(table, bits string) bool {
	index, _ := strconv.ParseUint("0"+bits, 2, 64)
	return table[index] == '1'
}

// withBit returns an assignment with another bit at a level.
func withBit(bits string, level int, bit string) string { return bits[:level] + bit + bits[level+1:] }

// restrictedTable is the reference for RestrictDiagram.
func restrictedTable(levels int, table string, v int, bit string) string {
	return tableWith(levels, func(bits string) bool { return valueIn(table, withBit(bits, v, bit)) })
}

// existsTable is the reference for ExistsDiagram.
func existsTable(levels int, table string, v int) string {
	return tableWith(levels, func(bits string) bool {
		return valueIn(table, withBit(bits, v, "0")) || valueIn(table, withBit(bits, v, "1"))
	})
}

// combinedTable is the reference for CombineDiagrams.
func combinedTable(op int, a, b string) string {
	truths := []string{impl.BoolAnd: "0001", impl.BoolOr: "0111", impl.BoolXor: "0110"}[op]
	table := ""
	for i := range a {
		table += truths[2*(a[i]-'0')+b[i]-'0':][:1]
	}
	return table
}

// negatedTable is the reference for NegateDiagram.
func negatedTable(table string) string { return strings.NewReplacer("0", "1", "1", "0").Replace(table) }

// supportOf is the reference for DiagramSupport.
func supportOf(levels int, table string) []int {
	support := []int{}
	for v := range levels {
		if restrictedTable(levels, table, v, "0") != restrictedTable(levels, table, v, "1") {
			support = append(support, v)
		}
	}
	return support
}

// randomTable returns the truth table of any function, of one that depends on the sum of weights of the bits, or of one of
// some of the bits. A weight may be 0.
func randomTable(source *rand.Rand, levels int) string {
	weights := make([]int, levels)
	for level := range weights {
		weights[level] = source.Intn(4)
	}
	kind, density := source.Intn(3), 1+source.Intn(8)
	values := map[string]bool{}
	return tableWith(levels, func(bits string) bool {
		key, sum := bits, 0
		for level, weight := range weights {
			sum += weight * int(bits[level]-'0')
			if weight == 0 && kind == 2 {
				key = withBit(key, level, "0")
			}
		}
		if kind == 1 {
			key = fmt.Sprint(sum)
		}
		if _, ok := values[key]; !ok {
			values[key] = source.Intn(9) < density
		}
		return values[key]
	})
}

// largestTable returns a truth table of 10 levels whose diagram has as many nodes as possible: the functions of the last
// three levels are 128 different ones that depend on the first of these, and among the functions of the last two are all.
func largestTable() string {
	table := ""
	quarters := assignmentsOf(4)
	for i, first := range quarters {
		for j, second := range quarters {
			if i < j || i > 7 && j == 0 {
				table += first + second
			}
		}
	}
	return table
}
