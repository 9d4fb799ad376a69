package tests

import (
	"fmt"
	"math"
	"math/rand"
	"reflect"
	"regexp"
	"slices"
	"strings"
	"testing"

	"loop.example/g00893/impl"
)

// randomDiagrams calls check with three random diagrams with the same levels, of at most that many, and their truth tables.
func randomDiagrams(seed int64, count, most int, check func(source *rand.Rand, levels int, diagrams []impl.Diagram, tables []string)) {
	source := rand.New(rand.NewSource(seed))
	for i := range count {
		levels := i % (most + 1)
		var diagrams []impl.Diagram
		var tables []string
		for range 3 {
			table := randomTable(source, levels)
			diagrams, tables = append(diagrams, diagramByReference(levels, table)), append(tables, table)
		}
		check(source, levels, diagrams, tables)
	}
}

// algebra applies operations that must succeed.
type algebra struct{ t *testing.T }

func (x algebra) made(d impl.Diagram, ok bool) impl.Diagram {
	x.t.Helper()
	if !ok || !impl.IsValidDiagram(d) {
		x.t.Fatalf("%s %v", diagramText(d), ok)
	}
	return d
}

func (x algebra) and(a, b impl.Diagram) impl.Diagram {
	return x.made(impl.CombineDiagrams(impl.BoolAnd, a, b))
}

func (x algebra) or(a, b impl.Diagram) impl.Diagram {
	return x.made(impl.CombineDiagrams(impl.BoolOr, a, b))
}

func (x algebra) xor(a, b impl.Diagram) impl.Diagram {
	return x.made(impl.CombineDiagrams(impl.BoolXor, a, b))
}

func (x algebra) not(d impl.Diagram) impl.Diagram { return x.made(impl.NegateDiagram(d)) }

func (x algebra) exists(d impl.Diagram, v int) impl.Diagram { return x.made(impl.ExistsDiagram(d, v)) }

func (x algebra) at(d impl.Diagram, v int, value bool) impl.Diagram {
	return x.made(impl.RestrictDiagram(d, v, value))
}

func (x algebra) variable(levels, v int) impl.Diagram {
	return x.made(impl.VariableDiagram(levels, v))
}

func (x algebra) constant(levels int, value bool) impl.Diagram {
	return x.made(impl.ConstantDiagram(levels, value))
}

func (x algebra) expectLaws(laws map[string][2]impl.Diagram) {
	x.t.Helper()
	for law, sides := range laws {
		if !impl.EqualDiagram(sides[0], sides[1]) || !sameDiagrams(sides[0], sides[1]) {
			x.t.Fatalf("%s: %s differs from %s", law, diagramText(sides[0]), diagramText(sides[1]))
		}
	}
}

func TestPromise10BooleanLaws(t *testing.T) {
	x := algebra{t}
	randomDiagrams(101, 800, 10, func(source *rand.Rand, levels int, diagrams []impl.Diagram, tables []string) {
		a, b, c := diagrams[0], diagrams[1], diagrams[2]
		zero, one := x.constant(levels, false), x.constant(levels, true)
		x.expectLaws(map[string][2]impl.Diagram{
			"and commutes": {x.and(a, b), x.and(b, a)}, "or commutes": {x.or(a, b), x.or(b, a)}, "xor commutes": {x.xor(a, b), x.xor(b, a)},
			"and associates": {x.and(a, x.and(b, c)), x.and(x.and(a, b), c)}, "or associates": {x.or(a, x.or(b, c)), x.or(x.or(a, b), c)},
			"xor associates": {x.xor(a, x.xor(b, c)), x.xor(x.xor(a, b), c)}, "and distributes": {x.and(a, x.or(b, c)), x.or(x.and(a, b), x.and(a, c))},
			"or distributes": {x.or(a, x.and(b, c)), x.and(x.or(a, b), x.or(a, c))}, "and distributes over xor": {x.and(a, x.xor(b, c)), x.xor(x.and(a, b), x.and(a, c))},
			"absorbed by and": {x.and(a, x.or(a, b)), a}, "absorbed by or": {x.or(a, x.and(a, b)), a}, "negation of and": {x.not(x.and(a, b)), x.or(x.not(a), x.not(b))},
			"negation of or": {x.not(x.or(a, b)), x.and(x.not(a), x.not(b))}, "negation of xor": {x.not(x.xor(a, b)), x.xor(x.not(a), b)}, "double negation": {x.not(x.not(a)), a},
			"xor by others": {x.xor(a, b), x.or(x.and(a, x.not(b)), x.and(x.not(a), b))}, "xor undone": {x.xor(x.xor(a, b), b), a}, "idempotent and": {x.and(a, a), a}, "idempotent or": {x.or(a, a), a},
			"and with its negation": {x.and(a, x.not(a)), zero}, "or with its negation": {x.or(a, x.not(a)), one}, "xor with its negation": {x.xor(a, x.not(a)), one}, "xor with itself": {x.xor(a, a), zero},
			"and with false": {x.and(a, zero), zero}, "and with true": {x.and(one, a), a}, "or with false": {x.or(zero, a), a}, "or with true": {x.or(a, one), one},
			"xor with false": {x.xor(a, zero), a}, "xor with true": {x.xor(one, a), x.not(a)}, "negated constant": {x.not(zero), one},
		})
	})
}

func TestPromise10LawsOfLevels(t *testing.T) {
	x := algebra{t}
	randomDiagrams(102, 1000, 10, func(source *rand.Rand, levels int, diagrams []impl.Diagram, tables []string) {
		if levels == 0 {
			return
		}
		a, b, v, w := diagrams[0], diagrams[1], source.Intn(levels), source.Intn(levels)
		bit, other := source.Intn(2) == 0, source.Intn(2) == 0
		if v == w {
			other = bit
		}
		is, low, high := x.variable(levels, v), x.at(a, v, false), x.at(a, v, true)
		x.expectLaws(map[string][2]impl.Diagram{
			"expansion":              {a, x.or(x.and(is, high), x.and(x.not(is), low))},
			"exists":                 {x.exists(a, v), x.or(low, high)},
			"restriction twice":      {x.at(x.at(a, v, bit), v, !bit), x.at(a, v, bit)},
			"exists of restriction":  {x.exists(low, v), low},
			"restriction of exists":  {x.at(x.exists(a, v), v, bit), x.exists(a, v)},
			"exists commutes":        {x.exists(x.exists(a, v), w), x.exists(x.exists(a, w), v)},
			"restriction commutes":   {x.at(x.at(a, v, bit), w, other), x.at(x.at(a, w, other), v, bit)},
			"exists of or":           {x.exists(x.or(a, b), v), x.or(x.exists(a, v), x.exists(b, v))},
			"exists of less":         {x.or(a, x.exists(a, v)), x.exists(a, v)},
			"restriction of and":     {x.at(x.and(a, b), v, bit), x.and(x.at(a, v, bit), x.at(b, v, bit))},
			"restriction of xor":     {x.at(x.xor(a, b), v, bit), x.xor(x.at(a, v, bit), x.at(b, v, bit))},
			"restriction of not":     {x.at(x.not(a), v, bit), x.not(x.at(a, v, bit))},
			"restricted variable":    {x.at(is, v, bit), x.constant(levels, bit)},
			"exists of a variable":   {x.exists(is, v), x.constant(levels, true)},
			"exists of independence": {x.exists(x.and(a, low), v), x.and(x.exists(a, v), low)},
		})
		for _, without := range []impl.Diagram{low, high, x.exists(a, v)} {
			if support, ok := impl.DiagramSupport(without); !ok || slices.Contains(support, v) || without.Levels != levels {
				t.Fatalf("%s depends on level %d: %v", diagramText(without), v, support)
			}
		}
	})
}

// TestPromise10Models counts the models of combinations.
func TestPromise10Models(t *testing.T) {
	x := algebra{t}
	count := func(d impl.Diagram) int {
		models, ok := impl.CountModels(d)
		if !ok {
			t.Fatalf("%s has no number of models", diagramText(d))
		}
		return models
	}
	randomDiagrams(103, 1000, 10, func(source *rand.Rand, levels int, diagrams []impl.Diagram, tables []string) {
		a, b := diagrams[0], diagrams[1]
		if count(a) != strings.Count(tables[0], "1") || count(a)+count(x.not(a)) != 1<<levels {
			t.Fatalf("%s has %d models", diagramText(a), count(a))
		}
		if count(x.or(a, b))+count(x.and(a, b)) != count(a)+count(b) || count(x.or(a, b))-count(x.and(a, b)) != count(x.xor(a, b)) {
			t.Fatalf("the models of %s and %s", diagramText(a), diagramText(b))
		}
		if levels > 0 {
			v := source.Intn(levels)
			if low, high := count(x.at(a, v, false)), count(x.at(a, v, true)); low+high != 2*count(a) || low%2 != 0 {
				t.Fatalf("%s has %d and %d models at level %d", diagramText(a), low, high, v)
			}
		}
	})
}

// TestPromise10EqualFunctionsHaveEqualDiagrams applies random operations to diagrams and to their truth tables.
func TestPromise10EqualFunctionsHaveEqualDiagrams(t *testing.T) {
	x := algebra{t}
	met, again := map[string]string{}, 0
	randomDiagrams(104, 2400, 7, func(source *rand.Rand, levels int, diagrams []impl.Diagram, tables []string) {
		for range 6 {
			i, j, v := source.Intn(len(diagrams)), source.Intn(len(diagrams)), source.Intn(levels+1)
			d, table := diagrams[i], tables[i]
			switch op := source.Intn(7); {
			case op == 0:
				d, table = x.not(d), negatedTable(table)
			case op <= impl.BoolXor:
				d, table = x.made(impl.CombineDiagrams(op, d, diagrams[j])), combinedTable(op, table, tables[j])
			case v == levels:
				d, table = x.constant(levels, op == 4), strings.Repeat([]string{4: "1", 5: "0", 6: "0"}[op], 1<<levels)
			case op == 4:
				d, table = x.exists(d, v), existsTable(levels, table, v)
			case op == 5:
				d, table = x.at(d, v, true), restrictedTable(levels, table, v, "1")
			default:
				d, table = x.variable(levels, v), tableWith(levels, func(bits string) bool { return bits[v] == '1' })
			}
			diagrams, tables = append(diagrams, d), append(tables, table)
		}
		for i, d := range diagrams {
			of, ok := impl.DiagramOf(levels, tables[i])
			expectFunction(t, "diagram", d, true, levels, tables[i])
			expectFunction(t, "of its table", of, ok, levels, tables[i])
			if text := diagramText(d); met[tables[i]] != "" && met[tables[i]] != text {
				t.Errorf("%s and %s are of the same function", met[tables[i]], text)
			}
			again += truthOf(met[tables[i]] != "")
			met[tables[i]] = diagramText(d)
			for j, other := range diagrams {
				if impl.EqualDiagram(d, other) != (tables[i] == tables[j]) {
					t.Fatalf("%s and %s", diagramText(d), diagramText(other))
				}
			}
		}
		if t.Failed() {
			t.FailNow()
		}
	})
	if len(met) < 5000 || again < 2000 {
		t.Errorf("%d functions, which were met again %d times", len(met), again)
	}
}

func TestDiagramsAgreeWithReference(t *testing.T) {
	most, independent, constant := 0, 0, 0
	randomDiagrams(105, 330, 10, func(source *rand.Rand, levels int, diagrams []impl.Diagram, tables []string) {
		if levels > 7 && source.Intn(4) > 0 {
			return
		}
		expectAllOf(t, levels, tables[0])
		for op := impl.BoolAnd; op <= impl.BoolXor; op++ {
			combined, ok := impl.CombineDiagrams(op, diagrams[0], diagrams[1])
			expectFunction(t, "combined", combined, ok, levels, combinedTable(op, tables[0], tables[1]))
		}
		most = max(most, len(diagrams[0].Nodes))
		support := supportOf(levels, tables[0])
		independent += truthOf(len(support) > 0 && len(support) < levels)
		constant += truthOf(len(support) == 0)
		if t.Failed() {
			t.FailNow()
		}
	})
	if most < 150 || independent < 30 || constant < 10 {
		t.Errorf("at most %d nodes, %d of fewer levels, %d constant", most, independent, constant)
	}
}

// reorderedNodes returns a diagram with its nodes in the order of a list of their indices.
func reorderedNodes(d impl.Diagram, order []int) impl.Diagram {
	place := func(ref int) int {
		if ref < 2 || ref-2 >= len(order) {
			return ref
		}
		return 2 + slices.Index(order, ref-2)
	}
	reordered := impl.Diagram{Levels: d.Levels, Root: place(d.Root)}
	for _, k := range order {
		n := d.Nodes[k]
		reordered.Nodes = append(reordered.Nodes, impl.DiagramNode{Level: n.Level, Low: place(n.Low), High: place(n.High)})
	}
	return reordered
}

// spoilDiagram changes a diagram in a place of its own memory, which may leave it valid.
func spoilDiagram(source *rand.Rand, d *impl.Diagram) {
	d.Nodes = slices.Clone(d.Nodes)
	count := len(d.Nodes)
	near := func(n int) int { return n + []int{-1, 1, 2, -2, 0, 10, math.MinInt, math.MaxInt}[source.Intn(8)] }
	kind := source.Intn(10)
	if count == 0 {
		kind = 7 + kind%3
	}
	switch kind {
	case 0, 1, 2:
		n := &d.Nodes[source.Intn(count)]
		field := []*int{&n.Level, &n.Low, &n.High}[kind]
		*field = near(*field)
	case 3:
		n := &d.Nodes[source.Intn(count)]
		n.Low, n.High = n.High, n.Low
	case 4:
		*d = reorderedNodes(*d, source.Perm(count))
	case 5:
		order := slices.Sorted(slices.Values(source.Perm(count)))
		if at := source.Intn(count); at > 0 {
			order[at-1], order[at] = at, at-1
		}
		*d = reorderedNodes(*d, order)
	case 6:
		d.Nodes = append(d.Nodes, d.Nodes[source.Intn(count)])
		if source.Intn(2) == 0 {
			d.Root = 2 + count
		}
	case 7:
		d.Levels = near(d.Levels)
	case 8:
		d.Root = near(d.Root)
	case 9:
		n := impl.DiagramNode{Level: source.Intn(d.Levels + 1), Low: source.Intn(count + 3), High: source.Intn(count + 3)}
		d.Nodes, d.Root = append(d.Nodes, n), 2+count
	}
}

func TestValidityOfDiagramsAgreesWithReference(t *testing.T) {
	valid, invalid, well := 0, 0, 0
	randomDiagrams(106, 12000, 5, func(source *rand.Rand, levels int, diagrams []impl.Diagram, tables []string) {
		for i, d := range diagrams {
			for range 1 + i/2 {
				if d.Levels >= 0 && d.Levels <= 10 {
					spoilDiagram(source, &d)
				}
			}
			wanted := isDiagramByReference(d)
			if impl.IsValidDiagram(d) != wanted {
				t.Fatalf("%s: validity is not %v", diagramText(d), wanted)
			}
			if table, ok := impl.TableOf(d); ok != wanted || ok == (table == "") {
				t.Fatalf("%s: table %q %v", diagramText(d), table, ok)
			}
			_, represents := tableByWalks(d)
			valid += truthOf(wanted)
			invalid += truthOf(!wanted && !represents)
			well += truthOf(!wanted && represents)
		}
	})
	if min(valid, invalid, well) < 4000 {
		t.Errorf("%d valid, %d without a function, %d with one", valid, invalid, well)
	}
}

// patternOfDiagrams is the form of the texts of diagrams.
var patternOfDiagrams = regexp.MustCompile(`^(0|[1-9]\d?) (0|[1-9]\d{0,2})(; \d\?(0|[1-9]\d{0,2}):(0|[1-9]\d{0,2}))*$`)

// TestParsedDiagramsAgreeWithReference has texts of diagrams with few changes.
func TestParsedDiagramsAgreeWithReference(t *testing.T) {
	parsed, failed, formed := 0, 0, 0
	randomDiagrams(107, 6000, 4, func(source *rand.Rand, levels int, diagrams []impl.Diagram, tables []string) {
		text := []byte(diagramText(diagrams[0]))
		for range source.Intn(3) {
			at, piece := source.Intn(len(text)), []string{"", "0", "1", "2", "3", " ", ";", "; ", "?", ":", "-", "+", "\n", "00", "; 0?1:0"}[source.Intn(15)]
			text = slices.Concat(text[:at], []byte(piece), text[at+source.Intn(2):])
			if len(text) == 0 {
				return
			}
		}
		isFormed := patternOfDiagrams.Match(text)
		wanted := ""
		if isFormed && isDiagramByReference(diagram(t, string(text))) {
			wanted = string(text)
		}
		d, ok := impl.ParseDiagram(string(text))
		expectDiagram(t, fmt.Sprintf("%q", text), d, ok, wanted)
		parsed += truthOf(ok)
		failed += truthOf(!isFormed)
		formed += truthOf(isFormed && !ok)
	})
	if min(parsed, failed, formed) < 300 {
		t.Errorf("%d texts of diagrams, %d others, %d of the same form", parsed, failed, formed)
	}
}

// diagramArguments are arguments of the functions of chapter 10.
type diagramArguments struct {
	a, b              impl.Diagram
	op, levels, v     int
	value             bool
	table, bits, text string
}

// diagramCalls returns the results of all functions of chapter 10 that may fail, each followed by whether it succeeded.
func diagramCalls(x diagramArguments) []any {
	of, okOf := impl.DiagramOf(x.levels, x.table)
	table, okTable := impl.TableOf(x.a)
	constant, okConstant := impl.ConstantDiagram(x.levels, x.value)
	variable, okVariable := impl.VariableDiagram(x.levels, x.v)
	value, okValue := impl.EvaluateDiagram(x.a, x.bits)
	negated, okNegated := impl.NegateDiagram(x.a)
	combined, okCombined := impl.CombineDiagrams(x.op, x.a, x.b)
	restricted, okRestricted := impl.RestrictDiagram(x.a, x.v, x.value)
	exists, okExists := impl.ExistsDiagram(x.a, x.v)
	models, okModels := impl.CountModels(x.a)
	support, okSupport := impl.DiagramSupport(x.a)
	text, okText := impl.FormatDiagram(x.a)
	parsed, okParsed := impl.ParseDiagram(x.text)
	return []any{
		of, okOf, table, okTable, constant, okConstant, variable, okVariable, value, okValue, negated, okNegated, combined, okCombined,
		restricted, okRestricted, exists, okExists, models, okModels, support, okSupport, text, okText, parsed, okParsed,
	}
}

// expectDiagramsConsistent checks which calls succeed, and that those that fail return zero values.
func expectDiagramsConsistent(t *testing.T, x diagramArguments) {
	t.Helper()
	isBits := func(s string, n int) bool { return len(s) == n && strings.Count(s, "0")+strings.Count(s, "1") == n }
	okA, okB, okLevels := isDiagramByReference(x.a), isDiagramByReference(x.b), x.levels >= 0 && x.levels <= 10
	okLevel := okA && x.v >= 0 && x.v < x.a.Levels
	okText := patternOfDiagrams.MatchString(x.text) && isDiagramByReference(diagram(t, x.text))
	wanted := []bool{
		okLevels && isBits(x.table, 1<<max(0, x.levels)), okA, okLevels, okLevels && x.v >= 0 && x.v < x.levels, okA && isBits(x.bits, x.a.Levels), okA,
		okA && okB && x.a.Levels == x.b.Levels && x.op >= 1 && x.op <= 3, okLevel, okLevel, okA, okA, okA, okText,
	}
	none := impl.Diagram{}
	zeros := []any{none, "", none, none, false, none, none, none, none, 0, []int(nil), "", none}
	results := diagramCalls(x)
	for i, ok := range wanted {
		if results[2*i+1] != ok || !ok && !reflect.DeepEqual(results[2*i], zeros[i]) {
			t.Fatalf("function %d, success %v: %+v: %v", i, ok, x, results[2*i])
		}
	}
	if impl.IsValidDiagram(x.a) != okA || impl.EqualDiagram(x.a, x.b) != sameDiagrams(x.a, x.b) || !impl.EqualDiagram(x.a, x.a) {
		t.Fatalf("%+v: validity or equality", x)
	}
}

// manyDiagrams returns diagrams, many of which are not valid.
func manyDiagrams(t *testing.T, seed int64) []impl.Diagram {
	list := []impl.Diagram{{}, {Nodes: make([]impl.DiagramNode, 1)}, diagramByReference(10, largestTable())}
	for _, text := range invalidDiagrams() {
		list = append(list, diagram(t, text))
	}
	slices.SortFunc(list, func(a, b impl.Diagram) int { return strings.Compare(diagramText(a), diagramText(b)) })
	randomDiagrams(seed, 600, 6, func(source *rand.Rand, levels int, diagrams []impl.Diagram, tables []string) {
		spoilDiagram(source, &diagrams[2])
		list = append(list, diagrams...)
	})
	return list
}

func TestPromise33DiagramsAcceptsAllArguments(t *testing.T) {
	diagrams := manyDiagrams(t, 108)
	source := rand.New(rand.NewSource(109))
	numbers := []int{math.MinInt, -1, 0, 0, 1, 1, 2, 2, 3, 3, 4, 5, 9, 10, 11, 63, 64, math.MaxInt}
	texts := []string{"", "0", "1", "01", "11", "0110", "000", "2", "é", "1x", "\x00", "\xff", "10000110", strings.Repeat("1", 10), strings.Repeat("01", 512), strings.Repeat("0", 2048), "0 0", "2 3; 1?1:0; 0?2:0", "; ", "9?1:0", strings.Repeat("1 ", 2500)}
	for i, d := range diagrams {
		for range 4 {
			x := diagramArguments{a: d, b: diagrams[source.Intn(len(diagrams))], value: source.Intn(2) == 0}
			if source.Intn(2) == 0 {
				x.b = diagrams[max(0, i-source.Intn(3))]
			}
			for _, n := range []*int{&x.op, &x.levels, &x.v} {
				*n = numbers[source.Intn(len(numbers))]
			}
			for _, text := range []*string{&x.table, &x.bits, &x.text} {
				*text = texts[source.Intn(len(texts))]
			}
			if source.Intn(2) == 0 && x.levels >= 0 && x.levels <= 10 {
				x.table = randomTable(source, x.levels)
			}
			if source.Intn(2) == 0 && d.Levels >= 0 && d.Levels <= 10 {
				x.bits, x.text = "0110100101"[:d.Levels], diagramText(d)
			}
			expectDiagramsConsistent(t, x)
		}
	}
}

// diagramWithSpare returns a copy of a diagram whose nodes have spare capacity.
func diagramWithSpare(d impl.Diagram) impl.Diagram {
	d.Nodes = withSpare(d.Nodes, impl.DiagramNode{Level: 1, Low: 1}, impl.DiagramNode{Level: -5, Low: 99, High: 99})
	return d
}

// memoryOfResults returns the memory of nodes, lists and texts. Texts of one byte are left out, because they may lie where
// all such texts do.
func memoryOfResults(results []any) []span {
	var spans []span
	for _, result := range results {
		switch r := result.(type) {
		case impl.Diagram:
			spans = append(spans, spanOf(r.Nodes))
		case []int:
			spans = append(spans, spanOf(r))
		case string:
			if len(r) > 1 {
				spans = append(spans, memoryOf(r))
			}
		}
	}
	return slices.DeleteFunc(spans, func(s span) bool { return s.start == s.end })
}

func TestPromise33DiagramsNeitherModifiesNorShares(t *testing.T) {
	diagrams := manyDiagrams(t, 110)
	for i, plain := range diagrams {
		a, b := diagramWithSpare(plain), diagramWithSpare(diagrams[max(0, i-1)])
		beforeA, beforeB := slices.Clone(a.Nodes[:cap(a.Nodes)]), slices.Clone(b.Nodes[:cap(b.Nodes)])
		levels := max(0, min(10, a.Levels))
		x := diagramArguments{a: a, b: b, op: 1 + i%3, levels: levels, v: i % (levels + 1), value: i%2 == 0, text: diagramText(a)}
		x.table, x.bits = strings.Clone(strings.Repeat("0110", 256)[:1<<levels]), strings.Clone("1001011010"[:levels])
		calls := diagramCalls(x)
		first := describe(calls)
		expectApart(t, fmt.Sprint("case ", i), memoryOfResults(calls), []span{spanOf(a.Nodes), spanOf(b.Nodes), memoryOf(x.table), memoryOf(x.bits), memoryOf(x.text)})
		expectUnshared(t, calls, overwrite)
		if !slices.Equal(a.Nodes[:cap(a.Nodes)], beforeA) || !slices.Equal(b.Nodes[:cap(b.Nodes)], beforeB) {
			t.Fatalf("case %d: a diagram was modified, or a result shares its memory", i)
		}
		x.a, x.b = plain, diagrams[max(0, i-1)]
		if again := describe(diagramCalls(x)); again != first {
			t.Fatalf("case %d: the results depend on more than the arguments: %s and %s", i, first, again)
		}
	}
}
