package tests

import (
	"fmt"
	"math"
	"math/rand"
	"reflect"
	"slices"
	"strings"
	"testing"
	"unsafe"

	"loop.example/g00893/impl"
)

// randomShortProgram returns a valid program in which statements use the first expressions more often than the others.
func randomShortProgram(source *rand.Rand, maxStmts int) impl.Program {
	p := randomProgram(source, maxStmts)
	if source.Intn(4) == 0 {
		steepen(source, p.Exprs)
	}
	for i := range p.Stmts {
		p.Stmts[i].Expr %= 1 + source.Intn(24)
	}
	return p
}

// steepen replaces operands by later ones, so that texts become long.
func steepen(source *rand.Rand, exprs []impl.Expr) {
	for at := range exprs {
		if x := &exprs[at]; strings.Contains(fieldsOfOperators[x.Op], "B") {
			x.A, x.B = max(0, at-1-source.Intn(3)), max(0, at-1-source.Intn(4))
		}
	}
}

// spaced joins tokens by random separators, and by none where the tokens stay apart without.
func spaced(source *rand.Rand, tokens []string) string {
	text := ""
	for i, token := range tokens {
		separator := []string{"", "", " ", "\n", " \n ", "\n\n  "}[source.Intn(6)]
		if i > 0 && separator == "" && len(tokenPattern.FindAllString(tokens[i-1]+token, -1)) == 1 {
			separator = " "
		}
		text += separator + token
	}
	return text
}

func TestPromise4ParsingTheTextYieldsTheNormalForm(t *testing.T) {
	source := rand.New(rand.NewSource(43))
	normal, others, renumbered := 0, 0, 0
	for i := range 4000 {
		p := randomShortProgram(source, i%25)
		n, ok := impl.NormalizeProgram(p)
		text, okText := impl.FormatProgram(p)
		if ok != (exprsInText(p) <= 40) || okText != ok {
			t.Fatalf("%+v: normal form %v, text %v", p, ok, okText)
		}
		if !ok {
			if others++; text != "" || !impl.EqualPrograms(n, impl.Program{}) {
				t.Fatalf("%+v: %q, %+v", p, text, n)
			}
			continue
		}
		if !impl.IsValidProgram(n) || !isNormalForm(n) || text != programText(p) || text != programText(n) {
			t.Fatalf("%+v: normal form %+v, text %q", p, n, text)
		}
		expectParsed(t, text, n)
		tokens, _ := tokensByPattern(text)
		expectParsed(t, spaced(source, tokens), n)
		expectText(t, n, text)
		normal++
		renumbered += truthOf(!slices.EqualFunc(p.Stmts, n.Stmts, func(a, b impl.Stmt) bool { return a.Kind == b.Kind }))
	}
	if normal < 2000 || others < 300 || renumbered < 1000 {
		t.Errorf("%d normal forms, %d programs without, %d with other numbers", normal, others, renumbered)
	}
}

func TestPromise4NormalFormHasTheSameResult(t *testing.T) {
	source := rand.New(rand.NewSource(44))
	finished, changes := 0, 0
	for i := range 6000 {
		p := randomShortProgram(source, 1+i%24)
		text, ok := impl.FormatProgram(p)
		if !ok {
			continue
		}
		q, ok := impl.ParseProgram(text)
		if !ok {
			t.Fatalf("%q is rejected", text)
		}
		for seed := range int64(5) {
			a := run{p: p, source: rand.New(rand.NewSource(seed)), values: make([]int, len(p.Vars))}
			b := run{p: q, source: rand.New(rand.NewSource(seed)), values: make([]int, len(q.Vars))}
			ends := a.block(p.Body, p.Fuel)
			if ends != b.block(q.Body, q.Fuel) || !slices.Equal(a.values, b.values) || !slices.Equal(a.sizes, b.sizes) || a.steps != b.steps {
				t.Fatalf("%q: %v and %v", text, a.values, b.values)
			}
			finished += truthOf(ends)
			changes += truthOf(slices.Max(a.values) > 0)
		}
	}
	if finished < 3000 || changes < 3000 {
		t.Errorf("%d executions finished, %d with other values than 0", finished, changes)
	}
}

// mutate makes a small random change to a list of tokens.
func mutate(source *rand.Rand, tokens []string) []string {
	words := strings.Fields("a b c d e f g h x1 abcdefgh abcdefghi 1x 0 1 2 3 4 5 9 12 13 20 21 99 100 00 01 ( ) { } : := + - * = < and or not " +
		"skip flip observe if else repeat while max call var proc fuel choose")
	if len(tokens) == 0 {
		return []string{words[source.Intn(len(words))]}
	}
	tokens = slices.Clone(tokens)
	i, j := source.Intn(len(tokens)), source.Intn(len(tokens))
	other := words[source.Intn(len(words))]
	switch source.Intn(12) {
	case 0:
		return slices.Delete(tokens, i, i+1)
	case 1:
		return slices.Insert(tokens, i, other)
	case 2:
		tokens[i], tokens[j] = tokens[j], tokens[i]
	case 3:
		return slices.Insert(tokens, i, tokens[min(i, j):max(i, j)]...)
	case 4:
		return slices.Delete(tokens, min(i, j), max(i, j))
	case 5:
		return tokens[:i]
	default:
		return replaceAlike(source, tokens, i, words)
	}
	return tokens
}

// replaceAlike replaces a token by a word of the same class, so that the grammar is often kept.
func replaceAlike(source *rand.Rand, tokens []string, i int, words []string) []string {
	var alike []string
	for _, word := range append(slices.Clone(words), tokens...) {
		if classesOf([]string{word}) == classesOf(tokens[i:i+1]) {
			alike = append(alike, word)
		}
	}
	tokens[i] = alike[source.Intn(len(alike))]
	return tokens
}

// expectSameTokens checks that a program has a text with the given tokens, and is in normal form.
func expectSameTokens(t *testing.T, p impl.Program, tokens []string) {
	t.Helper()
	if !isProgramByTable(p) || !isNormalForm(p) {
		t.Fatalf("%q: not valid or not in normal form: %+v", tokens, p)
	}
	again, _ := tokensByPattern(programText(p))
	if !slices.Equal(again, tokens) {
		t.Fatalf("%q instead of %q", again, tokens)
	}
	expectText(t, p, programText(p))
}

func TestParserAgreesWithReference(t *testing.T) {
	source := rand.New(rand.NewSource(45))
	accepted, rejected, grammatical := 0, 0, 0
	for i := range 12000 {
		p := randomShortProgram(source, i%10)
		if exprsInText(p) > 40 {
			continue
		}
		tokens, _ := tokensByPattern(programText(p))
		for range 1 + source.Intn(2) {
			tokens = mutate(source, tokens)
		}
		text := spaced(source, tokens)
		q, ok := impl.ParseProgram(text)
		if ok != isTextByReference(text) {
			t.Fatalf("%q: accepted is %v", text, ok)
		}
		if ok {
			accepted++
			expectSameTokens(t, q, tokens)
			continue
		}
		rejected++
		grammatical += truthOf(followsGrammar(tokens))
		if !impl.EqualPrograms(q, impl.Program{}) {
			t.Fatalf("%q: rejected, but %+v", text, q)
		}
	}
	if accepted < 1000 || rejected < 4000 || grammatical < 1000 {
		t.Errorf("%d texts accepted, %d rejected, %d of these grammatical", accepted, rejected, grammatical)
	}
}

func TestExprParserAgreesWithReference(t *testing.T) {
	source := rand.New(rand.NewSource(46))
	accepted, rejected := 0, 0
	for range 12000 {
		p := randomProgram(source, 0)
		counts, _ := exprCosts(p)
		e := source.Intn(len(p.Exprs))
		if counts[e] > 60 {
			continue
		}
		tokens, _ := tokensByPattern(exprText(p, e))
		for range source.Intn(3) {
			tokens = mutate(source, tokens)
		}
		text := spaced(source, tokens)
		exprs, ok := impl.ParseExpr(p.Vars, text)
		if ok != isExprTextByReference(p.Vars, text) {
			t.Fatalf("%q over %v: accepted is %v", text, p.Vars, ok)
		}
		if !ok {
			if rejected++; exprs != nil {
				t.Fatalf("%q over %v: rejected, but %v", text, p.Vars, exprs)
			}
			continue
		}
		accepted++
		parsed := impl.Program{Vars: p.Vars, Exprs: exprs, Stmts: []impl.Stmt{{Kind: impl.StObserve, Expr: len(exprs) - 1}}, Body: []int{0}}
		again, _ := tokensByPattern(exprText(parsed, len(exprs)-1))
		if !isProgramByTable(parsed) || !isNormalForm(parsed) || !slices.Equal(again, tokens) {
			t.Fatalf("%q over %v: %v", text, p.Vars, exprs)
		}
		expectExprText(t, parsed, len(exprs)-1, exprText(parsed, len(exprs)-1))
	}
	if accepted < 2000 || rejected < 2000 {
		t.Errorf("%d texts accepted, %d rejected", accepted, rejected)
	}
}

func TestFormattedExprsAndBlocksAgreeWithReference(t *testing.T) {
	source := rand.New(rand.NewSource(47))
	long, printed := 0, 0
	for i := range 3000 {
		p := randomShortProgram(source, i%25)
		_, lengths := exprCosts(p)
		for e, length := range lengths {
			wanted := ""
			if length <= 6000 {
				wanted = exprText(p, e)
			}
			expectExprText(t, p, e, wanted)
			long += truthOf(length > 6000)
		}
		var block []int
		for i := range p.Stmts {
			if source.Intn(3) == 0 {
				block = append(block, i)
			}
		}
		indent, wanted := source.Intn(21), "-"
		if exprsInText(p) <= 40 {
			wanted = blockText(p, block, indent)
			printed++
		}
		if len(wanted) > 6000 {
			wanted = "-"
		}
		expectBlock(t, p, block, indent, wanted)
	}
	if long < 50 || printed < 1000 {
		t.Errorf("%d expressions were too long, and %d blocks printed", long, printed)
	}
}

// syntaxCalls returns the results of all functions of chapter 4, and those of them that have memory of their own.
func syntaxCalls(p impl.Program, text string, e int, block []int, indent int) []any {
	tokens, okTokens := impl.Tokenize(text)
	exprs, okExprs := impl.ParseExpr(p.Vars, text)
	exprText, okExprText := impl.FormatExpr(p, e)
	normal, okNormal := impl.NormalizeProgram(p)
	programText, okProgramText := impl.FormatProgram(p)
	blockText, okBlock := impl.FormatBlock(p, block, indent)
	parsed, okParsed := impl.ParseProgram(text)
	return []any{tokens, okTokens, exprs, okExprs, exprText, okExprText, normal, okNormal, programText, okProgramText, blockText, okBlock, parsed, okParsed}
}

// describe returns a text that differs for different results; nil and empty lists are the same.
func describe(results []any) string { return fmt.Sprintf("%+v", results) }

func TestPromise33SyntaxAcceptsAllArguments(t *testing.T) {
	programs := append(validPrograms(), programOfAll(), ladder())
	for _, p := range invalidPrograms() {
		programs = append(programs, p)
	}
	source := rand.New(rand.NewSource(48))
	for range 500 {
		p := randomShortProgram(source, 24)
		for range source.Intn(6) {
			spoil(source, &p)
		}
		programs = append(programs, p)
	}
	ints := []int{math.MinInt, -1, 0, 1, 2, 20, 21, 39, 40, math.MaxInt}
	lists := [][]int{nil, {}, {0}, {1}, {0, 1}, {0, 0}, {1, 0, 1}, {-1}, {math.MinInt, math.MaxInt}, {math.MaxInt, math.MinInt}, ints, make([]int, 5)}
	texts := []string{"", "a", textOfG, textOfAll, "(a+b)", "\x00", "\xff\xfe", strings.Repeat("(", 6001), strings.Repeat("var a 2 fuel 0 ", 1000), "}", "not", "(((("}
	for i, p := range programs {
		for j, e := range ints {
			text, block, indent := texts[(i+3*j)%len(texts)], lists[(i*5+j*7)%len(lists)], ints[(i+j*3)%len(ints)]
			expectSyntaxConsistent(t, p, text, e, block, indent)
		}
	}
}

// expectSyntaxConsistent checks which calls succeed, and that those that fail return zero values.
func expectSyntaxConsistent(t *testing.T, p impl.Program, text string, e int, block []int, indent int) {
	t.Helper()
	results := syntaxCalls(p, text, e, block, indent)
	valid := isProgramByTable(p)
	_, okTokens := tokensByPattern(text)
	okVars := isProgramByTable(impl.Program{Vars: p.Vars})
	okExpr, short := valid && e >= 0 && e < len(p.Exprs), valid && exprsInText(p) <= 40
	if okExpr {
		_, lengths := exprCosts(p)
		okExpr = lengths[e] <= 6000
	}
	okBlock := short && indent >= 0 && indent <= 20 && (len(block) == 0 || block[0] >= 0 && block[len(block)-1] < len(p.Stmts))
	for i := 1; i < len(block); i++ {
		okBlock = okBlock && block[i] > block[i-1]
	}
	okBlock = okBlock && len(blockText(p, block, indent)) <= 6000
	wanted := []bool{okTokens, okVars && isExprTextByReference(p.Vars, text), okExpr, short, short, okBlock, isTextByReference(text)}
	zeros := []any{[]string(nil), []impl.Expr(nil), "", impl.Program{}, "", "", impl.Program{}}
	for i, ok := range wanted {
		if results[2*i+1] != ok || !ok && !reflect.DeepEqual(results[2*i], zeros[i]) {
			t.Fatalf("function %d, success %v: %.100q, %d, %v and %d of %+v: %v", i, ok, text, e, block, indent, p, results[2*i])
		}
	}
}

// overwrite changes all elements of the lists of a result, with their spare capacity.
func overwrite(result any) {
	switch r := result.(type) {
	case []int:
		fill(r, 77)
	case [][]int:
		for _, list := range r {
			fill(list, 77)
		}
		fill(r, []int{77})
	case []impl.TypeError:
		fill(r, impl.TypeError{Code: 77})
	case []string:
		fill(r, "overwritten")
	case []impl.Expr:
		fill(r, impl.Expr{Op: 77})
	case []impl.Coin:
		fill(r, impl.Coin{Stmt: 77})
	case impl.CoinRun:
		fill(r.Values, 77)
		fill(r.Reached, 77)
	case impl.Diagram:
		fill(r.Nodes, impl.DiagramNode{Level: 77})
	case impl.Program:
		for _, s := range r.Stmts {
			fill(s.Choices, impl.Choice{Value: 77})
		}
		for _, block := range blocksIn(&r) {
			fill(*block, 77)
		}
		fill(r.Vars, impl.Var{Name: "overwritten"})
		fill(r.Exprs, impl.Expr{Op: 77})
		fill(r.Stmts, impl.Stmt{Kind: 77})
		fill(r.Procs, impl.Proc{Name: "overwritten"})
	}
}

// expectUnshared overwrites the results of several calls one after the other, and checks that this changes none of the
// others.
func expectUnshared(t *testing.T, results []any, overwrite func(result any)) {
	t.Helper()
	for at, result := range results {
		others := describe(slices.Concat(results[:at], results[at+1:]))
		if overwrite(result); describe(slices.Concat(results[:at], results[at+1:])) != others {
			t.Fatalf("result %d shares memory with another one", at)
		}
	}
}

func fill[T any](list []T, value T) {
	for i := range list[:cap(list)] {
		list[:cap(list)][i] = value
	}
}

func TestPromise33SyntaxNeitherModifiesNorShares(t *testing.T) {
	source := rand.New(rand.NewSource(49))
	programs := append(validPrograms(), exampleG(), programOfAll(), impl.Program{})
	for range 1000 {
		p := randomShortProgram(source, 12)
		if source.Intn(4) == 0 {
			spoil(source, &p)
		}
		programs = append(programs, p)
	}
	for i, plain := range programs {
		p, text := programWithSpare(plain), []string{textOfAll, "(a + (not a))"}[i%2]
		block := withSpareInts(slices.Sorted(slices.Values(p.Body)))
		before, blockBefore := whole(p), slices.Clone(block[:cap(block)])
		results := syntaxCalls(p, text, len(p.Exprs)-1, block, 3)
		first := describe(results)
		for _, result := range results {
			overwrite(result)
		}
		if !reflect.DeepEqual(whole(p), before) || !slices.Equal(block[:cap(block)], blockBefore) {
			t.Fatalf("case %d: an argument was modified, or a result shares its memory", i)
		}
		again := syntaxCalls(plain, text, len(p.Exprs)-1, slices.Clone(block), 3)
		if describe(again) != first {
			t.Fatalf("case %d: the results depend on more than the arguments: %s and %s", i, first, describe(again))
		}
	}
}

// TestListsOfOneResult checks that no two lists of one result share memory: a change to one of them changes no other.
func TestListsOfOneResult(t *testing.T) {
	parsed, _ := impl.ParseProgram(textOfAll)
	normal, _ := impl.NormalizeProgram(parsed)
	for _, p := range []impl.Program{parsed, normal} {
		for _, block := range blocksIn(&p) {
			others := clonedProgram(p)
			want := append(slices.Clone(*block), 99)
			*block = append(*block, 99)
			for j, other := range blocksIn(&p) {
				if other != block && !slices.Equal(*other, *blocksIn(&others)[j]) {
					t.Errorf("block %d changes: %v", j, *other)
				}
			}
			if !slices.Equal(*block, want) {
				t.Errorf("%v instead of %v", *block, want)
			}
			*block = (*block)[:len(*block)-1]
		}
	}
}

// isWithin reports whether a text lies in the memory of another one.
func isWithin(part, text string) bool {
	if part == "" || text == "" {
		return false
	}
	start, at := uintptr(unsafe.Pointer(unsafe.StringData(text))), uintptr(unsafe.Pointer(unsafe.StringData(part)))
	return at >= start && at < start+uintptr(len(text))
}

func TestTextsShareNoMemoryWithArguments(t *testing.T) {
	text := strings.Clone(textOfAll)
	tokens, _ := impl.Tokenize(text)
	parsed, _ := impl.ParseProgram(text)
	for _, name := range append(tokens, parsed.Vars[2].Name, parsed.Procs[0].Name) {
		if isWithin(name, text) {
			t.Errorf("%q shares the memory of the text", name)
		}
	}
	normal, _ := impl.NormalizeProgram(parsed)
	if isWithin(normal.Vars[2].Name, parsed.Vars[2].Name) || isWithin(normal.Procs[0].Name, parsed.Procs[0].Name) {
		t.Error("a name shares the memory of the program")
	}
	alone := programOfAll()
	alone.Vars[2].Name = strings.Clone("x1")
	if variable, _ := impl.FormatExpr(alone, 8); variable != "x1" || isWithin(variable, alone.Vars[2].Name) {
		t.Error("the text of a variable shares the memory of its name")
	}
}
