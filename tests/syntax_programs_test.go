package tests

import (
	"math"
	"math/rand"
	"slices"
	"strconv"
	"strings"
	"testing"

	"loop.example/g00893/impl"
)

const textOfG = "var a 2\nvar b 2\nfuel 0\nflip a 0:1 1:2\nflip b 0:1 1:1\nobserve (a or b)\n"

// textOfAll is the text of a program with every keyword of a statement, in normal form.
const textOfAll = `var a 2
var b 3
var x1 4
proc f {
  call g
  while (a < 2) max 0 {
  }
}
proc g {
}
fuel 3
skip
x1 := ((a + b) * 20)
flip x1 0:12 2:1 3:5
if (not (x1 = 0)) {
  repeat 4 {
    call f
    if a {
    } else {
      b := 10
    }
  }
  observe 1
} else {
  while (b - a) max 4 {
    flip a 1:1
  }
}
call g
`

// programOfAll is what textOfAll means.
func programOfAll() impl.Program {
	exprs := []impl.Expr{
		variable(0), constant(2), binary(impl.OpLess, 0, 1),
		variable(0), variable(1), binary(impl.OpAdd, 3, 4), constant(20), binary(impl.OpMul, 5, 6),
		variable(2), constant(0), binary(impl.OpEq, 8, 9), not(10),
		variable(0), constant(10), constant(1), variable(1), variable(0), binary(impl.OpSub, 15, 16),
	}
	procs := [][]tree{{call(1), while(2, 0)}, nil}
	p := program([]int{2, 3, 4}, exprs, 3, procs,
		skip(), assign(2, 7), sample(2, 12, 0, 1, 5),
		ifElse(11,
			[]tree{repeat(4, call(0), ifElse(12, nil, []tree{assign(1, 13)})), observe(14)},
			[]tree{while(17, 4, sample(0, 0, 1))}),
		call(1))
	p.Vars[2].Name = "x1"
	return p
}

// expectParsed checks what a text means, and that its normal form is itself; the zero value means that it must be rejected.
func expectParsed(t *testing.T, text string, wanted impl.Program) {
	t.Helper()
	p, ok := impl.ParseProgram(text)
	if ok != (len(wanted.Vars) > 0) || !impl.EqualPrograms(p, wanted) {
		t.Errorf("%.200q: %v %v", text, p, ok)
		return
	}
	if n, okAgain := impl.NormalizeProgram(p); okAgain != ok || !impl.EqualPrograms(n, p) {
		t.Errorf("%.200q: normal form %v", text, n)
	}
}

// expectText checks the text of a program; wanted "" means that it has none.
func expectText(t *testing.T, p impl.Program, wanted string) {
	t.Helper()
	if text, ok := impl.FormatProgram(p); text != wanted || ok != (wanted != "") {
		t.Errorf("text %q %v instead of %q", text, ok, wanted)
	}
}

// expectNormal checks the normal form of a program; the zero value means that it has none.
func expectNormal(t *testing.T, p, wanted impl.Program) {
	t.Helper()
	if n, ok := impl.NormalizeProgram(p); !impl.EqualPrograms(n, wanted) || ok != (len(wanted.Vars) > 0) {
		t.Errorf("normal form %+v %v instead of %+v", n, ok, wanted)
	}
}

// expectBlock checks the lines of a block; wanted "-" means that the call must fail.
func expectBlock(t *testing.T, p impl.Program, block []int, indent int, wanted string) {
	t.Helper()
	text, ok := impl.FormatBlock(p, block, indent)
	if ok != (wanted != "-") || ok && text != wanted || !ok && text != "" {
		t.Errorf("block %v with indent %d: %q %v instead of %q", block, indent, text, ok, wanted)
	}
}

func TestParseProgram(t *testing.T) {
	expectParsed(t, textOfG, exampleG())
	expectParsed(t, textOfAll, programOfAll())
	expectText(t, exampleG(), textOfG)
	expectText(t, programOfAll(), textOfAll)
	for _, text := range []string{textOfG, textOfAll} {
		wanted, _ := impl.ParseProgram(text)
		tokens, _ := tokensByPattern(text)
		expectParsed(t, strings.Join(tokens, " "), wanted)
		expectParsed(t, strings.Join(tokens, "\n\n"), wanted)
		expectParsed(t, "\n "+strings.Join(tokens, "  \n  ")+" \n", wanted)
	}
	expectParsed(t, "var a 2var b 2fuel 0flip a 0:1", impl.Program{})
	expectParsed(t, "var a 2 fuel 0 observe(not(a+1))if(a<1){skip}else{a:=(a*a)}", program([]int{2},
		[]impl.Expr{variable(0), constant(1), binary(impl.OpAdd, 0, 1), not(2), variable(0), constant(1), binary(impl.OpLess, 4, 5),
			variable(0), variable(0), binary(impl.OpMul, 7, 8)},
		0, nil, observe(3), ifElse(6, []tree{skip()}, []tree{assign(0, 9)})))
}

func TestProceduresInTexts(t *testing.T) {
	expectParsed(t, "var a 2 proc f { call g } proc g { call f } fuel 1 call g",
		program([]int{2}, nil, 1, [][]tree{{call(1)}, {call(0)}}, call(1)))
	expectParsed(t, "var a 2 proc f { call f } fuel 3 call f", program([]int{2}, nil, 3, [][]tree{{call(0)}}, call(0)))
	expectParsed(t, "var a 2 proc f { repeat 2 { call h } } proc g { } proc h { skip } fuel 0",
		program([]int{2}, nil, 0, [][]tree{{repeat(2, call(2))}, {}, {skip()}}))
	header, rejected := "var a 2 ", []string{
		"proc f { } proc f { } fuel 0", "proc a { } fuel 0", "proc f { } fuel 0 call g", "fuel 0 call f", "proc f { call g } fuel 0", "fuel 0 call a",
		"proc f { } fuel 0 f := 1", "proc f { } fuel 0 flip f 0:1", "proc f { } fuel 0 observe f", "proc f { } fuel 0 a := f", "proc f fuel 0", "proc f { fuel 0",
		"proc f } fuel 0", "proc { } fuel 0", "proc f { } { } fuel 0", "fuel 0 proc f { }", "fuel 0 call f proc f { }", "proc f { } var b 2 fuel 0",
		"proc f { proc g { } } fuel 0", "proc f { fuel 0 } fuel 0", "proc f { } proc g { } proc h { } proc i { } fuel 0", "proc f { var b 2 } fuel 0",
		"proc proc { } fuel 0", "proc call { } fuel 0 call call", "proc 1 { } fuel 0", "proc abcdefghi { } fuel 0", "proc f { } fuel 0 call", "proc f { } proc",
		"proc f { } fuel 0 call f f", "proc f { } fuel 0 call 1", "proc f { } fuel 0 call (f)", "proc f { } fuel 0 call skip", "proc f { } fuel",
	}
	for _, text := range rejected {
		expectParsed(t, header+text, impl.Program{})
	}
	expectParsed(t, header+"proc f { } proc g { } proc h { } fuel 0", program([]int{2}, nil, 0, [][]tree{{}, {}, {}}))
}

func TestRejectedHeaders(t *testing.T) {
	rejected := []string{
		"", " ", "\n", "fuel 0", "fuel 0 skip", "var a 2", "var a fuel 0", "var 2 fuel 0", "var fuel 0", "a 2 fuel 0", "var a 2 var a 2 fuel 0", "var a 2 var a 3 fuel 0",
		"var a 2 fuel", "var a 2 fuel 4", "var a 2 fuel 10", "var a 2 fuel 00", "var a 2 fuel 01", "var a 2 fuel a", "var a 2 fuel -1", "var a 2 fuel 0 fuel 0",
		"var a 2 fuel 0 0", "var a 2 fuel 100", "var a 1 fuel 0", "var a 5 fuel 0", "var a 0 fuel 0", "var a 02 fuel 0", "var a 99 fuel 0", "var a a fuel 0", "var a 2 2 fuel 0",
		"var a 2 b 2 fuel 0", "var a, b 2 fuel 0", "var a 2; fuel 0", "var a 2 fuel 0 }", "{ var a 2 fuel 0 }", "var a 2 { fuel 0 }", "var a 2 fuel 0 { }", "fuel 0 var a 2",
		"var a 2 fuel 0 var b 2", "var a 2 skip fuel 0", "VAR a 2 fuel 0", "var A 2 fuel 0", "var\ta 2 fuel 0", "var a 2 fuel 0\t", "var a 2 fuel 0\r\n", "var a 2 fuel 0\x00",
		"var a 2 fuel 0 \xff", "var é 2 fuel 0", "vara 2 fuel 0", "var a2 fuel 0", "var a 2 fuel0", "var abcdefghi 2 fuel 0", "var 1a 2 fuel 0",
		"var a 2 var b 2 var c 2 var d 2 var e 2 var f 2 fuel 0", "var a 2 fuel 0 :", "var a 2 fuel 0 skip skip2",
	}
	for _, keyword := range strings.Fields("skip flip observe if else repeat while max call var proc fuel and or not choose") {
		rejected = append(rejected, "var "+keyword+" 2 fuel 0", "var a 2 proc "+keyword+" { } fuel 0", "var a 2 proc f { } fuel 0 call "+keyword,
			"var a 2 fuel 0 "+keyword+" := 1", "var a 2 fuel 0 flip "+keyword+" 0:1", "var a 2 fuel 0 observe "+keyword, "var a 2 fuel 0 a := ("+keyword+" + 1)")
		if keyword != "skip" {
			rejected = append(rejected, "var a 2 fuel 0 "+keyword, "var a 2 fuel 0 repeat 1 { "+keyword+" }")
		}
	}
	for _, text := range rejected {
		expectParsed(t, text, impl.Program{})
	}
	expectParsed(t, "var abcdefgh 2 var b 3 var c 4 var z9 2 var e1 2 fuel 3",
		changed(program([]int{2, 3, 4, 2, 2}, nil, 3, nil), func(p *impl.Program) { p.Vars[0].Name, p.Vars[3].Name, p.Vars[4].Name = "abcdefgh", "z9", "e1" }))
}

func TestRejectedStatements(t *testing.T) {
	header := "var a 2 var b 4 fuel 0 "
	rejected := []string{
		"a", "a :=", ":= 1", "a = 1", "a : 1", "a : = 1", "a := := 1", "a ::= 1", "a :== 1", "a := 21", "a := 00", "a := 1 1", "a := a b", "a := (a + 1", "a := a + 1",
		"c := 1", "a := c", "1 := a", "a b := 1", "a := b := 1", "a := ()", "(a := 1)", "skip skip2", "skip 1", "skip a", "skip()", "skip;", "{ skip }", "skip }",
		"flip", "flip a", "flip a 0", "flip a 0:", "flip a 0:1:", "flip a :1", "flip a 0 1", "flip a 0=1", "flip a 0:=1", "flip 0:1", "flip c 0:1", "flip a 0:1 1",
		"flip a 0:1 1:", "flip a 0:0", "flip a 0:13", "flip a 2:1", "flip a 1:1 0:1", "flip a 0:1 0:1", "flip b 0:1 2:1 1:1", "flip b 0:1 1:1 2:1 3:1 4:1",
		"flip b 0:1 1:1 1:1 3:1", "flip a 0:1, 1:1", "flip a 00:1", "flip a 0:01", "flip a 0:1 100:1", "flip a 0:100", "flip a a:1", "flip a 0:a", "flip a (0:1)",
		"flip a 0:1 b", "observe", "observe 21", "observe a b", "observe c", "observe observe a", "observe a := 1", "observe (a", "observe { a }",
		"if a { }", "if a { } else", "if a { } else skip", "if a skip else { }", "if a { } { }", "if { } else { }", "if a { } else { } else { }", "if a { else { }", "if a } else { }",
		"if a { } else }", "if a { } else {", "if 21 { } else { }", "if c { } else { }", "if a { } else if a { } else { }", "else { }", "if a max 1 { } else { }",
		"repeat { }", "repeat 0 { }", "repeat 5 { }", "repeat 01 { }", "repeat 1", "repeat 1 skip", "repeat 1 {", "repeat 1 }", "repeat a { }", "repeat 1 { } }",
		"repeat 1 { } else { }", "repeat max 1 { }", "repeat (1) { }", "repeat 1 1 { }", "while a { }", "while a max { }", "while max 1 { }", "while a max 5 { }", "while a max 1",
		"while a max 1 skip", "while a max 1 {", "while a 1 { }", "while 21 max 1 { }", "while c max 1 { }", "while a max 1 { } else { }", "while a max a { }", "while a max 01 { }",
		"while a max 10 { }", "max 1", "choose a 0:1", "call", "not a", "(a)", "1", "repeat 1 { a }", "repeat 1 { a := }", "repeat 1 { b := c }", "repeat 1 { flip a }",
		"if a { skip } else { observe }", "if a { observe } else { skip }", "while a max 1 { repeat 1 { skip } ", "repeat 1 { fuel 0 }", "repeat 1 { } fuel 0",
	}
	for _, text := range rejected {
		expectParsed(t, header+text, impl.Program{})
		expectParsed(t, header+"skip "+text+" skip", impl.Program{})
		expectParsed(t, header+"repeat 1 { "+text+" }", impl.Program{})
	}
}

func TestEdgesOfStatements(t *testing.T) {
	header := "var a 2 var b 4 fuel 0 "
	cases := []struct {
		text  string
		exprs []impl.Expr
		body  tree
	}{
		{"a := 20", []impl.Expr{constant(20)}, assign(0, 0)}, {"b := 0", []impl.Expr{constant(0)}, assign(1, 0)}, {"flip a 0:1", nil, sample(0, 1)},
		{"flip a 1:12", nil, sample(0, 0, 12)}, {"flip b 0:1 1:2 2:3 3:4", nil, sample(1, 1, 2, 3, 4)}, {"flip b 1:10 3:9", nil, sample(1, 0, 10, 0, 9)},
		{"observe 0", []impl.Expr{constant(0)}, observe(0)}, {"repeat 1 { }", nil, repeat(1)}, {"repeat 4 { skip }", nil, repeat(4, skip())},
		{"while b max 0 { }", []impl.Expr{variable(1)}, while(0, 0)}, {"while 1 max 4 { skip skip }", []impl.Expr{constant(1)}, while(0, 4, skip(), skip())},
		{"if 0 { } else { }", []impl.Expr{constant(0)}, ifElse(0, nil, nil)}, {"if 0 { skip } else { }", []impl.Expr{constant(0)}, ifElse(0, []tree{skip()}, nil)},
		{"if a { } else { skip }", []impl.Expr{variable(0)}, ifElse(0, nil, []tree{skip()})},
	}
	for _, c := range cases {
		p := program([]int{2, 4}, c.exprs, 0, nil, c.body)
		expectParsed(t, header+c.text, p)
		text := header + c.text
		if tokens, _ := impl.Tokenize(programText(p)); strings.Join(tokens, "") != strings.NewReplacer(" ", "").Replace(text) {
			t.Errorf("the text of %q is %q", text, programText(p))
		}
		expectText(t, p, programText(p))
	}
}

// nestText returns a statement inside loops.
func nestText(count int, text string) string {
	return strings.Repeat("repeat 1 {", count) + text + strings.Repeat("}", count)
}

func TestSizeOfPrograms(t *testing.T) {
	header := "var a 2 fuel 0 "
	accepted := map[string]int{
		strings.Repeat("skip ", 24): 24, nestText(24, ""): 24, nestText(23, "skip"): 24, strings.Repeat("observe a ", 24): 24, "observe " + notText(39, "1"): 1,
		"observe " + longSum(20) + "a := 1": 2, "if " + longSum(10) + "{a := " + longSum(10) + "}else{observe a observe 1}": 4, strings.Repeat(" ", 5985): 0,
		strings.Repeat(" ", 5981) + "skip": 1,
	}
	for text, stmts := range accepted {
		p, ok := impl.ParseProgram(header + text)
		if !ok || len(p.Stmts) != stmts || !impl.IsValidProgram(p) {
			t.Errorf("%.100q: %v %v", text, p, ok)
		}
		expectText(t, p, programText(p))
	}
	rejected := []string{
		strings.Repeat("skip ", 25), nestText(25, ""), nestText(24, "skip"), strings.Repeat("skip ", 1197), strings.Repeat("observe a ", 25), "observe " + notText(40, "1"),
		"observe " + longSum(20) + "a := 1 observe a", "observe " + longSum(21), strings.Repeat(" ", 5986), strings.Repeat(" ", 5982) + "skip", strings.Repeat("a", 5985),
		nestText(500, ""), strings.Repeat("repeat 1 {", 590), strings.Repeat("{", 5985), strings.Repeat("}", 5985), strings.Repeat("var ", 1490), strings.Repeat("if a {", 990),
		"observe " + strings.Repeat("(", 5970), "observe " + strings.Repeat("(not ", 1190), "flip a " + strings.Repeat("0:1 ", 1490), strings.Repeat("9", 5985),
		strings.Repeat("proc f { } ", 500), "repeat 1 {" + strings.Repeat("skip ", 24) + "}", strings.Repeat("observe 1 ", 21) + "observe " + notText(19, "1"),
	}
	for _, text := range rejected {
		expectParsed(t, header+text, impl.Program{})
	}
	expectParsed(t, strings.Repeat("var a 2 ", 749)+"fuel 0", impl.Program{})
	expectParsed(t, "var a 2 "+strings.Repeat("proc f{}", 700)+"fuel 0", impl.Program{})
}

func TestNormalizeProgram(t *testing.T) {
	unused := changed(exampleG(), func(p *impl.Program) {
		p.Exprs = []impl.Expr{constant(3), variable(1), variable(0), binary(impl.OpAdd, 0, 0), binary(impl.OpOr, 2, 1), not(4)}
		p.Stmts[2].Expr = 4
	})
	expectNormal(t, unused, exampleG())
	expectText(t, unused, textOfG)
	expectNormal(t, exampleG(), exampleG())
	expectNormal(t, programOfAll(), programOfAll())

	shared := program([]int{2}, []impl.Expr{variable(0), binary(impl.OpAnd, 0, 0), not(1)}, 0, nil, ifElse(2, []tree{observe(1)}, []tree{assign(0, 0)}))
	wanted := []impl.Expr{variable(0), variable(0), binary(impl.OpAnd, 0, 1), not(2), variable(0), variable(0), binary(impl.OpAnd, 4, 5), variable(0)}
	expectNormal(t, shared, program([]int{2}, wanted, 0, nil, ifElse(3, []tree{observe(6)}, []tree{assign(0, 7)})))

	order := exampleG()
	order.Body, order.Fuel = []int{2, 0, 1}, 2
	expectNormal(t, order, program([]int{2, 2}, order.Exprs, 2, nil, observe(2), sample(0, 1, 2), sample(1, 1, 1)))
	for _, p := range invalidPrograms() {
		expectNormal(t, p, impl.Program{})
		expectText(t, p, "")
		expectBlock(t, p, nil, 0, "-")
		expectBlock(t, p, []int{0}, 0, "-")
	}
}

func TestOrderOfStatements(t *testing.T) {
	mixed := impl.Program{
		Vars:  []impl.Var{{Name: "a", Size: 2}, {Name: "b", Size: 2}},
		Exprs: []impl.Expr{constant(0), constant(1), constant(2), constant(3), constant(4), constant(5)},
		Stmts: []impl.Stmt{
			{Kind: impl.StIf, Expr: 5, Then: []int{7, 3}, Else: []int{8, 2}}, {Kind: impl.StRepeat, Times: 2, Then: []int{6, 4}},
			{Kind: impl.StAssign, Var: 1, Expr: 4}, {Kind: impl.StAssign, Expr: 3}, {Kind: impl.StObserve, Expr: 2}, {Kind: impl.StCall, Proc: 1},
			{Kind: impl.StSkip}, {Kind: impl.StWhile, Expr: 1, Times: 1, Then: []int{9}}, {Kind: impl.StSkip}, {Kind: impl.StObserve},
		},
		Procs: []impl.Proc{{Name: "f", Body: []int{5}}, {Name: "g", Body: []int{1}}},
		Body:  []int{0},
		Fuel:  1,
	}
	exprs := []impl.Expr{constant(2), constant(5), constant(1), constant(0), constant(3), constant(4)}
	procs := [][]tree{{call(1)}, {repeat(2, skip(), observe(0))}}
	wanted := program([]int{2, 2}, exprs, 1, procs, ifElse(1, []tree{while(2, 1, observe(3)), assign(0, 4)}, []tree{skip(), assign(1, 5)}))
	if !impl.IsValidProgram(mixed) {
		t.Fatal("the program is not valid")
	}
	expectNormal(t, mixed, wanted)
	expectText(t, mixed, programText(wanted))
	expectBlock(t, mixed, []int{1, 5, 7}, 0, "repeat 2 {\n  skip\n  observe 2\n}\ncall g\nwhile 1 max 1 {\n  observe 0\n}\n")
	expectBlock(t, mixed, []int{0}, 1,
		" if 5 {\n   while 1 max 1 {\n     observe 0\n   }\n   a := 3\n } else {\n   skip\n   b := 4\n }\n")
}

func TestExprsOfNormalForm(t *testing.T) {
	statements := func(count int, body ...tree) impl.Program { return program([]int{2}, chain(count), 0, nil, body...) }
	uses := func(count, each int) impl.Program {
		exprs := []impl.Expr{variable(0)}
		for len(exprs) < each {
			exprs = append(exprs, not(len(exprs)-1))
		}
		return program([]int{2}, exprs, 0, nil, slices.Repeat([]tree{observe(each - 1)}, count)...)
	}
	tower := func(height int, body ...tree) impl.Program {
		return program([]int{2}, doubling(variable(0), impl.OpAdd, height), 0, nil, body...)
	}
	cases := []struct {
		p      impl.Program
		wanted int
	}{
		{statements(40), 0}, {statements(40, observe(39)), 1}, {uses(1, 40), 40}, {uses(2, 20), 40}, {uses(3, 14), 42}, {uses(20, 2), 40}, {uses(21, 2), 42},
		{uses(24, 1), 24}, {uses(8, 5), 40}, {uses(9, 5), 45}, {uses(24, 40), 960}, {tower(40), 0}, {tower(40, skip(), sample(0, 1)), 0}, {tower(40, observe(4)), 31},
		{tower(40, observe(4), observe(2), observe(0)), 39}, {tower(40, observe(4), observe(2), observe(0), assign(0, 0)), 40},
		{tower(40, observe(4), observe(2), observe(0), assign(0, 0), ifElse(0, nil, nil)), 41}, {tower(40, observe(4), repeat(1, while(2, 1), observe(1))), 41},
		{tower(40, observe(5)), 63}, {tower(40, observe(39)), 1<<40 - 1}, {tower(40, slices.Repeat([]tree{while(39, 4)}, 24)...), 24 * (1<<40 - 1)},
	}
	for i, c := range cases {
		if exprsInText(c.p) != c.wanted {
			t.Fatalf("case %d has %d expressions", i, exprsInText(c.p))
		}
		n, ok := impl.NormalizeProgram(c.p)
		if ok != (c.wanted <= 40) || ok && len(n.Exprs) != c.wanted {
			t.Errorf("case %d: %v %v", i, n, ok)
		}
		if ok {
			expectText(t, c.p, programText(c.p))
			expectBlock(t, c.p, c.p.Body, 3, blockText(c.p, c.p.Body, 3))
		} else {
			expectNormal(t, c.p, impl.Program{})
			expectText(t, c.p, "")
			expectBlock(t, c.p, c.p.Body, 3, "-")
			expectBlock(t, c.p, nil, 0, "-")
		}
	}
}

func TestFormatBlock(t *testing.T) {
	g, all := exampleG(), programOfAll()
	expectBlock(t, g, []int{0}, 1, " flip a 0:1 1:2\n")
	expectBlock(t, g, []int{0, 1, 2}, 0, "flip a 0:1 1:2\nflip b 0:1 1:1\nobserve (a or b)\n")
	expectBlock(t, g, []int{0, 2}, 2, "  flip a 0:1 1:2\n  observe (a or b)\n")
	expectBlock(t, g, nil, 0, "")
	expectBlock(t, g, []int{}, 20, "")
	for _, indent := range []int{-1, 21, 22, 1000000000, math.MinInt, math.MaxInt} {
		expectBlock(t, g, []int{0}, indent, "-")
		expectBlock(t, g, nil, indent, "-")
	}
	for indent := range 21 {
		expectBlock(t, g, []int{2}, indent, strings.Repeat(" ", indent)+"observe (a or b)\n")
	}
	for _, block := range [][]int{{0, 0}, {1, 0}, {0, 2, 1}, {3}, {-1}, {-1, 0}, {0, 3}, {math.MinInt}, {math.MaxInt}, {math.MinInt, 0}, {0, math.MaxInt}, make([]int, 100000)} {
		expectBlock(t, g, block, 0, "-")
	}
	expectBlock(t, g, []int{0}, 0, "flip a 0:1 1:2\n")
	expectBlock(t, manySkips(0), nil, 0, "")
	expectBlock(t, manySkips(0), []int{0}, 0, "-")
	expectBlock(t, everyKind(), []int{0}, 0, "-")
	// A statement stands in the list and inside another one of the list.
	inner := " repeat 4 {\n   call f\n   if a {\n   } else {\n     b := 10\n   }\n }\n"
	expectBlock(t, all, []int{6}, 1, inner)
	expectBlock(t, all, []int{6, 7, 9}, 1, inner+" call f\n b := 10\n")
	for i := range all.Stmts {
		for _, indent := range []int{0, 7, 20} {
			expectBlock(t, all, []int{i}, indent, blockText(all, []int{i}, indent))
		}
	}
}

// ladder is a program whose statements are nested in each other, with words of different lengths.
func ladder() impl.Program {
	body := tree{stmt: impl.Stmt{Kind: impl.StSkip}}
	for i := range 23 {
		switch i % 3 {
		case 0:
			body = repeat(2, body)
		case 1:
			body = while(i%2, 3, body)
		default:
			body = ifElse(i%2, []tree{body}, nil)
		}
	}
	p := program([]int{2, 2}, []impl.Expr{variable(0), variable(1)}, 0, nil, body)
	p.Vars[0].Name, p.Vars[1].Name = "abcdefgh", "b"
	return p
}

func TestLengthOfBlocks(t *testing.T) {
	p, source := ladder(), rand.New(rand.NewSource(42))
	expectText(t, p, programText(p))
	var texts []string
	for i := range p.Stmts {
		texts = append(texts, blockText(p, []int{i}, 0))
	}
	found := map[int]int{}
	for range 30000 {
		var block []int
		indent, length := source.Intn(21), 0
		for i, text := range texts {
			if source.Intn(3) == 0 {
				block = append(block, i)
				length += len(text) + indent*strings.Count(text, "\n")
			}
		}
		if length < 5999 || length > 6002 {
			continue
		}
		found[length]++
		wanted := blockText(p, block, indent)
		if len(wanted) != length {
			t.Fatalf("the text has the length %d instead of %d", len(wanted), length)
		}
		if length > 6000 {
			wanted = "-"
		}
		expectBlock(t, p, block, indent, wanted)
	}
	if found[6000] == 0 || found[6001] == 0 {
		t.Errorf("found %v", found)
	}
	all := make([]int, len(p.Stmts))
	for i := range all {
		all[i] = i
	}
	expectBlock(t, p, all, 20, "-")
	expectBlock(t, p, []int{0}, 20, blockText(p, []int{0}, 20))
}

func TestNamesInTexts(t *testing.T) {
	p := changed(exampleG(), func(p *impl.Program) { p.Vars[0].Name, p.Vars[1].Name = "abcdefgh", "whilex" })
	wanted := strings.NewReplacer("flip a", "flip abcdefgh", "var a", "var abcdefgh", "(a", "(abcdefgh", "b)", "whilex)", "flip b", "flip whilex", "var b", "var whilex").Replace(textOfG)
	expectText(t, p, wanted)
	expectParsed(t, wanted, p)
	for number := range 120 {
		text := "var a 2 fuel 0 a := " + strconv.Itoa(number)
		if number <= 20 {
			expectParsed(t, text, program([]int{2}, []impl.Expr{constant(number)}, 0, nil, assign(0, 0)))
		} else {
			expectParsed(t, text, impl.Program{})
		}
	}
}
