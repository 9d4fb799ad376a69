package tests

import (
	"fmt"
	"regexp"
	"slices"
	"strconv"
	"strings"

	"loop.example/g00893/impl"
)

var tokenPattern = regexp.MustCompile(`[a-z0-9]+|:=|[-(){}:+*=<]`)

// tokensByPattern is the reference for Tokenize.
func tokensByPattern(text string) ([]string, bool) {
	if len(text) > 6000 {
		return nil, false
	}
	rest := strings.NewReplacer(" ", "", "\n", "").Replace(tokenPattern.ReplaceAllString(text, ""))
	if rest != "" {
		return nil, false
	}
	return tokenPattern.FindAllString(text, -1), true
}

var operatorTexts = []string{impl.OpAdd: "+", impl.OpSub: "-", impl.OpMul: "*", impl.OpEq: "=", impl.OpLess: "<", impl.OpAnd: "and", impl.OpOr: "or"}

// exprText is the reference for FormatExpr, for expressions that are not too long.
func exprText(p impl.Program, e int) string {
	x := p.Exprs[e]
	switch x.Op {
	case impl.OpConst:
		return fmt.Sprint(x.Val)
	case impl.OpVar:
		return p.Vars[x.Val].Name
	case impl.OpNot:
		return fmt.Sprintf("(not %s)", exprText(p, x.A))
	}
	return fmt.Sprintf("(%s %s %s)", exprText(p, x.A), operatorTexts[x.Op], exprText(p, x.B))
}

// exprCosts returns for each expression how many it consists of without sharing, and the length of its text.
func exprCosts(p impl.Program) ([]int, []int) {
	var counts, lengths []int
	for e, x := range p.Exprs {
		switch x.Op {
		case impl.OpConst, impl.OpVar:
			counts, lengths = append(counts, 1), append(lengths, len(exprText(p, e)))
		case impl.OpNot:
			counts, lengths = append(counts, counts[x.A]+1), append(lengths, lengths[x.A]+len("(not )"))
		default:
			counts = append(counts, counts[x.A]+counts[x.B]+1)
			lengths = append(lengths, lengths[x.A]+lengths[x.B]+len("(  )")+len(operatorTexts[x.Op]))
		}
	}
	return counts, lengths
}

// exprsInText returns how many expressions the text of a valid program has.
func exprsInText(p impl.Program) int {
	counts, _ := exprCosts(p)
	sum := 0
	for _, s := range p.Stmts {
		if strings.Contains(fieldsOfKinds[s.Kind], "E") {
			sum += counts[s.Expr]
		}
	}
	return sum
}

// blockText is the reference for FormatBlock, for programs whose normal form exists.
func blockText(p impl.Program, block []int, indent int) string {
	text, margin := "", strings.Repeat(" ", indent)
	nested := func(block []int) string { return blockText(p, block, indent+2) + margin + "}" }
	for _, i := range block {
		s := p.Stmts[i]
		text += margin
		switch s.Kind {
		case impl.StSkip:
			text += "skip"
		case impl.StAssign:
			text += p.Vars[s.Var].Name + " := " + exprText(p, s.Expr)
		case impl.StSample:
			text += "flip " + p.Vars[s.Var].Name
			for _, c := range s.Choices {
				text += fmt.Sprintf(" %d:%d", c.Value, c.Weight)
			}
		case impl.StObserve:
			text += "observe " + exprText(p, s.Expr)
		case impl.StIf:
			text += "if " + exprText(p, s.Expr) + " {\n" + nested(s.Then) + " else {\n" + nested(s.Else)
		case impl.StRepeat:
			text += fmt.Sprintf("repeat %d {\n", s.Times) + nested(s.Then)
		case impl.StWhile:
			text += fmt.Sprintf("while %s max %d {\n", exprText(p, s.Expr), s.Times) + nested(s.Then)
		case impl.StCall:
			text += "call " + p.Procs[s.Proc].Name
		}
		text += "\n"
	}
	return text
}

// programText is the reference for FormatProgram, for programs whose normal form exists.
func programText(p impl.Program) string {
	text := ""
	for _, v := range p.Vars {
		text += fmt.Sprintf("var %s %d\n", v.Name, v.Size)
	}
	for _, proc := range p.Procs {
		text += fmt.Sprintf("proc %s {\n%s}\n", proc.Name, blockText(p, proc.Body, 2))
	}
	return text + fmt.Sprintf("fuel %d\n", p.Fuel) + blockText(p, p.Body, 0)
}

// visit lists the statements and expressions of a block in the order of the text.
func visit(p impl.Program, block []int, stmts, exprs *[]int) {
	for _, i := range block {
		*stmts = append(*stmts, i)
		if s := p.Stmts[i]; strings.Contains(fieldsOfKinds[s.Kind], "E") {
			visitExpr(p, s.Expr, exprs)
		}
		visit(p, p.Stmts[i].Then, stmts, exprs)
		visit(p, p.Stmts[i].Else, stmts, exprs)
	}
}

func visitExpr(p impl.Program, e int, exprs *[]int) {
	x := p.Exprs[e]
	if fields := fieldsOfOperators[x.Op]; strings.Contains(fields, "A") {
		visitExpr(p, x.A, exprs)
		if strings.Contains(fields, "B") {
			visitExpr(p, x.B, exprs)
		}
	}
	*exprs = append(*exprs, e)
}

// isNormalForm reports whether the statements and expressions of a valid program are numbered as its text goes.
func isNormalForm(p impl.Program) bool {
	var stmts, exprs []int
	for _, proc := range p.Procs {
		visit(p, proc.Body, &stmts, &exprs)
	}
	visit(p, p.Body, &stmts, &exprs)
	return isCount(stmts, len(p.Stmts)) && isCount(exprs, len(p.Exprs))
}

// isCount reports whether a list is 0, 1 and so on up to length-1.
func isCount(list []int, length int) bool {
	for i, x := range list {
		if i != x {
			return false
		}
	}
	return len(list) == length
}

// classes has one letter for each word and symbol; N is a number, V a name, ? anything else.
var classes = map[string]string{
	"skip": "s", "flip": "f", "observe": "o", "if": "i", "else": "e", "repeat": "r", "while": "w", "max": "m", "call": "c", "var": "v",
	"proc": "p", "fuel": "u", "and": "&", "or": "|", "not": "!", "choose": "?", ":=": "A", "(": "(", ")": ")", "{": "{", "}": "}",
	":": ":", "+": "+", "-": "-", "*": "*", "=": "=", "<": "<",
}

var numberPattern = regexp.MustCompile(`^([0-9]|[1-9][0-9])$`)

func classesOf(tokens []string) string {
	text := ""
	for _, token := range tokens {
		class, known := classes[token]
		switch {
		case known:
			text += class
		case numberPattern.MatchString(token):
			text += "N"
		case namePattern.MatchString(token):
			text += "V"
		default:
			text += "?"
		}
	}
	return text
}

var (
	bracketPattern   = regexp.MustCompile(`\((![NVE]|[NVE][-+*=<&|][NVE])\)`)
	statementPattern = regexp.MustCompile(`s|VA[NVE]|fV(N:N)+|o[NVE]|i[NVE]\{S*\}e\{S*\}|rN\{S*\}|w[NVE]mN\{S*\}|cV`)
	programPattern   = regexp.MustCompile(`^(vVN)*(pV\{S*\})*uNS*$`)
	exprPattern      = regexp.MustCompile(`^[NVE]$`)
)

// reduced replaces what matches by a symbol as long as there is anything.
func reduced(text string, pattern *regexp.Regexp, symbol string) string {
	for {
		next := pattern.ReplaceAllString(text, symbol)
		if next == text {
			return text
		}
		text = next
	}
}

// followsGrammar is the reference for the grammar: it reduces brackets and then statements from the inside.
func followsGrammar(tokens []string) bool {
	brackets := reduced(classesOf(tokens), bracketPattern, "E")
	return programPattern.MatchString(reduced(brackets, statementPattern, "S"))
}

func isExprByGrammar(tokens []string) bool {
	return exprPattern.MatchString(reduced(classesOf(tokens), bracketPattern, "E"))
}

// usage counts what the tokens of a text mean, each by the ones around it.
type usage struct {
	vars, procs          []string
	sizes                map[string]int
	exprs, stmts, faults int
}

// meaning returns the usage of tokens that follow the grammar.
func meaning(tokens []string) usage {
	tokens = slices.Concat([]string{"", ""}, tokens, []string{""})
	u := usage{sizes: map[string]int{}}
	for i := 2; i < len(tokens)-1; i++ {
		switch tokens[i-1] {
		case "var":
			u.vars = append(u.vars, tokens[i])
			u.sizes[tokens[i]], _ = strconv.Atoi(tokens[i+1])
		case "proc":
			u.procs = append(u.procs, tokens[i])
		}
	}
	for i := 2; i < len(tokens)-1; i++ {
		u.add(tokens[i-2:i+2], tokens[i:])
	}
	return u
}

// add adds the third of four tokens; rest begins with it.
func (u *usage) add(around, rest []string) {
	token, before, after := around[2], around[1], around[3]
	switch class := classesOf([]string{token}); class {
	case "N":
		value, _ := strconv.Atoi(token)
		u.addNumber(value, around)
	case "V":
		isCall := before == "call"
		u.check(before == "var" || before == "proc" || isCall && slices.Contains(u.procs, token) || !isCall && slices.Contains(u.vars, token))
		if !slices.Contains([]string{"var", "proc", "call", "flip"}, before) && after != ":=" {
			u.exprs++
		}
	case "+", "-", "*", "=", "<", "&", "|", "!":
		u.exprs++
	case "f":
		u.stmts++
		u.addChoices(u.sizes[after], rest[2:])
	case "s", "A", "o", "i", "r", "w", "c":
		u.stmts++
	}
}

func (u *usage) addNumber(value int, around []string) {
	between := func(low, high int) { u.check(low <= value && value <= high) }
	switch {
	case around[0] == "var":
		between(2, 4)
	case around[1] == "fuel":
		between(0, 3)
	case around[1] == "repeat":
		between(1, 4)
	case around[1] == "max":
		between(0, 4)
	case around[1] == ":":
		between(1, 12)
	case around[3] != ":":
		between(0, 20)
		u.exprs++
	}
}

// addChoices checks the values of the choices at the start of the tokens.
func (u *usage) addChoices(size int, tokens []string) {
	for last := -1; len(tokens) > 2 && tokens[1] == ":"; tokens = tokens[3:] {
		value, _ := strconv.Atoi(tokens[0])
		u.check(value > last && value < size)
		last = value
	}
}

func (u *usage) check(good bool) { u.faults += truthOf(!good) }

// isTextByReference is the reference for whether ParseProgram accepts a text.
func isTextByReference(text string) bool {
	tokens, ok := tokensByPattern(text)
	if !ok || !followsGrammar(tokens) {
		return false
	}
	u := meaning(tokens)
	names := slices.Concat(u.vars, u.procs)
	slices.Sort(names)
	distinct := len(slices.Compact(slices.Clone(names))) == len(names)
	return distinct && len(u.vars) >= 1 && len(u.vars) <= 5 && len(u.procs) <= 3 && u.exprs <= 40 && u.stmts <= 24 && u.faults == 0
}

// isExprTextByReference is the reference for whether ParseExpr accepts a text, for valid variables.
func isExprTextByReference(vars []impl.Var, text string) bool {
	tokens, ok := tokensByPattern(text)
	if !ok || !isExprByGrammar(tokens) {
		return false
	}
	var declarations []string
	for _, v := range vars {
		declarations = append(declarations, "var", v.Name, fmt.Sprint(v.Size))
	}
	u := meaning(slices.Concat(declarations, tokens))
	return u.exprs <= 40 && u.faults == 0
}
