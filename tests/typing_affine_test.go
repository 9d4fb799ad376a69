package tests

import (
	"math"
	"slices"
	"testing"

	"loop.example/g00893/impl"
)

// Expressions over the variables a, b and c of affinePrograms.
const (
	readNone = iota
	readA
	readB
	readC
	readAB
	readATwice
	readBAndATwice
	readNotA
)

// affineProgram is a program over three variables of size 2.
func affineProgram(fuel int, procs [][]tree, body ...tree) impl.Program {
	exprs := []impl.Expr{
		constant(1), variable(0), variable(1), variable(2), binary(impl.OpAnd, 1, 2), binary(impl.OpAdd, 1, 1), binary(impl.OpMul, 2, 5), not(1),
	}
	return program([]int{2, 2, 2}, exprs, fuel, procs, body...)
}

func body(statements ...tree) impl.Program { return affineProgram(0, nil, statements...) }

// expectMisuse checks the first misuse, a statement and a variable, or none, and the resources that are consumed.
func expectMisuse(t *testing.T, what string, p impl.Program, resources, misuse, consumed []int) {
	t.Helper()
	affine, ok := impl.IsAffine(p, resources)
	if affine != (misuse == nil) || !ok {
		t.Errorf("%s: affine %v %v for %v", what, affine, ok, resources)
	}
	stmt, v, found := impl.FirstMisuse(p, resources)
	if found != (misuse != nil) || found && !slices.Equal([]int{stmt, v}, misuse) || !found && (stmt != 0 || v != 0) {
		t.Errorf("%s: misuse of %v: %d %d %v instead of %v", what, resources, stmt, v, found, misuse)
	}
	got, ok := impl.ConsumedAfter(p, resources)
	if !ok || !slices.Equal(got, consumed) {
		t.Errorf("%s: consumed of %v: %v %v instead of %v", what, resources, got, ok, consumed)
	}
}

// useOf is what is expected of a program with variable a as the only resource.
type useOf struct {
	p        impl.Program
	stmt     int
	consumed bool
}

// affine stands for a use without misuse.
const affine = -1

func (u useOf) expect(t *testing.T, what string) {
	t.Helper()
	var misuse, consumed []int
	if u.stmt != affine {
		misuse = []int{u.stmt, 0}
	}
	if u.consumed {
		consumed = []int{0}
	}
	expectMisuse(t, what, u.p, []int{0}, misuse, consumed)
}

func TestExampleOfAffineUse(t *testing.T) {
	p := exampleOfTyping()
	expectMisuse(t, "example", p, []int{0}, []int{0, 0}, nil)
	expectMisuse(t, "example", p, []int{1}, nil, []int{1})
	expectMisuse(t, "example", p, []int{0, 1}, []int{0, 0}, []int{1})
	expectMisuse(t, "example", p, nil, nil, nil)
	vars, ok := impl.AffineVars(p)
	expectList(t, "affine variables", vars, ok, []int{1})
}

func TestReadsOfStatements(t *testing.T) {
	cases := map[string]useOf{
		"no statement":                         {body(), affine, false},
		"no read":                              {body(skip(), observe(readNone), observe(readB), sample(0, 1), assign(1, readC)), affine, false},
		"one read by an observation":           {body(observe(readA)), affine, true},
		"one read by an assignment":            {body(assign(1, readA)), affine, true},
		"one read by a negation":               {body(observe(readNotA)), affine, true},
		"one read beside another variable":     {body(observe(readAB)), affine, true},
		"two reads in one expression":          {body(observe(readATwice)), 0, true},
		"two reads below another one":          {body(skip(), observe(readBAndATwice)), 1, true},
		"two reads in the assigned expression": {body(assign(0, readATwice)), 0, false},
		"two statements":                       {body(observe(readA), assign(1, readA)), 1, true},
		"two statements with others between":   {body(observe(readA), skip(), assign(1, readB), observe(readC), observe(readAB)), 4, true},
		"sampled between":                      {body(observe(readA), sample(0, 1, 1), observe(readA)), affine, true},
		"assigned between":                     {body(observe(readA), assign(0, readNone), observe(readA)), affine, true},
		"assigned at the end":                  {body(observe(readA), assign(0, readNone)), affine, false},
		"another one assigned between":         {body(observe(readA), assign(1, readNone), sample(2, 1), observe(readA)), 3, true},
		"read and assigned in one statement":   {body(assign(0, readA), assign(0, readNotA), assign(0, readA)), affine, false},
		"read before such a statement":         {body(observe(readA), assign(0, readA)), 1, false},
		"read after such a statement":          {body(assign(0, readA), observe(readA)), affine, true},
		"assigned before anything is read":     {body(sample(0, 1), assign(0, readNone), observe(readA)), affine, true},
		"misuse after which it is assigned":    {body(observe(readA), observe(readA), sample(0, 1)), 1, false},
		"two misuses":                          {body(observe(readA), observe(readA), observe(readATwice)), 1, true},
		"skips and samples have no expression": {affineProgram(0, nil, skip(), sample(1, 1), repeat(2), observe(readA)), affine, true},
	}
	for what, c := range cases {
		c.expect(t, what)
	}
}

func TestReadsInBranches(t *testing.T) {
	read, set := observe(readA), sample(0, 1, 1)
	cases := map[string]useOf{
		"both branches":                       {body(ifElse(readNone, []tree{read}, []tree{read})), affine, true},
		"both branches and behind":            {body(ifElse(readNone, []tree{read}, []tree{read}), read), 3, true},
		"Then only":                           {body(ifElse(readNone, []tree{read}, nil)), affine, true},
		"Else only":                           {body(ifElse(readNone, nil, []tree{read})), affine, true},
		"Then and behind":                     {body(ifElse(readNone, []tree{read}, nil), read), 2, true},
		"Else and behind":                     {body(ifElse(readNone, nil, []tree{read}), read), 2, true},
		"condition":                           {body(ifElse(readA, nil, nil)), affine, true},
		"condition and Then":                  {body(ifElse(readA, []tree{read}, nil)), 1, true},
		"condition and Else":                  {body(ifElse(readA, nil, []tree{read})), 1, true},
		"condition and behind":                {body(ifElse(readA, nil, nil), read), 1, true},
		"before and condition":                {body(read, ifElse(readA, nil, nil)), 1, true},
		"condition with two reads":            {body(ifElse(readATwice, nil, nil)), 0, true},
		"assigned in both branches":           {body(ifElse(readA, []tree{set}, []tree{set}), read), affine, true},
		"assigned in Then only":               {body(ifElse(readA, []tree{set}, nil), read), 2, true},
		"assigned in Else only":               {body(ifElse(readA, nil, []tree{set}), read), 2, true},
		"assigned in both branches, not read": {body(read, ifElse(readNone, []tree{set}, []tree{skip(), set})), affine, false},
		"assigned in one branch, not read":    {body(read, ifElse(readNone, []tree{set}, nil)), affine, true},
		"read in one, assigned in the other":  {body(ifElse(readNone, []tree{read}, []tree{set}), set, read), affine, true},
		"conditions are ignored":              {body(ifElse(readNone, nil, []tree{read}), observe(readNone), read), 3, true},
		"rejected executions go on":           {body(read, observe(readNone), read), 2, true},
		"nested branches":                     {body(ifElse(readNone, []tree{ifElse(readNone, []tree{read}, []tree{set})}, []tree{read}), ifElse(readNone, nil, []tree{read})), 6, true},
	}
	for what, c := range cases {
		c.expect(t, what)
	}
}

func TestReadsInLoops(t *testing.T) {
	read, set := observe(readA), sample(0, 1, 1)
	cases := map[string]useOf{
		"repeated once":                         {body(repeat(1, read)), affine, true},
		"repeated once, and behind":             {body(repeat(1, read), read), 2, true},
		"repeated twice":                        {body(repeat(2, read)), 1, true},
		"repeated four times":                   {body(repeat(4, read)), 1, true},
		"assigned before the read":              {body(repeat(4, set, read)), affine, true},
		"assigned after the read":               {body(repeat(4, read, set)), affine, false},
		"read before such a repetition":         {body(read, repeat(4, set, read)), affine, true},
		"read before and in a repetition":       {body(read, repeat(1, read, set)), 2, false},
		"assigned in a branch of a repetition":  {body(repeat(2, read, ifElse(readNone, []tree{set}, nil))), 1, true},
		"empty repetition":                      {body(read, repeat(3)), affine, true},
		"limit 0, expression":                   {body(while(readA, 0)), affine, true},
		"limit 0, expression with two reads":    {body(while(readATwice, 0)), 0, true},
		"limit 0, read before":                  {body(read, while(readA, 0)), 1, true},
		"limit 0, read behind":                  {body(while(readA, 0), read), 1, true},
		"limit 0, block is not executed":        {body(read, while(readNone, 0, read, set)), affine, true},
		"limit 1, expression":                   {body(while(readA, 1)), 0, true},
		"limit 1, assigned in the block":        {body(while(readA, 1, set)), affine, true},
		"limit 1, read in the block":            {body(while(readA, 1, read, set)), 1, true},
		"limit 1, read at the end of the block": {body(while(readA, 1, set, read)), 0, true},
		"limit 1, block only":                   {body(while(readNone, 1, read)), affine, true},
		"limit 1, block and behind":             {body(while(readNone, 1, read), read), 2, true},
		"limit 1, block may assign":             {body(read, while(readNone, 1, set), read), 3, true},
		"limit 1, block may assign, not read":   {body(read, while(readNone, 1, set)), affine, true},
		"limit 2, block only":                   {body(while(readNone, 2, read)), 1, true},
		"limit 4, expression":                   {body(while(readA, 4, set)), affine, true},
		"limit 4, block assigns":                {body(while(readNone, 4, read, set)), affine, false},
		"limit 4, block assigns, and behind":    {body(while(readNone, 4, set, read), read), 3, true},
		"the second iteration":                  {body(while(readNone, 2, ifElse(readNone, []tree{read}, nil))), 2, true},
		"the third iteration":                   {body(while(readNone, 3, ifElse(readNone, []tree{ifElse(readNone, nil, []tree{read})}, []tree{set}))), 3, true},
	}
	for what, c := range cases {
		c.expect(t, what)
	}
}

func TestTimesOfRepetitions(t *testing.T) {
	for _, times := range []int{math.MinInt, -1, 0, 5, math.MaxInt} {
		expectTypingFailures(t, "repeat", body(repeat(times, observe(readA))))
		if times != 0 {
			expectTypingFailures(t, "while", body(while(readNone, times, observe(readA))))
		}
	}
}

func TestReadsInProcedures(t *testing.T) {
	read, set := observe(readA), sample(0, 1, 1)
	procs := func(fuel int, procs [][]tree, statements ...tree) impl.Program {
		return affineProgram(fuel, procs, statements...)
	}
	itself := [][]tree{{read, call(0)}}
	setting := [][]tree{{read, set, call(0)}}
	each := [][]tree{{read, call(1)}, {skip(), call(0)}}
	leaving := [][]tree{{read, ifElse(readNone, []tree{call(0)}, nil)}}
	cases := map[string]useOf{
		"never called":                          {procs(3, [][]tree{{read, read}}, read), affine, true},
		"called without fuel":                   {procs(0, [][]tree{{read, read}}, read, call(0)), affine, false},
		"nothing is read behind":                {procs(0, [][]tree{{}}, read, call(0), read, observe(readATwice)), affine, false},
		"called with fuel":                      {procs(1, [][]tree{{read}}, call(0)), affine, true},
		"called twice":                          {procs(1, [][]tree{{read}}, call(0), call(0)), 0, true},
		"called, and read behind":               {procs(1, [][]tree{{read}}, call(0), read), 2, true},
		"two procedures":                        {procs(1, [][]tree{{read}, {read}}, call(1), call(0)), 0, true},
		"assigned in a procedure":               {procs(1, [][]tree{{set}}, read, call(0), read), affine, true},
		"fuel is restored":                      {procs(1, [][]tree{{read, set}}, call(0), call(0), call(0), read), affine, true},
		"itself with fuel 0":                    {procs(0, itself, call(0)), affine, false},
		"itself with fuel 1":                    {procs(1, itself, call(0)), affine, false},
		"itself with fuel 2":                    {procs(2, itself, call(0)), 0, false},
		"itself with fuel 3":                    {procs(3, itself, call(0)), 0, false},
		"itself, assigned, with fuel 3":         {procs(3, setting, call(0)), affine, false},
		"each other with fuel 0":                {procs(0, each, call(0)), affine, false},
		"each other with fuel 1":                {procs(1, each, call(0)), affine, false},
		"each other with fuel 2":                {procs(2, each, call(0)), affine, false},
		"each other with fuel 3":                {procs(3, each, call(0)), 0, false},
		"each other from the second, fuel 2":    {procs(2, each, call(1)), affine, false},
		"each other from the second, fuel 3":    {procs(3, each, call(1)), affine, false},
		"a path that returns, fuel 0":           {procs(0, leaving, call(0), read), affine, false},
		"a path that returns, fuel 1":           {procs(1, leaving, call(0)), affine, true},
		"a path that returns, and behind":       {procs(1, leaving, call(0), read), 4, true},
		"a path that returns, fuel 2":           {procs(2, leaving, call(0)), 0, true},
		"a path that avoids the call":           {procs(0, [][]tree{{}}, read, ifElse(readNone, []tree{call(0), read}, nil)), affine, true},
		"a loop that avoids the call":           {procs(0, [][]tree{{}}, while(readNone, 2, read, call(0))), affine, false},
		"a loop with a call":                    {procs(0, [][]tree{{}}, while(readA, 2, call(0))), affine, true},
		"a loop that cannot avoid the call":     {procs(0, [][]tree{{}}, repeat(2, read, call(0))), affine, false},
		"a call in a loop of limit 0":           {procs(0, [][]tree{{}}, while(readNone, 0, call(0)), read), affine, true},
		"assigned where the path goes on":       {procs(0, [][]tree{{}}, read, ifElse(readNone, []tree{call(0)}, []tree{set}), read), affine, true},
		"assigned where the path ends":          {procs(0, [][]tree{{}}, read, ifElse(readNone, []tree{set, call(0)}, nil), read), 4, true},
		"one procedure with different fuel":     {procs(2, [][]tree{{skip(), call(1)}, {ifElse(readNone, []tree{call(2)}, []tree{read})}, {read, set}}, read, call(2), call(0)), 5, true},
		"deeper call ends before the read":      {procs(2, [][]tree{{call(1), read}, {call(2), read}, {set}}, read, call(0)), affine, false},
		"deeper call returns before both reads": {procs(3, [][]tree{{call(1), read}, {call(2), read}, {set}}, read, call(0)), 1, true},
	}
	for what, c := range cases {
		c.expect(t, what)
	}
}

func TestFirstOfSeveralMisuses(t *testing.T) {
	all := []int{0, 1, 2}
	reads := body(observe(readC), observe(readAB), observe(readB), observe(readA), observe(readC))
	expectMisuse(t, "least statement", reads, all, []int{2, 1}, all)
	expectMisuse(t, "without b", reads, []int{0, 2}, []int{3, 0}, []int{0, 2})
	expectMisuse(t, "c alone", reads, []int{2}, []int{4, 2}, []int{2})
	both := body(observe(readAB), skip(), observe(readAB), observe(readA))
	expectMisuse(t, "least variable", both, all, []int{2, 0}, []int{0, 1})
	expectMisuse(t, "the other variable", both, []int{1, 2}, []int{2, 1}, []int{1})
	backwards := changed(body(observe(readA), observe(readB), observe(readA), observe(readB)), func(p *impl.Program) { p.Body = []int{3, 2, 1, 0} })
	expectMisuse(t, "last statement of the path", backwards, all, []int{0, 0}, []int{0, 1})
	expectMisuse(t, "other last statement", backwards, []int{1}, []int{1, 1}, []int{1})
	later := body(repeat(2, observe(readB), ifElse(readNone, []tree{observe(readATwice)}, []tree{observe(readA), observe(readAB)})))
	expectMisuse(t, "not the first one of the path", later, all, []int{1, 1}, []int{0, 1})
	expectMisuse(t, "of another branch", later, []int{0}, []int{3, 0}, []int{0})
	unreachable := affineProgram(0, [][]tree{{observe(readATwice)}}, while(readNone, 0, observe(readATwice)), call(0), observe(readATwice))
	expectMisuse(t, "statements in no path", unreachable, all, nil, nil)
	assigned := body(assign(0, readATwice), assign(1, readBAndATwice), assign(2, readC))
	expectMisuse(t, "assigned resources", assigned, all, []int{0, 0}, []int{0})
	expectMisuse(t, "each once", assigned, []int{1, 2}, nil, nil)
}

func TestResources(t *testing.T) {
	p := body(observe(readAB), sample(0, 1), observe(readA), observe(readATwice), observe(readB))
	expectMisuse(t, "no resources", p, nil, nil, nil)
	expectMisuse(t, "no resources", p, []int{}, nil, nil)
	expectMisuse(t, "all variables", p, []int{0, 1, 2}, []int{3, 0}, []int{0, 1})
	expectMisuse(t, "some variables", p, []int{1, 2}, []int{4, 1}, []int{1})
	expectMisuse(t, "the last variable", p, []int{2}, nil, nil)
	vars, ok := impl.AffineVars(p)
	expectList(t, "affine variables", vars, ok, []int{2})
	invalid := [][]int{
		{3}, {-1}, {0, 0}, {1, 0}, {0, 2, 1}, {0, 1, 1}, {0, 1, 2, 3}, {0, 1, 2, 2}, {-1, 0}, {0, 3}, {math.MinInt}, {math.MaxInt},
		{math.MinInt, 0}, {0, math.MaxInt}, {math.MaxInt, math.MinInt}, make([]int, 100000),
	}
	for _, resources := range invalid {
		expectResourceFailures(t, "resources", p, resources)
	}
	five := program([]int{2, 2, 2, 2, 2}, []impl.Expr{variable(4), variable(0)}, 0, nil, observe(0), observe(1), assign(3, 0))
	expectMisuse(t, "five variables", five, []int{0, 1, 2, 3, 4}, []int{2, 4}, []int{0, 4})
	expectMisuse(t, "four variables", five, []int{0, 1, 2, 3}, nil, []int{0})
	expectResourceFailures(t, "a sixth variable", five, []int{0, 1, 2, 3, 4, 5})
}

// expectResourceFailures checks that the functions with resources return zero values.
func expectResourceFailures(t *testing.T, what string, p impl.Program, resources []int) {
	t.Helper()
	if affine, ok := impl.IsAffine(p, resources); affine || ok {
		t.Errorf("%s %.60v: affine %v %v", what, resources, affine, ok)
	}
	if stmt, v, ok := impl.FirstMisuse(p, resources); stmt != 0 || v != 0 || ok {
		t.Errorf("%s %.60v: misuse %d %d %v", what, resources, stmt, v, ok)
	}
	if list, ok := impl.ConsumedAfter(p, resources); list != nil || ok {
		t.Errorf("%s %.60v: consumed %v %v", what, resources, list, ok)
	}
}

// expectTypingFailures checks that all functions of an invalid program return zero values.
func expectTypingFailures(t *testing.T, what string, p impl.Program) {
	t.Helper()
	expectRange(t, p, 0, -1, 0)
	if counts, ok := impl.CountUses(p, 0); counts != nil || ok {
		t.Errorf("%s: uses %v %v", what, counts, ok)
	}
	if faults, ok := impl.TypeErrors(p); faults != nil || ok {
		t.Errorf("%s: errors %v %v", what, faults, ok)
	}
	expectResourceFailures(t, what, p, nil)
	expectResourceFailures(t, what, p, []int{0})
	if vars, ok := impl.AffineVars(p); vars != nil || ok {
		t.Errorf("%s: affine variables %v %v", what, vars, ok)
	}
	if vars, ok := impl.UnreadVars(p); vars != nil || ok {
		t.Errorf("%s: unread variables %v %v", what, vars, ok)
	}
}

func TestTypingOfInvalidPrograms(t *testing.T) {
	for reason, p := range invalidPrograms() {
		expectTypingFailures(t, reason, p)
	}
}

// nestedTrees returns a statement that contains the next one, and so on, for each of the statements.
func nestedTrees(count int, inner tree, outer func(inner ...tree) tree) tree {
	for range count {
		inner = outer(inner)
	}
	return inner
}

// TestNestedLoops has programs with far too many paths to follow one by one.
func TestNestedLoops(t *testing.T) {
	fourTimes := func(inner ...tree) tree { return repeat(4, inner...) }
	upToFour := func(inner ...tree) tree { return while(readNone, 4, inner...) }
	branches := func(inner ...tree) tree { return ifElse(readNone, inner, nil) }
	for what, outer := range map[string]func(inner ...tree) tree{"repeat": fourTimes, "while": upToFour} {
		useOf{body(nestedTrees(23, observe(readA), outer)), 23, true}.expect(t, what)
		useOf{body(nestedTrees(23, observe(readB), outer)), affine, false}.expect(t, what)
		useOf{body(nestedTrees(22, assign(0, readA), outer), observe(readA)), affine, true}.expect(t, what)
		useOf{body(observe(readA), nestedTrees(22, assign(0, readA), outer)), 23, what == "while"}.expect(t, what)
	}
	useOf{body(nestedTrees(23, observe(readA), branches)), affine, true}.expect(t, "if")
	useOf{body(nestedTrees(22, observe(readA), branches), observe(readA)), 23, true}.expect(t, "if")
	useOf{body(nestedTrees(22, observe(readA), func(inner ...tree) tree { return while(readA, 4, inner...) })), 0, true}.expect(t, "conditions")
	calls := [][]tree{{sample(0, 1), repeat(4, repeat(4, call(1), call(2), call(1)))}, {while(readNone, 4, call(2), call(0))}, {repeat(4, call(0), call(1))}}
	useOf{affineProgram(3, calls, repeat(4, repeat(4, call(0), call(1), call(2))), observe(readA)), affine, false}.expect(t, "procedures")
	manyCalls := [][]tree{slices.Repeat([]tree{call(0)}, 12), {}}
	useOf{affineProgram(3, manyCalls, append(slices.Repeat([]tree{call(1)}, 8), observe(readA), call(0), observe(readA))...), affine, false}.expect(t, "many calls")
	leaving := [][]tree{{ifElse(readNone, slices.Repeat([]tree{call(0)}, 16), []tree{observe(readA)})}}
	useOf{affineProgram(3, leaving, call(0)), 17, true}.expect(t, "many calls that return")
}

// TestManyUses has an expression whose uses cannot be counted.
func TestManyUses(t *testing.T) {
	exprs := append(doubling(variable(1), impl.OpAdd, 39), variable(0))
	p := program([]int{2, 2}, exprs, 0, nil, skip(), assign(1, 38), observe(39))
	expectMisuse(t, "many uses", p, []int{0, 1}, []int{1, 1}, []int{0})
	expectMisuse(t, "one use", p, []int{0}, nil, []int{0})
	vars, ok := impl.AffineVars(p)
	expectList(t, "affine variables", vars, ok, []int{0})
	vars, ok = impl.UnreadVars(p)
	expectList(t, "unread variables", vars, ok, []int{})
}

func TestAffineVars(t *testing.T) {
	cases := []struct {
		p      impl.Program
		wanted []int
	}{
		{exampleG(), []int{0, 1}}, {everyKind(), []int{1, 2}}, {body(), []int{0, 1, 2}}, {body(observe(readATwice)), []int{1, 2}},
		{body(observe(readBAndATwice), observe(readB)), []int{2}}, {body(observe(readAB), observe(readAB), observe(readC)), []int{2}},
		{body(repeat(2, observe(readAB), observe(readC))), []int{}}, {body(repeat(2, observe(readAB), sample(1, 1))), []int{1, 2}},
		{program([]int{2}, nil, 0, nil), []int{0}}, {program([]int{2, 2, 2, 2, 2}, nil, 0, nil), []int{0, 1, 2, 3, 4}}, {impl.Program{}, nil},
	}
	for i, c := range cases {
		got, ok := impl.AffineVars(c.p)
		if expectList(t, "affine variables", got, ok, c.wanted); t.Failed() {
			t.Fatalf("case %d", i)
		}
	}
}
