package tests

import (
	"fmt"
	"math"
	"math/big"
	"math/rand"
	"reflect"
	"slices"
	"strings"
	"testing"
	"unsafe"

	"loop.example/g00893/impl"
)

// massesOfCoins adds up the masses of all assignments of the coins, by the outcome and, of those that finish, the values.
func massesOfCoins(t *testing.T, p impl.Program) map[string]*big.Rat {
	t.Helper()
	coins, ok := impl.CoinsOf(p)
	if !ok {
		t.Fatalf("no coins of %+v", p)
	}
	masses := map[string]*big.Rat{"rejected": new(big.Rat), "exhausted": new(big.Rat)}
	for _, bits := range assignmentsOf(len(coins)) {
		r, okRun := impl.RunWithCoins(p, bits)
		mass, okMass := impl.CoinMass(p, bits)
		if !okRun || !okMass {
			t.Fatalf("%+v with %q: %+v %v", p, bits, r, mass)
		}
		key := map[int]string{impl.RunFinished: fmt.Sprint(r.Values), impl.RunRejected: "rejected", impl.RunExhausted: "exhausted"}[r.Outcome]
		if masses[key] == nil {
			masses[key] = new(big.Rat)
		}
		masses[key].Add(masses[key], bigOfRat(t, mass))
	}
	return masses
}

// massesOfResult lists the masses of a result as massesOfCoins does.
func massesOfResult(t *testing.T, r impl.Result) map[string]*big.Rat {
	t.Helper()
	masses := map[string]*big.Rat{"rejected": bigOfRat(t, r.Rejected), "exhausted": bigOfRat(t, r.Exhausted)}
	for _, w := range r.States {
		masses[fmt.Sprint(w.Values)] = bigOfRat(t, w.Mass)
	}
	return masses
}

// coinCounts tells how often interesting programs occurred.
type coinCounts struct{ inferred, referred, several, rejected, exhausted, all, many int }

func (c *coinCounts) add(p impl.Program, r impl.Result) {
	c.several += truthOf(len(r.States) > 1)
	c.rejected += truthOf(r.Rejected != zeroRat)
	c.exhausted += truthOf(r.Exhausted != zeroRat)
	c.all += truthOf(len(r.States) > 1 && r.Rejected != zeroRat && r.Exhausted != zeroRat)
	c.many += truthOf(len(coinsByReference(p)) > 7)
}

func TestPromise9MassesOfCoinsAddUpToTheExactResult(t *testing.T) {
	var c coinCounts
	randomTossablePrograms(91, 6000, func(source *rand.Rand, p impl.Program) {
		masses := massesOfCoins(t, p)
		if r, ok := impl.Infer(p); ok {
			if !sameMasses(masses, massesOfResult(t, r)) {
				t.Fatalf("%+v: %v instead of %+v", p, masses, r)
			}
			c.inferred++
			c.add(p, r)
		}
		if r, ok := resultByReference(p); ok {
			if !sameMasses(masses, massesOfResult(t, r)) {
				t.Fatalf("%+v: %v instead of %+v", p, masses, r)
			}
			c.referred++
		}
	})
	if min(c.inferred, c.referred) < 3000 || min(c.several, c.rejected, c.exhausted, c.many) < 300 || c.all < 15 {
		t.Errorf("too few programs: %+v", c)
	}
}

func TestPromise9OfExamples(t *testing.T) {
	for what, p := range map[string]impl.Program{
		"G": exampleG(), "out of order": outOfOrder(), "no coins": manySkips(24), "slicing": threeVars(t, exampleOfSlicing),
		"ten coins": manyCoins(samplesOf(4, 4, 4, 2)...), "greatest weights": manyCoins(sample(0, 12, 12, 12, 12), sample(1, 12, 11), observe(0), sample(0, 11, 12, 12)),
		"samples that are not reached": manyCoins(ifElse(0, samplesOf(2, 3), samplesOf(4)), observe(0), sample(1, 5, 7)),
	} {
		r, ok := impl.Infer(p)
		if masses := massesOfCoins(t, p); !ok || !sameMasses(masses, massesOfResult(t, r)) {
			t.Errorf("%s: %v instead of %+v", what, masses, r)
		}
	}
}

// TestPromise9OfProgramsWithManyPaths has programs with few coins, but with so many branches that Infer does not take
// them.
func TestPromise9OfProgramsWithManyPaths(t *testing.T) {
	body := append(samplesOf(3, 2, 2), sample(1, 1, 2))
	for at := range 20 {
		body = append(body, ifElse(0, []tree{}, nil))
		if at%4 == 3 {
			body[len(body)-1] = []tree{assign(1, 1), observe(1), while(3, 0), assign(0, 2), sample(1, 1, 4)}[at/4]
		}
	}
	exprs := []impl.Expr{variable(0), binary(impl.OpAdd, 0, 0), variable(1), binary(impl.OpEq, 0, 1)}
	p := program([]int{4, 3}, exprs, 0, nil, body...)
	if r, ok := impl.Infer(p); ok {
		t.Fatalf("inferred %+v", r)
	}
	r, ok := resultByReference(p)
	if masses := massesOfCoins(t, p); !ok || len(r.States) == 0 || !sameMasses(masses, massesOfResult(t, r)) {
		t.Errorf("%v instead of %+v", masses, r)
	}
}

// TestPromise9OfTables adds up the masses of truth tables and compares them with the exact result.
func TestPromise9OfTables(t *testing.T) {
	positive, conditional := 0, 0
	randomTossablePrograms(92, 2500, func(source *rand.Rand, p impl.Program) {
		r, ok := impl.Infer(p)
		if !ok {
			return
		}
		v, e := source.Intn(len(p.Vars)), source.Intn(len(p.Exprs))
		value := source.Intn(p.Vars[v].Size)
		finished, okFinished := impl.FinishTable(p)
		is, okIs := impl.ValueTable(p, v, value)
		holds, okHolds := impl.TruthTable(p, e)
		if !okFinished || !okIs || !okHolds {
			t.Fatalf("%+v: %q %q %q", p, finished, is, holds)
		}
		ofAll, ofIs, ofHolds := new(big.Rat), new(big.Rat), new(big.Rat)
		for _, w := range r.States {
			mass := bigOfRat(t, w.Mass)
			ofAll.Add(ofAll, mass)
			if w.Values[v] == value {
				ofIs.Add(ofIs, mass)
			}
			if valueByMemo(p.Exprs, e, w.Values, map[int]int{}) != 0 {
				ofHolds.Add(ofHolds, mass)
			}
		}
		for table, wanted := range map[string]*big.Rat{finished: ofAll, is: ofIs, holds: ofHolds} {
			if sum := massOfTable(t, p, table); sum.Cmp(wanted) != 0 {
				t.Fatalf("%+v: %q has mass %s instead of %s", p, table, sum, wanted)
			}
		}
		positive += truthOf(ofIs.Sign() > 0 && ofIs.Cmp(ofAll) < 0)
		conditional += truthOf(ofHolds.Sign() > 0 && ofHolds.Cmp(ofAll) < 0)
	})
	if min(positive, conditional) < 300 {
		t.Errorf("%d values and %d expressions", positive, conditional)
	}
}

// massOfTable adds up the masses of the assignments of a truth table.
func massOfTable(t *testing.T, p impl.Program, table string) *big.Rat {
	t.Helper()
	sum := new(big.Rat)
	for i, bits := range assignmentsOf(len(coinsByReference(p))) {
		if table[i] == '1' {
			mass, _ := impl.CoinMass(p, bits)
			sum.Add(sum, bigOfRat(t, mass))
		}
	}
	return sum
}

func TestTossesAgreeWithReference(t *testing.T) {
	coins, nested, unreached := 0, 0, 0
	randomTossablePrograms(93, 1500, func(source *rand.Rand, p impl.Program) {
		if len(coinsByReference(p)) > 6 && source.Intn(10) > 0 {
			return
		}
		if expectTosses(t, "random program", p); t.Failed() {
			t.Fatalf("%+v", p)
		}
		for _, c := range coinsByReference(p) {
			table, _ := impl.ReachTable(p, c.stmt)
			coins++
			nested += truthOf(strings.Contains(table, "0") && strings.Contains(table, "1"))
			unreached += truthOf(!strings.Contains(table, "1"))
		}
	})
	if coins < 1500 || min(nested, unreached) < 150 {
		t.Errorf("%d coins, %d of them reached sometimes, %d never", coins, nested, unreached)
	}
}

// TestFormsAgreeWithReference has random strings that are nearly truth tables.
func TestFormsAgreeWithReference(t *testing.T) {
	source := rand.New(rand.NewSource(94))
	forms, failures := 0, 0
	for i := range 6000 {
		digits := make([]byte, max(0, 1<<source.Intn(12)-truthOf(source.Intn(8) == 0)))
		for at := range digits {
			digits[at] = "0010000000110000"[source.Intn(16)>>(i%5)]
		}
		if len(digits) > 0 && i%6 == 0 {
			digits[source.Intn(len(digits))] = byte(source.Intn(256))
		}
		wanted, ok := dnfByReference(string(digits))
		form, okForm := impl.FormatDNF(string(digits))
		if okForm != ok {
			t.Fatalf("%q: %v", digits, okForm)
		}
		expectTable(t, string(digits), form, ok, wanted)
		forms += truthOf(strings.Contains(wanted, "+"))
		failures += truthOf(!ok)
	}
	if min(forms, failures) < 1000 {
		t.Errorf("%d forms, %d failures", forms, failures)
	}
}

// coinArguments are arguments of the functions of chapter 9.
type coinArguments struct {
	p                 impl.Program
	bits, table       string
	stmt, v, value, e int
}

// coinCalls returns the results of all functions of chapter 9, each followed by whether it succeeded.
func coinCalls(a coinArguments) []any {
	coins, okCoins := impl.CoinsOf(a.p)
	r, okRun := impl.RunWithCoins(a.p, a.bits)
	mass, okMass := impl.CoinMass(a.p, a.bits)
	finished, okFinished := impl.FinishTable(a.p)
	reached, okReached := impl.ReachTable(a.p, a.stmt)
	is, okIs := impl.ValueTable(a.p, a.v, a.value)
	holds, okHolds := impl.TruthTable(a.p, a.e)
	form, okForm := impl.FormatDNF(a.table)
	return []any{coins, okCoins, r, okRun, mass, okMass, finished, okFinished, reached, okReached, is, okIs, holds, okHolds, form, okForm}
}

// expectCoinsConsistent checks which calls succeed, and that those that fail return zero values.
func expectCoinsConsistent(t *testing.T, a coinArguments) {
	t.Helper()
	results := coinCalls(a)
	ok := isTossable(a.p)
	okBits := ok && slices.Contains(assignmentsOf(len(coinsByReference(a.p))), a.bits)
	within := func(i, length int) bool { return ok && 0 <= i && i < length }
	okVar := within(a.v, len(a.p.Vars))
	_, okTable := dnfByReference(a.table)
	wanted := []bool{ok, okBits, okBits, ok, within(a.stmt, len(a.p.Stmts)), okVar && within(a.value, a.p.Vars[a.v].Size), within(a.e, len(a.p.Exprs)), okTable}
	zeros := []any{[]impl.Coin(nil), impl.CoinRun{}, impl.Rat{}, "", "", "", "", ""}
	for i, ok := range wanted {
		if results[2*i+1] != ok || !ok && !reflect.DeepEqual(results[2*i], zeros[i]) {
			t.Fatalf("function %d, success %v: %+v: %v", i, ok, a, results[2*i])
		}
	}
}

func TestPromise33FormulasAcceptsAllArguments(t *testing.T) {
	programs := examplesAndFaults()
	add := addWithSpoiled(&programs)
	randomTossablePrograms(95, 500, add)
	randomUnrolledPrograms(96, 200, add)
	randomCallingPrograms(97, 200, add)
	source := rand.New(rand.NewSource(98))
	indices := []int{math.MinInt, -1, 0, 0, 1, 1, 2, 3, 4, 5, 23, 24, 40, math.MaxInt}
	texts := []string{"", "0", "1", "01", "11", "0110", "000", "2", "é", "1x", "\x00", "\xff", "10000110", strings.Repeat("1", 10), strings.Repeat("0", 11), strings.Repeat("01", 512), strings.Repeat("0", 2048), strings.Repeat("1", 1025)}
	for _, p := range programs {
		for range 4 {
			a := coinArguments{p: p, bits: texts[source.Intn(len(texts))], table: texts[source.Intn(len(texts))]}
			for _, i := range []*int{&a.stmt, &a.v, &a.value, &a.e} {
				*i = indices[source.Intn(len(indices))]
			}
			if coins := coinsByReference(p); source.Intn(2) == 0 && len(coins) < 11 {
				assignments := assignmentsOf(len(coins))
				a.bits = assignments[source.Intn(len(assignments))]
			}
			expectCoinsConsistent(t, a)
		}
	}
}

// memoryOf returns the memory of a string.
func memoryOf(s string) span { return spanOf(unsafe.Slice(unsafe.StringData(s), len(s))) }

// expectNewStrings checks that results share no memory with the texts of the arguments.
func expectNewStrings(t *testing.T, results []any, a coinArguments) {
	t.Helper()
	for i, result := range results {
		if text, ok := result.(string); ok && len(text) > 0 {
			expectApart(t, fmt.Sprint("result ", i), []span{memoryOf(text)}, []span{memoryOf(a.bits), memoryOf(a.table)})
		}
	}
}

func TestPromise33FormulasNeitherModifiesNorShares(t *testing.T) {
	programs := append(validPrograms(), exampleG(), outOfOrder(), impl.Program{})
	randomTossablePrograms(99, 800, func(source *rand.Rand, p impl.Program) {
		if source.Intn(5) == 0 {
			spoil(source, &p)
		}
		programs = append(programs, p)
	})
	for i, plain := range programs {
		p := programWithSpare(plain)
		before := whole(p)
		bits := "1011010011"[:min(10, len(coinsByReference(p)))]
		// The table is of its own memory, because one byte might otherwise lie where all such strings do.
		a := coinArguments{p, strings.Clone(bits), strings.Clone("01101001"[i%8 : i%8+1]), i % 3, i % 2, i % 3, i % 4}
		calls := coinCalls(a)
		first := describe(calls)
		expectNewStrings(t, calls, a)
		r := calls[2].(impl.CoinRun)
		expectApart(t, "run", []span{spanOf(r.Values), spanOf(r.Reached)}, append(spansIn(p), spanOf(calls[0].([]impl.Coin))))
		expectUnshared(t, calls, overwrite)
		if !reflect.DeepEqual(whole(p), before) {
			t.Fatalf("case %d: the program was modified, or a result shares its memory", i)
		}
		a.p = plain
		if again := describe(coinCalls(a)); again != first {
			t.Fatalf("case %d: the results depend on more than the arguments: %s and %s", i, first, again)
		}
	}
}
