package tests

import (
	"math"
	"slices"
	"strconv"
	"strings"
	"testing"

	"loop.example/g00893/impl"
)

// textOfRun is the text of an execution, such as "finished 10 2 1/3".
func textOfRun(r impl.Run) string {
	outcome := []string{impl.RunFinished: "finished", impl.RunRejected: "rejected", impl.RunExhausted: "exhausted"}[r.Outcome]
	values := ""
	for _, value := range r.Values {
		values += strconv.Itoa(value)
	}
	return strings.Join([]string{outcome, values, strconv.Itoa(r.Draws), textOfRat(r.Mass)}, " ")
}

func expectRun(t *testing.T, what string, p impl.Program, draws []int, wanted string) {
	t.Helper()
	r, ok := impl.RunWith(p, draws)
	if wanted == fails {
		if ok || !sameRuns(r, impl.Run{}) {
			t.Errorf("%s with %.100v: %+v %v instead of a failure", what, draws, r, ok)
		}
		return
	}
	if !ok || textOfRun(r) != wanted {
		t.Errorf("%s with %.100v: %q %v instead of %q", what, draws, textOfRun(r), ok, wanted)
	}
}

func TestRunsOfExample(t *testing.T) {
	g := exampleG()
	for _, c := range []struct {
		draws  []int
		wanted string
	}{
		{[]int{1, 0}, "finished 10 2 1/3"}, {nil, "rejected 00 2 1/6"}, {[]int{}, "rejected 00 2 1/6"}, {[]int{0, 0}, "rejected 00 2 1/6"},
		{[]int{0}, "rejected 00 2 1/6"}, {[]int{1}, "finished 10 2 1/3"}, {[]int{2}, "finished 10 2 1/3"}, {[]int{3}, "rejected 00 2 1/6"},
		{[]int{0, 1}, "finished 01 2 1/6"}, {[]int{3, 3}, "finished 01 2 1/6"}, {[]int{2, 1}, "finished 11 2 1/3"}, {[]int{5, 5}, "finished 11 2 1/3"},
		{[]int{1, 0, 1}, "finished 10 2 1/3"}, {[]int{0, 1, 2, 3, 4, 5, 6}, "finished 01 2 1/6"}, {[]int{100000, 100000}, "finished 10 2 1/3"},
		{[]int{99999, 99999}, "finished 01 2 1/6"}, {[]int{1, 0, 100000}, "finished 10 2 1/3"},
		{[]int{100001}, fails}, {[]int{-1}, fails}, {[]int{1, 100001}, fails}, {[]int{1, -1}, fails}, {[]int{1, 0, 100001}, fails}, {[]int{1, 0, -1}, fails},
		{[]int{math.MinInt}, fails}, {[]int{math.MaxInt}, fails}, {[]int{1, 0, math.MinInt}, fails}, {[]int{1, 0, math.MaxInt}, fails},
		{make([]int, 100), "rejected 00 2 1/6"}, {make([]int, 101), fails}, {make([]int, 100000), fails},
		{slices.Repeat([]int{100000}, 100), "finished 10 2 1/3"}, {slices.Repeat([]int{1}, 101), fails},
	} {
		expectRun(t, "G", g, c.draws, c.wanted)
	}
}

func TestRemaindersOfDraws(t *testing.T) {
	uneven, even := twoVars(t, "fuel 0 flip a 0:3 2:1 3:4"), twoVars(t, "fuel 0 flip a 0:12 1:12 2:12 3:12")
	single, last := twoVars(t, "fuel 0 flip a 3:5"), twoVars(t, "fuel 0 flip a 1:1 2:12")
	for draw, wanted := range map[int]string{0: "00 1 3/8", 1: "00 1 3/8", 2: "00 1 3/8", 3: "20 1 1/8", 4: "30 1 1/2", 5: "30 1 1/2",
		7: "30 1 1/2", 8: "00 1 3/8", 10: "00 1 3/8", 11: "20 1 1/8", 12: "30 1 1/2", 99999: "30 1 1/2", 100000: "00 1 3/8"} {
		expectRun(t, "uneven", uneven, []int{draw}, "finished "+wanted)
	}
	for draw, wanted := range map[int]string{0: "00", 11: "00", 12: "10", 23: "10", 24: "20", 35: "20", 36: "30", 47: "30", 48: "00", 59: "00", 60: "10"} {
		expectRun(t, "even", even, []int{draw}, "finished "+wanted+" 1 1/4")
	}
	for _, draw := range []int{0, 1, 4, 5, 100000} {
		expectRun(t, "single", single, []int{draw}, "finished 30 1 1")
	}
	for draw, wanted := range map[int]string{0: "10 1 1/13", 1: "20 1 12/13", 12: "20 1 12/13", 13: "10 1 1/13"} {
		expectRun(t, "last", last, []int{draw}, "finished "+wanted)
	}
}

func TestRunsOfStatements(t *testing.T) {
	repeated := "fuel 0 repeat 4 { flip b 0:1 1:1 a := (a + b) }"
	rejecting := "fuel 0 flip b 0:1 1:1 observe b flip a 1:1 2:2"
	always := "proc f { a := (a + 1) flip b 0:1 1:2 call f } fuel "
	loop := "fuel 0 while (not b) max 3 { flip b 0:2 1:1 a := (a + 1) }"
	mixed := "fuel 0 repeat 2 { repeat 3 { flip a 2:1 } flip b 0:1 1:1 if b { flip a 1:1 3:2 } else { } }"
	for _, c := range []struct {
		text   string
		draws  []int
		wanted string
	}{
		{"fuel 0", nil, "finished 00 0 1"}, {"fuel 0", []int{5}, "finished 00 0 1"}, {"fuel 0 a := 7", nil, "finished 30 0 1"},
		{repeated, []int{1, 0, 1, 1}, "finished 31 4 1/16"}, {repeated, []int{1}, "finished 10 4 1/16"}, {repeated, []int{1, 1, 1, 1, 1}, "finished 01 4 1/16"},
		{rejecting, []int{0, 1}, "rejected 00 1 1/2"}, {rejecting, []int{1, 0}, "finished 11 2 1/6"}, {rejecting, []int{1, 1}, "finished 21 2 1/3"},
		{"fuel 0 a := 3 observe 0 a := 1", nil, "rejected 30 0 1"}, {"fuel 0 repeat 3 { a := (a + 1) observe (a < 2) }", nil, "rejected 20 0 1"},
		{"fuel 0 flip b 0:1 1:2 while b max 1 { a := (a + 1) } a := 0", []int{1}, "exhausted 11 1 2/3"}, {"fuel 0 while 1 max 0 { a := 1 }", nil, "exhausted 00 0 1"},
		{"fuel 0 flip b 0:1 1:2 while b max 1 { a := (a + 1) } a := 2", []int{0}, "finished 20 1 1/3"},
		{always + "0 call f", nil, "exhausted 00 0 1"}, {always + "1 call f", []int{1}, "exhausted 11 1 2/3"}, {always + "2 call f", []int{1}, "exhausted 20 2 2/9"},
		{always + "3 call f", []int{0, 0, 2}, "exhausted 31 3 2/27"},
		{loop, []int{2}, "finished 11 1 1/3"}, {loop, []int{1, 2}, "finished 21 2 2/9"}, {loop, []int{0, 1, 2}, "finished 31 3 4/27"}, {loop, []int{0, 1, 0, 2}, "exhausted 30 3 8/27"},
		{mixed, []int{0, 0, 0, 1, 0, 9, 9, 9, 1, 2}, "finished 31 10 1/18"}, {mixed, []int{1, 1, 1, 0, 1, 1, 1, 1, 1}, "finished 31 9 1/6"}, {mixed, []int{9, 9, 9}, "finished 20 8 1/4"},
	} {
		expectRun(t, c.text, twoVars(t, c.text), c.draws, c.wanted)
	}
}

// TestManySamples has executions with more samples than draws, up to the greatest number that a program can have.
func TestManySamples(t *testing.T) {
	before := func(count int) impl.Program {
		text := "fuel 0 " + nestOf(3, "flip a 1:1") + nestOf(2, " repeat 2 { flip a 2:3 }")
		return twoVars(t, text+strings.Repeat(" flip a 3:1", count-96)+" flip b 0:1 1:1")
	}
	last := make([]int, 100)
	last[99] = 1
	expectRun(t, "99 samples before", before(99), last, "finished 31 100 1/2")
	expectRun(t, "98 samples before", before(98), last, "finished 30 99 1/2")
	expectRun(t, "100 samples before", before(100), last, "finished 30 101 1/2")
	last[99], last[98] = 0, 1
	expectRun(t, "99 samples before", before(99), last, "finished 30 100 1/2")
	expectRun(t, "98 samples before", before(98), last, "finished 31 99 1/2")
	ones := slices.Repeat([]int{1}, 100)
	expectRun(t, "100 samples before", before(100), ones, "finished 30 101 1/2")
	power := func(exponent int) string { return strconv.Itoa(1 << (2 * exponent)) }
	expectRun(t, "4^23 samples", twoVars(t, "fuel 0 "+nestOf(23, "flip a 3:1")), ones, "finished 30 "+power(23)+" 1")
	expectRun(t, "one more sample", twoVars(t, "fuel 0 flip b 0:1 1:2 "+nestOf(22, "flip a 3:1")), ones, "finished 31 "+strconv.Itoa(1+1<<44)+" 2/3")
	expectRun(t, "a sample behind them", twoVars(t, "fuel 0 "+nestOf(22, "flip a 3:1")+" flip b 0:1 1:2"), ones, "finished 30 "+strconv.Itoa(1+1<<44)+" 1/3")
	procs := "proc f { " + nestOf(7, "call g") + " } proc g { " + nestOf(7, "call h") + " } proc h { " + nestOf(4, "flip a 1:1") + " } fuel 3 call f"
	expectRun(t, "samples in procedures", twoVars(t, procs), nil, "finished 10 "+power(18)+" 1")
	expectRun(t, "samples before an exhausted call", twoVars(t, strings.Replace(procs, "fuel 3", "fuel 2", 1)), nil, "exhausted 00 0 1")
	ends := twoVars(t, "fuel 0 "+nestOf(19, "flip a 1:1")+" flip b 0:1 1:1 observe b "+nestOf(1, "skip"))
	expectRun(t, "rejected behind them", ends, nil, "rejected 10 "+strconv.Itoa(1+1<<38)+" 1/2")
}
