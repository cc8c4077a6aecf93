package tests

import (
	"fmt"
	"math"
	"math/rand"
	"reflect"
	"slices"
	"strings"
	"testing"

	"loop.example/g00745/impl"
)

// wantTicks counts the sites of each function by what its statements are.
func wantTicks(p impl.Prog, fuel int) (int, bool) {
	if !wantGood(p) || fuel < 0 || fuel > 600 {
		return 0, false
	}
	most := 0
	for _, f := range p.Funcs {
		most = max(most, len(wantSites(f)))
	}
	ticks := 0
	for range fuel + 1 {
		ticks += 30 + most
	}
	if ticks > 60000 {
		return 0, false
	}
	return ticks, true
}

func checkTicks(t *testing.T, p impl.Prog, fuel int) {
	t.Helper()
	want, there := wantTicks(p, fuel)
	if n, ok := impl.TicksFor(p, fuel); n != want || ok != there {
		t.Fatalf("TicksFor(%v, %d): %d, %t; want %d, %t", p, fuel, n, ok, want, there)
	}
}

// toldBy is what is told of a machine that is stepped by the judge.
func toldBy(v impl.Vm) impl.Outcome {
	o := impl.Outcome{Code: v.Code, Trace: slices.Clone(v.Trace), Used: v.Used}
	if v.Code == 0 {
		o.Code = impl.OcFuel
	}
	if v.Code == impl.OcDone || v.Code == impl.OcPanic {
		o.Value = v.Value
	}
	return o
}

// wantLows has what is told after each tick, up to so many, or to where the machine ends. The assembler writes the code, the judge does the steps.
func wantLows(p impl.Prog, inputs []int, most, ticks int) []impl.Outcome {
	var x impl.Image
	for _, f := range p.Funcs {
		x.Codes = append(x.Codes, wantLower(f))
	}
	j := judgeOf(x)
	v := impl.Vm{Frames: []impl.Frame{frameAt(x, 0, 0)}, Made: 1}
	told := []impl.Outcome{toldBy(v)}
	for v.Code == 0 && len(told) <= ticks {
		v = j.step(inputs, most, v)
		told = append(told, toldBy(v))
	}
	return told
}

func expectLow(t *testing.T, p impl.Prog, inputs []int, most, ticks int, want impl.Outcome, there bool) {
	t.Helper()
	if o, ok := impl.RunLow(p, inputs, most, ticks); !alike(o, want) || ok != there {
		t.Fatalf("RunLow(%v, %v, %d, %d): %v, %t; want %v, %t", p, inputs[:min(len(inputs), 11)], most, ticks, o, ok, want, there)
	}
}

func expectBoth(t *testing.T, p impl.Prog, inputs []int, most, fuel int, first, second impl.Outcome, there bool) {
	t.Helper()
	a, b, ok := impl.RunBoth(p, inputs, most, fuel)
	if !alike(a, first) || !alike(b, second) || ok != there {
		t.Fatalf("RunBoth(%v, %v, %d, %d): %v, %v, %t; want %v, %v, %t", p, inputs[:min(len(inputs), 11)], most, fuel, a, b, ok, first, second, there)
	}
	if is, ok := impl.AgreeOn(p, inputs, most, fuel); is != there || ok != there {
		t.Fatalf("AgreeOn(%v, %v, %d, %d): %t, %t; want %t", p, inputs[:min(len(inputs), 11)], most, fuel, is, ok, there)
	}
}

// checkPrefix is the second half of promise 10: with fewer steps there is a beginning of what the program does.
func checkPrefix(t *testing.T, less, all impl.Outcome) {
	t.Helper()
	begins := len(less.Trace) <= len(all.Trace) && slices.Equal(less.Trace, all.Trace[:len(less.Trace)])
	if !begins || less.Used > all.Used || less.Code != impl.OcFuel || less.Value != 0 {
		t.Fatalf("fewer steps tell %v, all tell %v", less, all)
	}
}

// checkEnough is the first half of promise 10: with TicksFor ticks the machine does what the program does with that fuel.
func checkEnough(t *testing.T, p impl.Prog, inputs []int, most, fuel int) impl.Outcome {
	t.Helper()
	checkTicks(t, p, fuel)
	ticks, _ := impl.TicksFor(p, fuel)
	low, ok := impl.RunLow(p, inputs, most, ticks)
	big, _ := wantBig(p, inputs, most, fuel, map[string]int{})
	if big.Code == impl.OcFuel {
		checkPrefix(t, big, low)
	} else if !alike(big, low) {
		t.Fatalf("%v, %v, %d: fuel %d tells %v, %d ticks tell %v, %t", p, inputs, most, fuel, big, ticks, low, ok)
	}
	return big
}

// checkWays goes through all ticks that the machine needs, and all the fuel that the program needs; both are asked to end. It tells how many ticks these are.
func checkWays(t *testing.T, p impl.Prog, inputs []int, most int) (impl.Outcome, int) {
	t.Helper()
	all, left := wantBig(p, inputs, most, 600, map[string]int{})
	lows := wantLows(p, inputs, most, 60000)
	need := len(lows) - 1
	if all.Code == impl.OcFuel || !alike(all, lows[need]) {
		t.Fatalf("%v: the program tells %v, the machine %v", p, all, lows[need])
	}
	for ticks, want := range lows {
		expectLow(t, p, inputs, most, ticks, want, true)
		if ticks < need {
			checkPrefix(t, want, all)
		}
	}
	for _, ticks := range numbers(need+1, need+2, 2*need, 59999, 60000) {
		expectLow(t, p, inputs, most, ticks, all, true)
	}
	for fuel := range 600 - left + 2 {
		big := checkEnough(t, p, inputs, most, min(fuel, 600))
		if (big.Code == impl.OcFuel) != (fuel < 600-left) {
			t.Fatalf("%v: fuel %d tells %v", p, fuel, big)
		}
		expectBoth(t, p, inputs, most, min(fuel, 600), big, all, true)
	}
	expectBoth(t, p, inputs, most, 600, all, all, true)
	return all, need
}

func TestTicksFor(t *testing.T) {
	none, one, four := "print 1; return 2", "defer 0", "defer 0; defer 0; defer 0; defer 0"
	for _, c := range []struct {
		name string
		p    impl.Prog
		each int
	}{
		{"no site", written(none), 30},
		{"nothing at all", written(""), 30},
		{"no site in five functions", written(none, none, "", none, none), 30},
		{"one site", written(one), 31},
		{"two sites", written("defer 0; defer 0"), 32},
		{"three sites", written("defer 0; print 1; defer 0; defer 0"), 33},
		{"four sites", written(four), 34},
		{"the greatest first", written(four, one, none), 34},
		{"the greatest in the middle", written(none, one, four, one, none), 34},
		{"the greatest last", written(none, one, one, "", four), 34},
		{"rising", written(none, one, "defer 0; defer 0"), 32},
		{"not added", written(one, one, one, one, one), 31},
		{"within others", written("if 1 { defer 0; if 0 { } else { defer 1 } } else { defer 1 }", one), 33},
		{"in what is never called", written(none, none, four), 34},
		{"behind what ends the Body", written("return 1; defer 0; defer 0"), 32},
	} {
		for fuel := range 601 {
			if n, ok := impl.TicksFor(c.p, fuel); n != (fuel+1)*c.each || !ok {
				t.Fatalf("%s: with %d of fuel %d, %t", c.name, fuel, n, ok)
			}
		}
		for _, fuel := range append(someInts(), -1, 0, 1, 599, 600, 601, 1763, 1764, 1999, 2000, 60000) {
			checkTicks(t, c.p, fuel)
		}
	}
	// What is greatest is far from MaxTicks.
	if n, ok := impl.TicksFor(written(four), 600); n != 20434 || !ok || n > impl.MaxTicks {
		t.Errorf("the greatest: %d, %t", n, ok)
	}
}

func TestTicksOfProgramsThatAreNotGood(t *testing.T) {
	for _, p := range notGood() {
		for _, fuel := range append(someInts(), 600, 601) {
			if n, ok := impl.TicksFor(p, fuel); n != 0 || ok {
				t.Fatalf("TicksFor(%v, %d): %d, %t", p, fuel, n, ok)
			}
		}
	}
}

// TestWaysOfEachEnd has for each program what both ways tell in the end, and after how many ticks the machine does.
func TestWaysOfEachEnd(t *testing.T) {
	for _, c := range []struct {
		name   string
		p      impl.Prog
		inputs []int
		most   int
		text   string
		used   int
		ticks  int
	}{
		{"nothing", written(""), nil, 1, "done 0:", 0, 2},
		{"a result", written("return 7"), nil, 1, "done 7:", 0, 4},
		{"a number is told", written("print 1"), nil, 1, "done 0: 1", 0, 4},
		{"a call", written("return 5 f1 2 *", "1 1: print v0; return 4"), nil, 2, "done 8: 5", 0, 0},
		{"inputs", written("print in; print in; print in"), numbers(5, -6), 12, "done 0: 5 -6 0", 2, 8},
		{"inputs that are left", written("return in"), numbers(5, 6), 12, "done 5:", 1, 4},
		{"the most inputs", written("0 1: set 0 11; while v0 { print in; set 0 v0 1 - }"), upTo(10), 12, "done 0: 0 1 2 3 4 5 6 7 8 9 0", 10, 0},
		{"a panic", written("print 1; panic 3"), nil, 1, "panic 3: 1", 0, 5},
		{"a panic by 0", written("print 1; print 4 0 /"), nil, 1, "panic -1: 1", 0, 6},
		{"a panic of another call", written("print f1", "print 2; panic 3"), nil, 2, "panic 3: 2", 0, 7},
		{"a panic that is recovered", written("defer 1; print 1; panic 3", "print rec"), nil, 2, "done 0: 1 3", 0, 11},
		{"a panic instead of another", written("defer 1; panic 3", "panic 9"), nil, 2, "panic 9:", 0, 8},
		{"a panic instead of an exit", written("defer 1; exit", "panic 9"), nil, 2, "panic 9:", 0, 7},
		{"an exit instead of a panic", written("defer 1; panic 1", "exit"), nil, 2, "exit 0:", 0, 7},
		{"an exit", written("print 8; exit; print 9"), nil, 1, "exit 0: 8", 0, 4},
		{"an exit of another call", written("do f1; print 1", "exit"), nil, 2, "exit 0:", 0, 4},
		{"an exit that stays", written("defer 1; defer 2; exit", "print rec", "panic 6"), nil, 2, "exit 0: 6", 0, 13},
		{"what is put off, in its order", written("defer 1; defer 2; defer 1; return 4", "print 1", "print 2"), nil, 2, "done 4: 1 2 1", 0, 22},
		{"too deep at once", written("do f0"), nil, 1, "deep 0:", 0, 1},
		{"too deep, at last", written("print 7; do f0"), nil, 12, "deep 0: 7 7 7 7 7 7 7 7 7 7 7 7", 0, 36},
		{"too deep, by what is put off", written("defer 1; print 1; return 3", ""), nil, 1, "deep 0: 1", 0, 7},
		{"too deep, while there is a panic", written("defer 1; print in; panic 3", "print rec"), numbers(6), 1, "deep 0: 6", 1, 6},
		{"just not too deep", written("print f1", "return f2", "return 3"), nil, 3, "done 0: 3", 0, 0},
	} {
		all, ticks := checkWays(t, c.p, c.inputs, c.most)
		if s := wantText(all); s != c.text || all.Used != c.used || c.ticks > 0 && ticks != c.ticks {
			t.Errorf("%s: %q, used %d, %d ticks; want %q, used %d, %d ticks", c.name, s, all.Used, ticks, c.text, c.used, c.ticks)
		}
		last, ok := impl.RunLow(c.p, c.inputs, c.most, ticks-1)
		if last.Code != impl.OcFuel || last.Value != 0 || !ok {
			t.Errorf("%s, with one tick fewer: %v, %t", c.name, last, ok)
		}
		for _, most := range upTo(13)[1:] {
			checkWays(t, c.p, c.inputs, most)
		}
	}
}

// TestWaysWithoutAnEnd has programs that neither way ends by itself, with any fuel and ticks.
func TestWaysWithoutAnEnd(t *testing.T) {
	for _, c := range []struct {
		name string
		p    impl.Prog
		// told is what is told in the first 60000 ticks.
		told int
	}{
		{"nothing told", written("while 1 { }"), 0},
		{"a number again and again", written("while 1 { print 7 }"), 12000},
		{"many numbers", written("while 1 { " + strings.Repeat("print 7; ", 15) + "}"), 60000/33*15 + 2},
		{"a number at first", written("0 1: print 7; while 2 { set 0 v0 1 + }"), 1},
		{"calls", written("while 1 { do f1 }", "print 7"), 60000/9 + 1},
	} {
		all := impl.Outcome{Code: impl.OcFuel, Trace: slices.Repeat(numbers(7), c.told)}
		expectLow(t, c.p, nil, 2, 60000, all, true)
		for fuel := range 601 {
			big := checkEnough(t, c.p, nil, 2, fuel)
			if big.Code != impl.OcFuel {
				t.Fatalf("%s: %v", c.name, big)
			}
			if fuel < 12 || fuel%97 == 0 || fuel > 598 {
				expectBoth(t, c.p, nil, 2, fuel, big, all, true)
			}
		}
		for ticks, want := range wantLows(c.p, nil, 2, 700) {
			expectLow(t, c.p, nil, 2, ticks, want, true)
			checkPrefix(t, want, all)
		}
	}
}

// lasts takes that many ticks, 60000 or a few more: two ahead of the loop, seven in each of its rounds, two to leave it, two at the end, and else two for each print of a number, and three for an StIf.
func lasts(ticks int) impl.Prog {
	rest := ticks - 7*8568 - 6
	behind := ""
	if rest%2 == 1 {
		behind = "if 1 { }; "
		rest -= 3
	}
	for n := range rest / 2 {
		behind += fmt.Sprintf("print %d; ", n+1)
	}
	return written("0 1: set 0 8568; while v0 { set 0 v0 1 - }; " + behind)
}

func TestEndsAroundMaxTicks(t *testing.T) {
	for ticks := 59998; ticks <= 60004; ticks++ {
		p := lasts(ticks)
		prints := upTo((ticks-7*8568-6-ticks%2*3)/2 + 1)[1:]
		end := impl.Outcome{Code: impl.OcDone, Trace: prints}
		if ticks > 60000 {
			// What is not reached are the two last instructions, and those of prints ahead of them.
			late := (ticks - 60000 - 1) / 2
			end = impl.Outcome{Code: impl.OcFuel, Trace: prints[:len(prints)-late]}
		}
		expectLow(t, p, nil, 1, 60000, end, true)
		if ticks <= 60000 {
			fewer, ok := impl.RunLow(p, nil, 1, ticks-1)
			if fewer.Code != impl.OcFuel || !slices.Equal(fewer.Trace, prints) || !ok {
				t.Errorf("%d ticks, with one fewer: %v, %t", ticks, fewer, ok)
			}
		}
		for _, fuel := range numbers(0, 1, 2, 3, 599, 600) {
			expectBoth(t, p, nil, 1, fuel, impl.Outcome{Code: impl.OcFuel}, end, true)
		}
		if k, ok := impl.FirstApart(impl.Outcome{Code: impl.OcFuel}, end); k != 0 || !ok {
			t.Errorf("FirstApart: %d, %t", k, ok)
		}
	}
}

// TestMostFuelOfBoth has programs that need just as much fuel as there may be, and more.
func TestMostFuelOfBoth(t *testing.T) {
	for fuel := 597; fuel <= 603; fuel++ {
		p := spends(fuel)
		low, _ := impl.RunLow(p, nil, 1, 60000)
		if low.Code != impl.OcDone {
			t.Fatalf("%d of fuel: %v", fuel, low)
		}
		for _, given := range numbers(0, fuel/2, fuel-1, fuel, 599, 600) {
			big := impl.Outcome{Code: impl.OcFuel}
			if given >= fuel {
				big = low
			}
			if given > 600 {
				expectBoth(t, p, nil, 1, given, impl.Outcome{}, impl.Outcome{}, false)
				continue
			}
			expectBoth(t, p, nil, 1, given, big, low, true)
		}
	}
	checkWays(t, spends(600), nil, 1)
}

// TestWaysThatAreNotAsSaid changes one argument at a time, or two.
func TestWaysThatAreNotAsSaid(t *testing.T) {
	p := written("print in; return 2")
	expect := func(p impl.Prog, inputs []int, most, fuel, ticks int) {
		t.Helper()
		var first, second, low impl.Outcome
		fits := wantGood(p) && inputsFit(inputs, most)
		runs := fits && ticks >= 0 && ticks <= 60000
		both := fits && fuel >= 0 && fuel <= 600
		if fits {
			all := wantLows(p, inputs, most, 60000)
			if runs {
				low = all[min(ticks, len(all)-1)]
			}
			if both {
				first, _ = wantBig(p, inputs, most, fuel, map[string]int{})
				second = all[len(all)-1]
			}
		}
		expectLow(t, p, inputs, most, ticks, low, runs)
		expectBoth(t, p, inputs, most, fuel, first, second, both)
	}
	for _, n := range append(someInts(), 5, 599, 600, 601, 59998, 59999, 60000, 60001) {
		expect(p, nil, 12, n, 60000)
		expect(p, nil, 12, 600, n)
		expect(p, numbers(1), 1, n, n)
	}
	for _, most := range append(someInts(), 8, 9, 10, 11, 13) {
		for _, n := range numbers(-1, 0, 1, 600) {
			expect(p, nil, most, n, n)
			expect(p, numbers(greatest), most, n, 100*n)
		}
	}
	for many := range 13 {
		for _, n := range numbers(0, 1, 600) {
			expect(p, upTo(many), 12, n, n)
		}
	}
	expect(p, make([]int, 1000000), 12, 600, 600)
	for _, n := range someInts() {
		expect(p, numbers(n), 12, 600, 600)
		// Only the last one is odd, which is not even taken.
		expect(p, append(upTo(9), n), 12, 600, 600)
		expect(p, append(upTo(9), n), 12, 0, 0)
	}
	for _, p := range notGood() {
		for _, n := range numbers(-1, 0, 1, 600, 60000) {
			expect(p, nil, 12, n, n)
			expect(p, numbers(1, 2), 1, n, n)
		}
	}
}

// TestJustOneWayTells has a fuel that only RunBig minds, and ticks that only RunLow does.
func TestJustOneWayTells(t *testing.T) {
	p := written("print 1; return 2")
	low, there := impl.RunLow(p, nil, 1, 60000)
	if !there || !alike(low, impl.Outcome{Code: impl.OcDone, Value: 2, Trace: numbers(1)}) {
		t.Fatalf("%v, %t", low, there)
	}
	for _, fuel := range numbers(-1, 601, math.MaxInt, math.MinInt) {
		a, b, ok := impl.RunBoth(p, nil, 1, fuel)
		is, told := impl.AgreeOn(p, nil, 1, fuel)
		if ok || is || told || !reflect.DeepEqual(a, impl.Outcome{}) || !reflect.DeepEqual(b, impl.Outcome{}) {
			t.Errorf("fuel %d: %v, %v, %t; %t, %t", fuel, a, b, ok, is, told)
		}
	}
	big, there := impl.RunBig(p, nil, 1, 600)
	for _, ticks := range numbers(-1, 60001, math.MaxInt, math.MinInt) {
		if o, ok := impl.RunLow(p, nil, 1, ticks); !there || ok || !reflect.DeepEqual(o, impl.Outcome{}) {
			t.Errorf("%d ticks: %v, %t; RunBig tells %v", ticks, o, ok, big)
		}
	}
	// There is no good program of which LowerProg tells nothing: the longest ones are within MaxIns.
	for kind := range 10 {
		p := longest(kind)
		if _, ok := impl.LowerProg(p); ok != wantGood(p) {
			t.Errorf("kind %d: %t", kind, ok)
		}
		if _, ok := impl.RunLow(p, nil, 12, 60000); ok != wantGood(p) {
			t.Errorf("kind %d: %t", kind, ok)
		}
	}
}

// wantApart looks at each place whether it is told apart there, and at none ahead.
func wantApart(a, b []int) (int, bool) {
	at := func(l []int, k int) string {
		if k < len(l) {
			return fmt.Sprint(l[k])
		}
		return "ended"
	}
	for k := range max(len(a), len(b)) {
		if at(a, k) != at(b, k) {
			return k, true
		}
	}
	return 0, false
}

func expectApart(t *testing.T, a, b impl.Outcome, want int, apart bool) {
	t.Helper()
	for _, pair := range [][2]impl.Outcome{{a, b}, {b, a}} {
		if k, ok := impl.FirstApart(pair[0], pair[1]); k != want || ok != apart {
			t.Fatalf("FirstApart(%v, %v): %d, %t; want %d, %t", pair[0], pair[1], k, ok, want, apart)
		}
	}
}

func TestFirstApart(t *testing.T) {
	for _, c := range []struct {
		name  string
		a, b  []int
		want  int
		apart bool
	}{
		{"both empty", nil, numbers(), 0, false},
		{"the same", numbers(4, 5, 6), numbers(4, 5, 6), 0, false},
		{"one ends at first", nil, numbers(4, 5, 6), 0, true},
		{"one ends later", numbers(4), numbers(4, 5, 6), 1, true},
		{"one ends ahead of the last", numbers(4, 5), numbers(4, 5, 6), 2, true},
		{"one ends ahead of a 0", numbers(4, 5), numbers(4, 5, 0), 2, true},
		{"unlike at first", numbers(4, 5, 6), numbers(3, 5, 6), 0, true},
		{"unlike in the middle", numbers(4, 5, 6), numbers(4, -5, 6), 1, true},
		{"unlike at the last", numbers(4, 5, 6), numbers(4, 5, 7), 2, true},
		{"unlike at more than one", numbers(4, 5, 6, 7), numbers(4, 0, 6, 0), 1, true},
		{"unlike ahead of where one ends", numbers(4, 5), numbers(4, 6, 6, 6), 1, true},
		{"unlike at the only one", numbers(4), numbers(5), 0, true},
		{"as in the other one, but later", numbers(4, 4, 5), numbers(4, 5, 4), 1, true},
		{"beyond the bounds", numbers(1, math.MaxInt), numbers(1, math.MinInt), 1, true},
		{"long", upTo(20000), upTo(20001), 20000, true},
		{"long, and the same", upTo(20000), upTo(20000), 0, false},
		{"long, and unlike at the last", append(upTo(20000), 1), append(upTo(20000), 2), 20000, true},
	} {
		t.Run(c.name, func(t *testing.T) {
			expectApart(t, impl.Outcome{Trace: c.a}, impl.Outcome{Trace: c.b}, c.want, c.apart)
			// Nothing but the Traces says at which place.
			for _, n := range someInts() {
				a := impl.Outcome{Code: n, Value: 3, Trace: c.a, Used: -n}
				for _, b := range []impl.Outcome{a, {Code: n + 1, Value: 3, Used: -n}, {Code: n, Value: 4, Used: -n}, {Code: n, Value: 3, Used: 1 - n}, {}} {
					b.Trace = c.b
					expectApart(t, a, b, c.want, c.apart)
				}
			}
		})
	}
}

func TestFirstApartOfAllShortTraces(t *testing.T) {
	traces := [][]int{nil}
	for first := 0; len(traces[first]) < 5; first++ {
		for n := range 2 {
			traces = append(traces, append(slices.Clone(traces[first]), n))
		}
	}
	for _, a := range traces {
		for _, b := range traces {
			want, apart := wantApart(a, b)
			expectApart(t, impl.Outcome{Code: 1, Trace: a}, impl.Outcome{Code: 1, Trace: b}, want, apart)
			same := impl.SameOutcome(impl.Outcome{Trace: a}, impl.Outcome{Trace: b})
			begins := impl.TraceBegins(impl.Outcome{Trace: a}, impl.Outcome{Trace: b})
			if same == apart || begins != (!apart || want == len(a)) {
				t.Fatalf("%v, %v: the same %t, begins %t, apart at %d, %t", a, b, same, begins, want, apart)
			}
		}
	}
}

func TestFirstApartOfRandomTraces(t *testing.T) {
	r := rand.New(rand.NewSource(101))
	apart := 0
	for range 20000 {
		a := impl.Outcome{Code: r.Intn(7), Value: randomNumber(r), Used: r.Intn(11)}
		for range r.Intn(30) {
			a.Trace = append(a.Trace, randomNumber(r))
		}
		b := impl.Outcome{Code: a.Code, Value: a.Value, Trace: slices.Clone(a.Trace), Used: a.Used}
		if len(b.Trace) > 0 && r.Intn(2) == 0 {
			b.Trace[r.Intn(len(b.Trace))] = randomNumber(r)
		}
		if r.Intn(3) == 0 {
			b.Trace = b.Trace[:r.Intn(len(b.Trace)+1)]
		}
		if r.Intn(5) == 0 {
			b.Value++
		}
		want, is := wantApart(a.Trace, b.Trace)
		expectApart(t, a, b, want, is)
		if is {
			apart++
		}
	}
	if apart < 5000 || apart > 15000 {
		t.Errorf("%d of 20000 are apart", apart)
	}
}

// TestRandomWays is promise 10, of programs that come far.
func TestRandomWays(t *testing.T) {
	r := rand.New(rand.NewSource(102))
	codes := map[int]int{}
	for round := range 1500 {
		p := livelyProg(r)
		if round%5 == 0 {
			p = randomProg(r)
		}
		inputs, most := randomInputs(r), min(12, 1+r.Intn(20))
		all, left := wantBig(p, inputs, most, 600, map[string]int{})
		codes[all.Code]++
		fuels := []int{0, 1, 2, r.Intn(601), r.Intn(601), 599 - left, 600 - left, 601 - left, 599, 600}
		for _, fuel := range fuels {
			if fuel >= 0 && fuel <= 600 {
				checkEnough(t, p, inputs, most, fuel)
			}
		}
		lows := wantLows(p, inputs, most, 400)
		for k, want := range lows {
			if ended := want.Code != impl.OcFuel; ended && !alike(want, all) {
				t.Fatalf("%v, %v, %d: the program tells %v, the machine %v", p, inputs, most, all, want)
			}
			if k < 5 || k%11 == 0 || k > len(lows)-3 {
				expectLow(t, p, inputs, most, k, want, true)
			}
		}
		low, _ := impl.RunLow(p, inputs, most, 60000)
		for _, fuel := range numbers(0, r.Intn(601), 600) {
			big, _ := wantBig(p, inputs, most, fuel, map[string]int{})
			expectBoth(t, p, inputs, most, fuel, big, low, true)
		}
	}
	for code := 1; code <= 5; code++ {
		if codes[code] < 40 {
			t.Errorf("outcomes by code: %v", codes)
		}
	}
}

// TestAllWaysOfRandomPrograms takes every tick and every fuel of programs that end soon.
func TestAllWaysOfRandomPrograms(t *testing.T) {
	r := rand.New(rand.NewSource(103))
	codes := map[int]int{}
	for range 900 {
		p, inputs, most := livelyProg(r), randomInputs(r), min(12, 1+r.Intn(20))
		if all, left := wantBig(p, inputs, most, 60, map[string]int{}); all.Code != impl.OcFuel && left > 0 {
			all, _ := checkWays(t, p, inputs, most)
			codes[all.Code]++
		}
	}
	for code := 1; code <= 4; code++ {
		if codes[code] < 30 {
			t.Errorf("outcomes by code: %v", codes)
		}
	}
}

// TestSpoiledWays has arguments of which some are not as said.
func TestSpoiledWays(t *testing.T) {
	r := rand.New(rand.NewSource(104))
	good, bad := 0, 0
	for range 6000 {
		p := livelyProg(r)
		if r.Intn(3) > 0 {
			spoil(r, &p)
		}
		inputs := randomInputs(r)
		if r.Intn(5) == 0 {
			inputs = append(inputs, someInts()[r.Intn(len(someInts()))])
		}
		most, fuel, ticks := r.Intn(15)-1, r.Intn(640)-20, r.Intn(100)-5
		checkTicks(t, p, fuel)
		if !wantGood(p) || !inputsFit(inputs, most) {
			bad++
			expectLow(t, p, inputs, most, ticks, impl.Outcome{}, false)
			expectBoth(t, p, inputs, most, fuel, impl.Outcome{}, impl.Outcome{}, false)
			continue
		}
		good++
		var low, big, last impl.Outcome
		if ticks >= 0 {
			lows := wantLows(p, inputs, most, ticks)
			low = lows[len(lows)-1]
		}
		expectLow(t, p, inputs, most, ticks, low, ticks >= 0)
		fits := fuel >= 0 && fuel <= 600
		if fits {
			big, _ = wantBig(p, inputs, most, fuel, map[string]int{})
			last, _ = impl.RunLow(p, inputs, most, 60000)
		}
		expectBoth(t, p, inputs, most, fuel, big, last, fits)
	}
	if good < 500 || bad < 2000 {
		t.Errorf("%d good, %d bad", good, bad)
	}
}

// TestWaysOfAnyArguments has programs that a walk without care would not leave.
func TestWaysOfAnyArguments(t *testing.T) {
	far := slices.Repeat(numbers(0), 1000000)
	knot := slices.Repeat([]impl.Stmt{when(upTo(16), upTo(16))}, 16)
	for _, f := range []impl.Func{
		function(upTo(16), knot...), function(far, knot...), function(far, exit()), function(upTo(1000000), exit()), function(far), function(numbers(0), when(far, far)),
		function(numbers(0), while(0)), function(numbers(5), exit()), function(numbers(-1), exit()), function(numbers(math.MaxInt), exit()), flat(does(impl.StDo, ones(1000000)...)),
		function(upTo(100000), make([]impl.Stmt, 100000)...), function(nil, make([]impl.Stmt, 3)...), flat(putOff(math.MinInt)), flat(putOff(math.MaxInt)),
	} {
		for _, p := range []impl.Prog{program(f), program(flat(putOff(0)), f)} {
			low, told := impl.RunLow(p, nil, 12, 60000)
			a, b, both := impl.RunBoth(p, nil, 12, 600)
			is, agrees := impl.AgreeOn(p, nil, 12, 600)
			n, ok := impl.TicksFor(p, 600)
			if told || both || is || agrees || n != 0 || ok || !alike(low, impl.Outcome{}) || !alike(a, impl.Outcome{}) || !alike(b, impl.Outcome{}) {
				t.Error("a program that is not good has an answer")
			}
		}
	}
}

func TestWaysLeaveTheirArguments(t *testing.T) {
	r := rand.New(rand.NewSource(105))
	for range 300 {
		p := livelyProg(r)
		if r.Intn(4) == 0 {
			spoil(r, &p)
		}
		p = withSpare(p)
		inputs := spare(randomInputs(r), 77, greatest+1)
		was, wasInputs := wholeOf(p), slices.Clone(inputs[:cap(inputs)])
		most, fuel := 1+r.Intn(12), r.Intn(601)
		a, b, _ := impl.RunBoth(p, inputs, most, fuel)
		_, told := impl.AgreeOn(p, inputs, most, fuel)
		low, there := impl.RunLow(p, inputs, most, 60000)
		_, ticks := impl.TicksFor(p, fuel)
		if good := wantGood(p); told != good || there != good || ticks != good || !alike(low, b) {
			t.Fatalf("%v: %v, %v, %v", p, a, b, low)
		}
		if now := wholeOf(p); !reflect.DeepEqual(now, was) || !slices.Equal(inputs[:cap(inputs)], wasInputs) {
			t.Fatalf("changed: %v, %v, was %v, %v", now, inputs[:cap(inputs)], was, wasInputs)
		}
	}
	for _, long := range numbers(0, 1, 5, 600, 20000) {
		a := impl.Outcome{Code: 1, Trace: spare(upTo(long), 7, math.MaxInt)}
		b := impl.Outcome{Code: 1, Trace: spare(upTo(long), 8, math.MinInt)}
		wasA, wasB := slices.Clone(a.Trace[:cap(a.Trace)]), slices.Clone(b.Trace[:cap(b.Trace)])
		expectApart(t, a, b, 0, false)
		b.Trace = b.Trace[:len(b.Trace)+1]
		expectApart(t, a, b, long, true)
		if !slices.Equal(a.Trace[:cap(a.Trace)], wasA) || !slices.Equal(b.Trace[:cap(b.Trace)], wasB) {
			t.Errorf("changed, of %d numbers", long)
		}
	}
}

func TestOutcomesOfWaysAreNewMemory(t *testing.T) {
	p := withSpare(written("0 1: defer 1; set 0 in; print v0; print in; print in; panic 3", "print rec; print in"))
	inputs := spare(numbers(1, 2, 3, 4), 5, 6)
	was, told := wholeOf(p), numbers(1, 2, 3, 3, 4)
	for _, fuel := range numbers(600, 8) {
		first, _ := impl.RunBig(p, inputs, 12, fuel)
		a, b, _ := impl.RunBoth(p, inputs, 12, fuel)
		low, _ := impl.RunLow(p, inputs, 12, 60000)
		if !slices.Equal(b.Trace, told) || !slices.Equal(low.Trace, told) || !slices.Equal(a.Trace, first.Trace) || b.Used != 4 {
			t.Fatalf("%v, %v, %v", a, b, low)
		}
		scribble(a.Trace)
		if !slices.Equal(b.Trace, told) {
			t.Errorf("two lists of one answer share memory: %v", b.Trace)
		}
		scribble(b.Trace)
		if !slices.Equal(low.Trace, told) {
			t.Errorf("two answers share memory: %v", low.Trace)
		}
		scribble(low.Trace)
		if again, _ := impl.RunLow(p, inputs, 12, 60000); !slices.Equal(again.Trace, told) {
			t.Errorf("two answers share memory: %v", again.Trace)
		}
		if !slices.Equal(inputs[:cap(inputs)][:6], numbers(1, 2, 3, 4, 5, 6)) || !reflect.DeepEqual(wholeOf(p), was) {
			t.Errorf("an answer shares memory with an argument: %v, %v", inputs[:cap(inputs)], p)
		}
	}
}
