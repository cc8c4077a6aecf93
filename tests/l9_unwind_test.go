package tests

import (
	"fmt"
	"math"
	"math/rand"
	"reflect"
	"slices"
	"testing"

	"loop.example/g00745/impl"
)

func wantWaiting(v impl.Vm, frame int) ([]int, bool) {
	if len(v.Frames) > 40 || frame < 0 || frame > len(v.Frames)-1 {
		return nil, false
	}
	var l []int
	for site, set := range v.Frames[frame].Flags {
		if set {
			l = append([]int{site}, l...)
		}
	}
	return l, true
}

// recoversIn tells whether an instruction of a code is an InRecover, wherever it stands.
func (j judge) recoversIn(fn int) bool {
	return anyIns(j.x.Codes[fn], func(_ int, i impl.Ins) bool { return isOneOf(i, "recover") })
}

// mayStop lists all codes that may recover what comes to the frame, and then looks into them.
func (j judge) mayStop(v impl.Vm, frame int) bool {
	f := v.Frames[frame]
	var codes []int
	for site, fn := range j.x.Codes[f.Fn].Sites {
		if f.Flags[site] {
			codes = append(codes, fn)
		}
	}
	if frame+1 < len(v.Frames) && v.Frames[frame+1].Off {
		codes = append(codes, v.Frames[frame+1].Fn)
	}
	return slices.ContainsFunc(codes, j.recoversIn)
}

// search goes through all frames from the first one on.
func (j judge) search(v impl.Vm) (int, bool) {
	last, found := 0, false
	for k := range v.Frames {
		if j.mayStop(v, k) {
			last, found = k, true
		}
	}
	return last, found
}

func (j judge) padsUp(v impl.Vm) ([][]int, bool) {
	l := make([][]int, len(v.Frames))
	for k, f := range v.Frames {
		pad := j.pads[f.Fn][f.At]
		if pad < 0 {
			return nil, false
		}
		l[len(l)-1-k] = numbers(k, pad)
	}
	return l, true
}

func (j judge) isRaising(v impl.Vm) bool {
	if v.Code != 0 {
		return false
	}
	f := v.Frames[len(v.Frames)-1]
	i := j.x.Codes[f.Fn].Ins[f.At]
	if isOneOf(i, "reckon") {
		_, told := wantReckon(i.N, f.Pile[len(f.Pile)-2], f.Pile[len(f.Pile)-1])
		return !told
	}
	return isOneOf(i, "panic")
}

func framesToAsk(v impl.Vm) []int {
	l := append(someInts(), len(v.Frames)-1, len(v.Frames), len(v.Frames)+1)
	return append(l, upTo(min(len(v.Frames), 60))...)
}

func checkWaiting(t *testing.T, v impl.Vm) {
	t.Helper()
	for _, k := range framesToAsk(v) {
		want, there := wantWaiting(v, k)
		if l, ok := impl.WaitingIn(v, k); !slices.Equal(l, want) || ok != there {
			t.Fatalf("WaitingIn(%+v, %d) = %v, %t, want %v, %t", v, k, l, ok, want, there)
		}
	}
}

// checkUnwind asks of a machine, good or not, all that the chapter tells of one.
func checkUnwind(t *testing.T, j judge, v impl.Vm) bool {
	t.Helper()
	was, good := cloneVm(v), j.goodVm(v)
	checkWaiting(t, v)
	for _, k := range framesToAsk(v) {
		there := good && k >= 0 && k < len(v.Frames)
		want := there && j.mayStop(v, k)
		if may, ok := impl.MayStop(j.x, v, k); may != want || ok != there {
			t.Fatalf("MayStop(%v, %+v, %d) = %t, %t, want %t, %t", j.x, v, k, may, ok, want, there)
		}
	}
	up, found, raising, padded := 0, false, false, false
	var pads [][]int
	if good {
		up, found = j.search(v)
		pads, padded = j.padsUp(v)
		raising = j.isRaising(v)
	}
	if k, ok := impl.SearchUp(j.x, v); k != up || ok != found {
		t.Fatalf("SearchUp(%v, %+v) = %d, %t, want %d, %t", j.x, v, k, ok, up, found)
	}
	if l, ok := impl.PadsUp(j.x, v); !slices.EqualFunc(l, pads, slices.Equal[[]int]) || ok != padded {
		t.Fatalf("PadsUp(%v, %+v) = %v, %t, want %v, %t", j.x, v, l, ok, pads, padded)
	}
	if is, ok := impl.IsRaising(j.x, v); is != raising || ok != good {
		t.Fatalf("IsRaising(%v, %+v) = %t, %t, want %t, %t", j.x, v, is, ok, raising, good)
	}
	if !alikeVm(v, was) {
		t.Fatalf("changed: %+v, was %+v", v, was)
	}
	return good
}

// expectRunTo asks for the answer where there is none, too.
func expectRunTo(t *testing.T, x impl.Image, inputs []int, most, ticks int, want impl.Vm, there bool) {
	t.Helper()
	if v, ok := impl.RunTo(x, inputs, most, ticks); !alikeVm(v, want) || ok != there {
		t.Fatalf("RunTo(%v, %v, %d, %d) =\n%+v, %t, want\n%+v, %t", x, inputs, most, ticks, v, ok, want, there)
	}
}

// checkRunTo goes step by step, up to so many ticks, and holds RunTo against the steps at each of these; it tells how many steps there were.
func checkRunTo(t *testing.T, j judge, inputs []int, most, ticks int) (impl.Vm, int) {
	t.Helper()
	v, ok := impl.NewVm(j.x)
	if !ok {
		t.Fatalf("not good: %v", j.x)
	}
	done := 0
	for done < ticks && v.Code == 0 && !j.isRaising(v) {
		expectRunTo(t, j.x, inputs, most, done, v, true)
		v = j.step(inputs, most, v)
		done++
	}
	for _, more := range numbers(done, done+1, done+2, ticks) {
		if v.Code != 0 || j.isRaising(v) || more == done {
			expectRunTo(t, j.x, inputs, most, max(more, done), v, true)
		}
	}
	if v.Code != 0 || j.isRaising(v) {
		expectRunTo(t, j.x, inputs, most, 60000, v, true)
	}
	return v, done
}

func TestWaitingIn(t *testing.T) {
	for _, c := range []struct {
		flags []bool
		want  []int
	}{
		{nil, nil}, {[]bool{}, nil}, {[]bool{false}, nil}, {[]bool{true}, numbers(0)}, {[]bool{false, false, false, false}, nil}, {[]bool{true, true, true, true}, numbers(3, 2, 1, 0)},
		{[]bool{true, false}, numbers(0)}, {[]bool{false, true}, numbers(1)}, {[]bool{true, false, true, false}, numbers(2, 0)}, {[]bool{false, true, false, true}, numbers(3, 1)},
		{[]bool{true, true, false, true, false, false, true, false}, numbers(6, 3, 1, 0)}, {append(make([]bool, 70000), true), numbers(70000)},
	} {
		for many := 1; many <= 3; many++ {
			for k := range many {
				v := impl.Vm{Frames: make([]impl.Frame, many)}
				for other := range many {
					v.Frames[other].Flags = []bool{true, true}
				}
				v.Frames[k].Flags = c.flags
				if l, ok := impl.WaitingIn(v, k); !slices.Equal(l, c.want) || !ok {
					t.Errorf("frame %d of %d: %v, %t, want %v", k, many, l, ok, c.want)
				}
				checkWaiting(t, v)
			}
		}
	}
}

// TestWaitingInOfManyFrames has each frame wait for another site.
func TestWaitingInOfManyFrames(t *testing.T) {
	for _, many := range numbers(0, 1, 2, 12, 13, 39, 40, 41, 42, 80, 20000) {
		v := impl.Vm{Frames: make([]impl.Frame, many)}
		for k := range v.Frames {
			v.Frames[k].Flags = make([]bool, 50)
			v.Frames[k].Flags[k%50] = true
		}
		for _, k := range append(someInts(), many-2, many-1, many, many+1, 38, 39, 40, 41) {
			there := many <= 40 && k >= 0 && k < many
			l, ok := impl.WaitingIn(v, k)
			if ok != there || there && !slices.Equal(l, numbers(k)) || !there && len(l) > 0 {
				t.Errorf("frame %d of %d: %v, %t", k, many, l, ok)
			}
		}
		checkWaiting(t, v)
	}
}

// TestWaitingInOfAnyMachine has one that is good for no image.
func TestWaitingInOfAnyMachine(t *testing.T) {
	f := impl.Frame{Id: math.MaxInt, Fn: -7, At: math.MinInt, Pile: make([]int, 99), Flags: []bool{false, true, true}, Mode: -1, Value: least - 1, Base: 9, Off: true}
	for _, code := range someInts() {
		v := impl.Vm{Frames: []impl.Frame{f, {}}, Trace: numbers(greatest + 1), Used: -1, Code: code, Value: code, Made: -1, Notes: oddNotes()}
		if l, ok := impl.WaitingIn(v, 0); !slices.Equal(l, numbers(2, 1)) || !ok {
			t.Errorf("%v, %t", l, ok)
		}
		if l, ok := impl.WaitingIn(v, 1); len(l) != 0 || !ok {
			t.Errorf("%v, %t", l, ok)
		}
		checkWaiting(t, v)
	}
}

// stoppers puts off one that recovers, one that does not, one with an InRecover that no way leads to, and one that does not, and calls one that recovers.
func stoppers() impl.Image {
	return image("call 3; drop; leave; off 3; off 2; off 1; off 0; end | 0 3 3, 3 4 4, 4 5 5, 5 6 6, 6 7 7 | 1 2 4 2",
		"recover; drop; end", "num 1; drop; end", "recover; result; leave; end | 0 3 3", "jump 3; recover; drop; end")
}

func expectStop(t *testing.T, name string, x impl.Image, v impl.Vm, frame int, want bool) {
	t.Helper()
	if may, ok := impl.MayStop(x, v, frame); may != want || !ok {
		t.Errorf("%s: %t, %t, want %t", name, may, ok, want)
	}
	checkUnwind(t, judgeOf(x), v)
}

// TestMayStop has all flags with each frame above.
func TestMayStop(t *testing.T) {
	x := stoppers()
	above := []struct {
		name   string
		at     int
		frames []impl.Frame
		stops  bool
	}{
		{"the last frame, ahead of a call", 0, nil, false}, {"the last frame, at the pad", 3, nil, false}, {"the last frame, at what puts off one that recovers", 6, nil, false}, {"the last frame, at its end", 7, nil, false},
		{"below one put off that recovers", 6, []impl.Frame{offAt(x, 1, 0)}, true}, {"below one put off that has recovered", 6, []impl.Frame{offAt(x, 1, 2)}, true},
		{"below one put off that does not", 5, []impl.Frame{offAt(x, 2, 0)}, false}, {"below one put off that does not, of another site", 3, []impl.Frame{offAt(x, 2, 2)}, false},
		{"below one put off with an InRecover beside its way", 4, []impl.Frame{offAt(x, 4, 0)}, true},
		{"below one called that recovers", 0, []impl.Frame{frameAt(x, 3, 0)}, false}, {"below one called that has recovered", 0, []impl.Frame{frameAt(x, 3, 1, 0)}, false},
	}
	for _, a := range above {
		for set := range 16 {
			f := frameAt(x, 0, a.at)
			for site := range f.Flags {
				f.Flags[site] = set>>site&1 == 1
			}
			waits := f.Flags[0] || f.Flags[2]
			for _, m := range modesAndBases() {
				v := inMode(machine(append([]impl.Frame{f}, a.frames...)...), m[0], m[1])
				v.Frames[0].Mode, v.Frames[0].Base = m[0], m[1]
				expectStop(t, fmt.Sprint(a.name, " with the flags ", f.Flags), x, v, 0, a.stops || waits)
			}
		}
	}
}

// TestMayStopLooksNoFurther has an InRecover where it is of no account: in the code itself, two frames above, in the one below, in a code without a set flag.
func TestMayStopLooksNoFurther(t *testing.T) {
	x := image("recover; drop; leave; off 2; off 1; off 0; end | 0 3 3, 3 4 4, 4 5 5, 5 6 6 | 1 2 0", "call 2; drop; leave; off 0; end | 0 3 3, 3 4 4 | 2", "num 1; result; call 1; drop; leave; end | 0 5 5")
	own := frameAt(x, 0, 0)
	expectStop(t, "its own code", x, machine(own), 0, false)
	itself := frameAt(x, 0, 0)
	itself.Flags[2] = true
	expectStop(t, "its own code, put off", x, machine(itself), 0, true)
	below := machine(frameAt(x, 0, 5), offAt(x, 1, 0), frameAt(x, 2, 0))
	for k := range 3 {
		expectStop(t, "above a code that recovers", x, below, k, false)
	}
	twice := machine(frameAt(x, 0, 3), offAt(x, 0, 3), offAt(x, 0, 5), offAt(x, 1, 0), frameAt(x, 2, 0))
	for k, want := range []bool{true, true, false, false, false} {
		expectStop(t, fmt.Sprint("two put off, frame ", k), x, twice, k, want)
	}
	y := image("leave; off 0; end | 0 1 1, 1 2 2 | 1", "leave; off 0; end | 0 1 1, 1 2 2 | 2", "recover; drop; end")
	two := machine(frameAt(y, 0, 1), offAt(y, 1, 1), offAt(y, 2, 0))
	expectStop(t, "two frames above", y, two, 0, false)
	expectStop(t, "one frame above", y, two, 1, true)
	expectStop(t, "none above", y, two, 2, false)
	waits := machine(frameAt(y, 0, 1), offAt(y, 1, 0))
	waits.Frames[1].Flags[0] = true
	expectStop(t, "what the frame above waits for", y, waits, 0, false)
	expectStop(t, "the frame that waits", y, waits, 1, true)
	// What could be put off later, at the pad itself, is no flag that is set.
	late := image("leave; put 0; off 0; end | 0 1 1, 1 3 3 | 1", "recover; drop; end")
	expectStop(t, "put off at the pad", late, machine(frameAt(late, 0, 0)), 0, false)
}

func TestMayStopOfFramesThatAreNotThere(t *testing.T) {
	x, high := tall()
	first, _ := impl.NewVm(x)
	deep := cloneVm(high)
	deep.Code = impl.OcDeep
	for _, v := range []impl.Vm{first, high, deep, {Code: impl.OcDone}, {Code: impl.OcDeep}} {
		for _, k := range framesToAsk(v) {
			if _, ok := impl.MayStop(x, v, k); ok != (k >= 0 && k < len(v.Frames)) {
				t.Errorf("frame %d of %d: %t", k, len(v.Frames), ok)
			}
		}
		checkUnwind(t, judgeOf(x), v)
	}
}

// chain has code 0, which calls itself, and puts off code 1, which recovers, and itself; code 1 puts off code 0.
func chain() impl.Image {
	return image("call 0; drop; leave; off 1; off 0; end | 0 3 3, 3 4 4, 4 5 5 | 1 0", "recover; drop; leave; off 0; end | 0 3 3, 3 4 4 | 0")
}

// chains are all machines of chain with so many frames, each frame with all flags that it may have.
func chains(many int) []impl.Vm {
	x := chain()
	var l []impl.Vm
	var add func(frames []impl.Frame, fn int, off bool)
	add = func(frames []impl.Frame, fn int, off bool) {
		for _, at := range [][]int{{0, 3, 4}, {3}}[fn] {
			for set := range 1 << len(x.Codes[fn].Sites) {
				f := frameAt(x, fn, at)
				f.Off = off
				for site := range f.Flags {
					f.Flags[site] = set>>site&1 == 1
				}
				more := append(slices.Clone(frames), f)
				switch {
				case len(more) == many:
					l = append(l, machine(more...))
				case fn == 0:
					add(more, map[int]int{0: 0, 3: 0, 4: 1}[at], at != 0)
				default:
					add(more, 0, true)
				}
			}
		}
	}
	add(nil, 0, false)
	return l
}

// TestSearchUpOfAllChains has, of up to three frames, all that may stop, and none, and each set of them.
func TestSearchUpOfAllChains(t *testing.T) {
	j := judgeOf(chain())
	seen := map[string]int{}
	for many := 1; many <= 3; many++ {
		for _, v := range chains(many) {
			if !checkUnwind(t, j, v) {
				t.Fatalf("not good: %+v", v)
			}
			which := fmt.Sprint(many, ":")
			for k := range many {
				if may, _ := impl.MayStop(j.x, v, k); may {
					which += fmt.Sprint(" ", k)
				}
			}
			seen[which]++
		}
	}
	for _, which := range []string{"1:", "1: 0", "2:", "2: 0", "2: 1", "2: 0 1", "3:", "3: 0", "3: 1", "3: 2", "3: 0 1", "3: 0 2", "3: 1 2", "3: 0 1 2"} {
		if seen[which] == 0 {
			t.Errorf("none of which just these stop: %s", which)
		}
	}
}

func expectSearch(t *testing.T, name string, x impl.Image, v impl.Vm, want int, found bool) {
	t.Helper()
	if k, ok := impl.SearchUp(x, v); k != want || ok != found {
		t.Errorf("%s: %d, %t, want %d, %t", name, k, ok, want, found)
	}
	checkUnwind(t, judgeOf(x), v)
}

func TestSearchUp(t *testing.T) {
	x := chain()
	at := func(place int, flags ...bool) impl.Frame {
		f := frameAt(x, 0, place)
		f.Flags = flags
		return f
	}
	off := func(place int, flags ...bool) impl.Frame {
		f := at(place, flags...)
		f.Off = true
		return f
	}
	none, rec, other, both := []bool{false, false}, []bool{true, false}, []bool{false, true}, []bool{true, true}
	expectSearch(t, "no frame", x, machine(at(0, none...), at(3, other...), off(0, none...)), 0, false)
	expectSearch(t, "one frame, none", x, machine(at(0, other...)), 0, false)
	expectSearch(t, "one frame", x, machine(at(0, rec...)), 0, true)
	expectSearch(t, "the first alone", x, machine(at(0, rec...), at(3, other...), off(0, none...)), 0, true)
	expectSearch(t, "the second alone", x, machine(at(0, none...), at(3, both...), off(0, none...)), 1, true)
	expectSearch(t, "the last alone", x, machine(at(0, none...), at(3, other...), off(0, rec...)), 2, true)
	expectSearch(t, "the first and the second", x, machine(at(0, rec...), at(3, rec...), off(0, none...)), 1, true)
	expectSearch(t, "the first and the last", x, machine(at(0, rec...), at(3, none...), off(0, both...)), 2, true)
	expectSearch(t, "all", x, machine(at(0, rec...), at(3, rec...), off(0, rec...)), 2, true)
	expectSearch(t, "the one below what recovers", x, machine(at(0, rec...), at(4, none...), offAt(x, 1, 0)), 1, true)
	expectSearch(t, "the first one below what recovers", x, machine(at(4, none...), offAt(x, 1, 3), off(0, none...)), 0, true)
	for code := impl.OcDone; code <= impl.OcDeep; code++ {
		expectSearch(t, fmt.Sprint("no frames, Code ", code), x, impl.Vm{Code: code}, 0, false)
	}
	deep := machine(at(0, rec...), at(0, none...))
	deep.Code = impl.OcDeep
	expectSearch(t, "too deep", x, deep, 0, true)
}

func expectPads(t *testing.T, name string, x impl.Image, v impl.Vm, want [][]int, there bool) {
	t.Helper()
	if l, ok := impl.PadsUp(x, v); !slices.EqualFunc(l, want, slices.Equal[[]int]) || ok != there {
		t.Errorf("%s: %v, %t, want %v, %t", name, l, ok, want, there)
	}
	checkUnwind(t, judgeOf(x), v)
}

func TestPadsUp(t *testing.T) {
	// The first row of code 0 ends ahead of place 4, and no row has the places 4, 5 and 8.
	x := image("call 1; drop; num 2; drop; num 3; drop; leave; off 0; end | 0 2 6, 2 4 4, 6 7 7, 7 8 8 | 1", "recover; result; call 0; drop; leave; end | 0 3 4, 4 5 5")
	for at, pad := range numbers(6, 6, 4, 4, -1, -1, 7, 8, -1) {
		var pile []int
		if slices.Contains(numbers(1, 3, 5), at) {
			pile = numbers(9)
		}
		var want [][]int
		if pad >= 0 {
			want = [][]int{{0, pad}}
		}
		expectPads(t, fmt.Sprint("one frame at ", at), x, machine(frameAt(x, 0, at, pile...)), want, pad >= 0)
		v := machine(frameAt(x, 0, 0), frameAt(x, 1, 2), frameAt(x, 0, at, pile...))
		if pad >= 0 {
			want = [][]int{{2, pad}, {1, 4}, {0, 6}}
		}
		expectPads(t, fmt.Sprint("three frames, the last at ", at), x, v, want, pad >= 0)
	}
	expectPads(t, "one put off", x, machine(frameAt(x, 0, 7), offAt(x, 1, 1, 0)), [][]int{{1, 4}, {0, 8}}, true)
	expectPads(t, "one put off, behind its rows", x, machine(frameAt(x, 0, 7), offAt(x, 1, 5)), nil, false)
	for code := impl.OcDone; code <= impl.OcDeep; code++ {
		expectPads(t, fmt.Sprint("no frames, Code ", code), x, impl.Vm{Code: code}, nil, true)
	}
	deep := machine(frameAt(x, 0, 0))
	deep.Code = impl.OcDeep
	expectPads(t, "too deep", x, deep, [][]int{{0, 6}}, true)
	one := image("num 1; drop; end")
	expectPads(t, "no rows", one, machine(frameAt(one, 0, 0)), nil, false)
}

// TestLooksAtManyFrames has good machines with more frames than WaitingIn takes: the limit is its own.
func TestLooksAtManyFrames(t *testing.T) {
	x := chain()
	j := judgeOf(x)
	for _, many := range numbers(12, 13, 39, 40, 41, 42, 100) {
		for _, stops := range numbers(-1, 0, 1, many/2, many-1) {
			v := machine(slices.Repeat([]impl.Frame{frameAt(x, 0, 0)}, many)...)
			v = cloneVm(v)
			if stops >= 0 {
				v.Frames[stops].Flags[0] = true
			}
			expectSearch(t, fmt.Sprint(many, " frames, ", stops, " stops"), x, v, max(stops, 0), stops >= 0)
			if l, ok := impl.PadsUp(x, v); !ok || len(l) != many || !slices.Equal(l[0], numbers(many-1, 3)) {
				t.Errorf("%d frames: %v, %t", many, l, ok)
			}
			if stops >= 0 {
				expectStop(t, fmt.Sprint(many, " frames, ", stops, " stops"), x, v, stops, true)
			}
		}
	}
	v := machine(slices.Repeat([]impl.Frame{frameAt(x, 0, 0)}, 20000)...)
	checkUnwind(t, j, v)
}

func expectRaising(t *testing.T, name string, x impl.Image, v impl.Vm, want bool) {
	t.Helper()
	if is, ok := impl.IsRaising(x, v); is != want || !ok {
		t.Errorf("%s: %t, %t, want %t", name, is, ok, want)
	}
	checkUnwind(t, judgeOf(x), v)
}

func TestIsRaisingByReckoning(t *testing.T) {
	for op := impl.ExAdd; op <= impl.ExSame; op++ {
		x := image(fmt.Sprintf("num 0; num 0; num 0; reckon %d; drop; drop; leave; end | 0 7 7", op))
		for _, upper := range numbers(0, 1, -1, 5, least, greatest) {
			for _, lower := range numbers(0, 1, -1, least, greatest) {
				v := machine(frameAt(x, 0, 3, 0, lower, upper))
				expectRaising(t, fmt.Sprintf("%d of %d and %d", op, lower, upper), x, v, op == impl.ExDiv && upper == 0)
			}
		}
	}
}

// TestIsRaisingByInstruction has each instruction with a pile of zeros.
func TestIsRaisingByInstruction(t *testing.T) {
	x := image(
		"0 1: num 0; num 0; var 0; set 0; reckon 3; input; recover; call 1; print; drop; drop; num 0; panic; num 0; unless 16; jump 16; num 0; result; put 0; exit; leave; off 0; num 0; num 0; reckon 6; drop; end | 0 13 13, 13 20 20, 20 21 21, 21 22 22, 22 25 26 | 1",
		"num 0; panic; end | 0 2 2")
	heights, ok := impl.HeightsOf(x, 0)
	if !ok || !impl.GoodImage(x) {
		t.Fatal("not good")
	}
	seen := map[string]bool{}
	for at, i := range x.Codes[0].Ins {
		if heights[at] < 0 {
			continue
		}
		word := insWords[i.Op].word
		seen[word] = true
		v := machine(frameAt(x, 0, at, make([]int, heights[at])...))
		for _, m := range modesAndBases() {
			expectRaising(t, fmt.Sprintf("%s at %d", word, at), x, inMode(v, m[0], m[1]), word == "panic" || word == "reckon" && i.N == impl.ExDiv)
		}
		v.Code = impl.OcDeep
		expectRaising(t, fmt.Sprintf("%s at %d, too deep", word, at), x, v, false)
	}
	if len(seen) != 18 {
		t.Errorf("instructions: %v", seen)
	}
	// The last frame alone counts.
	expectRaising(t, "ahead of what raises", x, machine(frameAt(x, 0, 7, 0, 0, 0), frameAt(x, 1, 0)), false)
	expectRaising(t, "above a call", x, machine(frameAt(x, 0, 7, 0, 0, 0), frameAt(x, 1, 1, 5)), true)
	expectRaising(t, "above what was put off", x, machine(frameAt(x, 0, 21), offAt(x, 1, 1, 0)), true)
	expectRaising(t, "at the end", x, machine(frameAt(x, 0, 21), offAt(x, 1, 2)), false)
	for code := impl.OcDone; code <= impl.OcDeep; code++ {
		expectRaising(t, fmt.Sprint("no frames, Code ", code), x, impl.Vm{Code: code}, false)
	}
}

// TestRunTo has for each program after how many steps RunTo ends, and the code, the place and the number of frames there.
func TestRunTo(t *testing.T) {
	for _, c := range []struct {
		name   string
		p      impl.Prog
		inputs []int
		steps  int
		code   int
		at     int
		frames int
	}{
		{"nothing", written(""), nil, 2, impl.OcDone, 0, 0},
		{"a number", written("return 7"), nil, 4, impl.OcDone, 0, 0},
		{"an exit", written("exit"), nil, 2, impl.OcExit, 0, 0},
		{"no division by 0", written("print 0 1 /"), nil, 6, impl.OcDone, 0, 0},
		{"at once", written("panic 3"), nil, 1, 0, 1, 1},
		{"at once, by 0", written("print 0 0 /"), nil, 2, 0, 2, 1},
		{"later", written("print 1; print 2; panic 3"), nil, 5, 0, 5, 1},
		{"within a call", written("print f1", "print in; panic 3"), numbers(4), 4, 0, 3, 2},
		{"within what was put off", written("defer 1", "print 1 in /"), nil, 5, 0, 2, 2},
		{"more than once", written("defer 1; panic 40", "panic 41"), nil, 2, 0, 2, 1},
		{"by input", written("print 1 in /; panic 7"), numbers(1), 5, 0, 5, 1},
		{"by another input", written("print 1 in /; panic 7"), nil, 2, 0, 2, 1},
		{"too deep", written("do f0"), nil, 12, impl.OcDeep, 0, 12},
	} {
		x, _ := impl.LowerProg(c.p)
		v, steps := checkRunTo(t, judgeOf(x), c.inputs, 12, 100)
		if steps != c.steps || v.Code != c.code || len(v.Frames) != c.frames {
			t.Errorf("%s: %d steps, %+v", c.name, steps, v)
			continue
		}
		for _, ticks := range numbers(0, steps, steps+1, 60000) {
			want, _ := impl.RunVm(x, c.inputs, 12, min(ticks, steps))
			expectRunTo(t, x, c.inputs, 12, ticks, want, true)
		}
		if last := c.frames - 1; c.code == 0 && v.Frames[last].At != c.at {
			t.Errorf("%s: at %d", c.name, v.Frames[last].At)
		}
		if is, ok := impl.IsRaising(x, v); is != (c.code == 0) || !ok {
			t.Errorf("%s: %t, %t", c.name, is, ok)
		}
		if one, _ := impl.RunTo(x, c.inputs, 12, max(steps-1, 0)); c.steps > 0 && (impl.SameVm(one, v) || one.Code != 0) {
			t.Errorf("%s: with one tick fewer: %+v", c.name, one)
		}
	}
}

// TestRunToGoesFar has what raises just behind as many ticks as there may be, and around that, and what never ends.
func TestRunToGoesFar(t *testing.T) {
	for extra := range 9 {
		// Two ticks ahead of the loop, seven in each of its rounds, two to leave it, one for each jump, and one for the number.
		x := image("0 1: num 8570; set 0; var 0; unless 9; var 0; num 1; reckon 4; set 0; jump 2" +
			jumpsFrom(9, extra) + fmt.Sprintf("; num 8; panic; end | 0 %d %d", 11+extra, 11+extra))
		steps := 2 + 7*8570 + 2 + extra + 1
		v, ok := impl.RunTo(x, nil, 1, 60000)
		if is, _ := impl.IsRaising(x, v); !ok || is != (steps <= 60000) {
			t.Errorf("%d steps: %t, %+v, %t", steps, is, v, ok)
		}
		expectRunTo(t, x, nil, 1, 60000, machineOf(x, min(steps, 60000)), true)
		for _, fewer := range numbers(1, 2, 30000) {
			expectRunTo(t, x, nil, 1, 60000-fewer, machineOf(x, min(steps, 60000-fewer)), true)
		}
	}
	never := image("num 1; drop; jump 0")
	expectRunTo(t, never, nil, 1, 60000, machineOf(never, 60000), true)
	expectRunTo(t, never, nil, 1, 59999, machineOf(never, 59999), true)
}

func jumpsFrom(at, many int) string {
	text := ""
	for range many {
		at++
		text += fmt.Sprintf("; jump %d", at)
	}
	return text
}

func machineOf(x impl.Image, ticks int) impl.Vm {
	v, _ := impl.RunVm(x, nil, 12, ticks)
	return v
}

// TestRunToMoreThanOnce goes on behind what raises, step by step, to what raises next.
func TestRunToMoreThanOnce(t *testing.T) {
	x, _ := impl.LowerProg(written("defer 1; defer 2; print f3; panic 40", "panic rec 1 +", "print 1 0 /", "defer 4; panic 39", "return rec"))
	v, _ := checkRunTo(t, judgeOf(x), nil, 12, 100)
	var raised []string
	for v.Code == 0 {
		if is, ok := impl.IsRaising(x, v); !ok {
			t.Fatalf("not good: %+v", v)
		} else if is {
			f := v.Frames[len(v.Frames)-1]
			raised = append(raised, fmt.Sprint(f.Fn, ":", f.Pile))
		}
		checkUnwind(t, judgeOf(x), v)
		v, _ = impl.StepVm(x, nil, 12, v)
	}
	if want := []string{"3:[39]", "0:[40]", "2:[1 0]", "1:[0]"}; !slices.Equal(raised, want) || v.Code != impl.OcPanic || v.Value != 0 {
		t.Errorf("%q, %+v", raised, v)
	}
}

func TestRunsToThatAreNotAsSaid(t *testing.T) {
	raises, idles := image("num 1; num 0; reckon 6; drop; leave; end | 0 5 5"), image("num 1; drop; jump 0")
	expect := func(inputs []int, most, ticks int, there bool) {
		t.Helper()
		var to, on impl.Vm
		if there {
			to, _ = impl.RunVm(raises, nil, 1, min(ticks, 2))
			on, _ = impl.RunVm(idles, nil, 1, ticks)
		}
		expectRunTo(t, raises, inputs, most, ticks, to, there)
		expectRunTo(t, idles, inputs, most, ticks, on, there)
	}
	for _, ticks := range append(someInts(), 59998, 59999, 60000, 60001) {
		expect(nil, 12, ticks, ticks >= 0 && ticks <= 60000)
	}
	for _, most := range append(someInts(), 8, 9, 10, 11, 13) {
		for _, ticks := range numbers(-1, 0, 1, 2, 3, 100, 60001) {
			expect(nil, most, ticks, most >= 1 && most <= 12 && ticks >= 0 && ticks <= 60000)
		}
	}
	for many := range 13 {
		for _, ticks := range numbers(0, 1, 5) {
			expect(upTo(many), 12, ticks, many <= 10)
		}
	}
	for _, n := range someInts() {
		expect(numbers(n), 12, 7, within(n))
		expect(append(upTo(9), n), 12, 0, within(n))
	}
	for _, x := range notGoodImages() {
		for _, ticks := range numbers(0, 1, 60000) {
			expectRunTo(t, x, nil, 12, ticks, impl.Vm{}, false)
		}
	}
}

func TestLooksOfImagesThatAreNotGood(t *testing.T) {
	good, _ := impl.NewVm(image("end"))
	raises := machine(frameAt(image("num 1; panic; end | 0 2 2"), 0, 1, 5))
	for _, x := range notGoodImages() {
		for _, v := range []impl.Vm{good, raises, {}, {Code: impl.OcDone}, {Code: impl.OcDeep}, {Frames: []impl.Frame{{Base: 1}}}} {
			if checkUnwind(t, judgeOf(x), v) {
				t.Fatalf("good: %v", x)
			}
		}
	}
}

// TestLooksAtMachinesThatAreNotGood changes one thing each of a machine in which every look finds something.
func TestLooksAtMachinesThatAreNotGood(t *testing.T) {
	x := stoppers()
	x.Codes[4] = code("num 1; num 0; reckon 6; recover; drop; drop; leave; end | 0 7 7")
	j := judgeOf(x)
	v := machine(frameAt(x, 0, 4), offAt(x, 4, 2, 1, 0))
	v.Frames[0].Flags[3] = true
	if k, ok := impl.SearchUp(x, v); !checkUnwind(t, j, v) || k != 0 || !ok {
		t.Fatalf("%d, %t", k, ok)
	}
	if is, ok := impl.IsRaising(x, v); !is || !ok {
		t.Fatalf("%t, %t", is, ok)
	}
	for name, edit := range map[string]func(w *impl.Vm){
		"Used": func(w *impl.Vm) { w.Used = 11 }, "Code": func(w *impl.Vm) { w.Code = impl.OcDone }, "no Code": func(w *impl.Vm) { w.Code = 5 }, "Made": func(w *impl.Vm) { w.Made = -1 },
		"Value": func(w *impl.Vm) { w.Value = greatest + 1 }, "Trace": func(w *impl.Vm) { w.Trace = numbers(least - 1) }, "no frames": func(w *impl.Vm) { w.Frames = nil },
		"Off": func(w *impl.Vm) { w.Frames[0].Off = true }, "not Off": func(w *impl.Vm) { w.Frames[1].Off = false }, "Fn": func(w *impl.Vm) { w.Frames[1].Fn = 2 }, "great Fn": func(w *impl.Vm) { w.Frames[1].Fn = 5 },
		"At": func(w *impl.Vm) { w.Frames[1].At = 3 }, "great At": func(w *impl.Vm) { w.Frames[1].At = 8 }, "Pile": func(w *impl.Vm) { w.Frames[1].Pile = numbers(0) }, "no Pile": func(w *impl.Vm) { w.Frames[1].Pile = nil },
		"Flags": func(w *impl.Vm) { w.Frames[0].Flags = []bool{true} }, "more Flags": func(w *impl.Vm) { w.Frames[0].Flags = append(w.Frames[0].Flags, true) }, "Vars": func(w *impl.Vm) { w.Frames[0].Vars = numbers(1) },
		"Mode": func(w *impl.Vm) { w.Frames[0].Mode = 4 }, "Base": func(w *impl.Vm) { w.Frames[0].Base = 2 }, "Id": func(w *impl.Vm) { w.Frames[1].Id = least - 1 }, "below": func(w *impl.Vm) { w.Frames[0].At = 3 },
	} {
		w := cloneVm(v)
		edit(&w)
		if checkUnwind(t, j, w) {
			t.Errorf("%s: good", name)
		}
	}
}

// fate is what becomes of a panic: it is recovered, or the machine ends by it, or something else takes its place, or it is still there.
type fate struct {
	word string
	// frame is where it is recovered.
	frame int
}

// fateOf follows the panic that a machine is about to raise from frame to frame.
func fateOf(t *testing.T, j judge, inputs []int, v impl.Vm, ticks int) fate {
	t.Helper()
	in := len(v.Frames) - 1
	v, _ = impl.StepVm(j.x, inputs, 12, v)
	value := v.Frames[in].Value
	for range ticks {
		if f := v.Frames[in]; f.Mode != impl.MdPanic || f.Value != value {
			t.Fatalf("the panic with %d is not there: %+v", value, v)
		}
		last := len(v.Frames) - 1
		f := v.Frames[last]
		i := j.x.Codes[f.Fn].Ins[f.At]
		w, ok := impl.StepVm(j.x, inputs, 12, v)
		switch {
		case !ok || w.Code == impl.OcDeep:
			return fate{word: "stands"}
		case isOneOf(i, "recover") && f.Off && last == in+1:
			if w.Frames[in].Mode != v.Frames[in].Base || w.Frames[last].Pile[len(w.Frames[last].Pile)-1] != value {
				t.Fatalf("not recovered: %+v", w)
			}
			return fate{"recovered", in}
		case last == in && (isOneOf(i, "panic exit leave") || j.isRaising(v)), last == in+1 && isOneOf(i, "end") && f.Mode >= impl.MdPanic:
			return fate{word: "replaced"}
		case last == in && isOneOf(i, "end") && in == 0:
			if w.Code != impl.OcPanic || w.Value != value {
				t.Fatalf("no end by the panic with %d: %+v", value, w)
			}
			return fate{word: "ends"}
		case last == in && isOneOf(i, "end"):
			in--
		}
		v = w
	}
	return fate{word: "stands"}
}

// checkFate is promise 9, and more: a panic is recovered just in a frame of which MayStop told so ahead of it, thus not above the one that SearchUp found.
func checkFate(t *testing.T, j judge, inputs []int, v impl.Vm, ticks int) string {
	t.Helper()
	end := fateOf(t, j, inputs, v, ticks)
	k, found := impl.SearchUp(j.x, v)
	if !found {
		if end.word == "recovered" {
			t.Fatalf("recovered in frame %d, though SearchUp finds none: %v, %+v", end.frame, j.x, v)
		}
		return "not found, " + end.word
	}
	if may, _ := impl.MayStop(j.x, v, end.frame); end.word == "recovered" && (!may || end.frame > k) {
		t.Fatalf("recovered in frame %d, though SearchUp finds %d: %v, %+v", end.frame, k, j.x, v)
	}
	if end.word == "recovered" && end.frame == k {
		return "found, recovered there"
	}
	return "found, " + end.word
}

// TestPanicsOfPrograms is promise 9 of each panic of a program, from the first one on.
func TestPanicsOfPrograms(t *testing.T) {
	for _, c := range []struct {
		p      impl.Prog
		inputs []int
		want   []string
	}{
		{written("panic 1"), nil, []string{"not found, ends"}},
		{written("print 1 in /"), nil, []string{"not found, ends"}},
		{written("defer 1; panic 1", "print 3"), nil, []string{"not found, ends"}},
		{written("defer 1; panic 1", "print rec"), nil, []string{"found, recovered there"}},
		{written("defer 1; print 1 0 /", "return rec"), nil, []string{"found, recovered there"}},
		{written("do f1", "do f2", "panic 3"), nil, []string{"not found, ends"}},
		{written("defer 3; do f1", "do f2", "panic 3", "return rec"), nil, []string{"found, recovered there"}},
		{written("defer 3; do f1", "defer 3; do f2", "panic 3", "return rec"), nil, []string{"found, recovered there"}},
		// It is called by one put off, is not put off itself, and gets 0.
		{written("defer 1; panic 1", "do f2", "print rec"), nil, []string{"not found, ends"}},
		// What has a way to recover need not take it; the next one below does.
		{written("defer 2; do f1", "defer 3; panic 1", "print rec", "if in { print rec }"), nil, []string{"found, recovered"}},
		{written("defer 2; do f1", "defer 3; panic 1", "print rec", "if in { print rec }"), numbers(1), []string{"found, recovered there"}},
		{written("defer 1; panic 1", "if in { print rec }"), nil, []string{"found, ends"}},
		// Another panic takes the place of the first one.
		{written("defer 1; panic 1", "panic 2"), nil, []string{"not found, replaced", "not found, ends"}},
		{written("defer 2; defer 1; panic 1", "panic 2", "print rec"), nil, []string{"found, replaced", "found, recovered there"}},
		{written("defer 1; panic 1", "exit"), nil, []string{"not found, replaced"}},
		// What is called while one recovers raises what is not recovered by it.
		{written("defer 1; panic 1", "print rec; panic 2"), nil, []string{"found, recovered there", "found, ends"}},
		// It was put off only behind the panic, or not at all.
		{written("panic 1; defer 1", "print rec"), nil, []string{"not found, ends"}},
		{written("if in { defer 1 }; panic 1", "print rec"), nil, []string{"not found, ends"}},
		{written("if in { defer 1 }; panic 1", "print rec"), numbers(1), []string{"found, recovered there"}},
		// Its own panic, in what was put off to recover that of another one.
		{written("defer 1; panic 1", "defer 2; panic 2; print rec", "print 5"), nil, []string{"found, replaced", "found, ends"}},
		{written("defer 1; panic 1", "defer 2; panic 2", "print rec"), nil, []string{"not found, ends", "found, recovered there"}},
	} {
		x, _ := impl.LowerProg(c.p)
		j := judgeOf(x)
		v, ok := impl.RunTo(x, c.inputs, 12, 1000)
		var got []string
		for v.Code == 0 {
			checkUnwind(t, j, v)
			if is, _ := impl.IsRaising(x, v); is {
				got = append(got, checkFate(t, j, c.inputs, v, 1000))
			}
			v, _ = impl.StepVm(x, c.inputs, 12, v)
		}
		if !ok || !slices.Equal(got, c.want) {
			t.Errorf("%v with %v: %q, want %q", c.p, c.inputs, got, c.want)
		}
	}
}

func addFate(t *testing.T, seen map[string]int, j judge, inputs []int, v impl.Vm, ticks int) {
	t.Helper()
	if is, _ := impl.IsRaising(j.x, v); is && impl.GoodVm(j.x, v) && len(v.Frames) <= 12 && v.Made < 1000000 {
		seen[checkFate(t, j, inputs, v, ticks)]++
	}
}

func expectFates(t *testing.T, seen map[string]int, least int) {
	t.Helper()
	for _, word := range []string{"not found, ends", "not found, replaced", "not found, stands", "found, recovered there", "found, recovered", "found, ends", "found, replaced", "found, stands"} {
		if seen[word] < least {
			t.Errorf("%s: only %d times of %v", word, seen[word], seen)
		}
	}
}

// TestPanicsOfRandomPrograms is promise 9 for what programs come to.
func TestPanicsOfRandomPrograms(t *testing.T) {
	r := rand.New(rand.NewSource(90))
	seen := map[string]int{}
	for range 1500 {
		x, _ := impl.LowerProg(livelyProg(r))
		j, inputs := judgeOf(x), randomInputs(r)
		v, ok := impl.RunTo(x, inputs, 12, 60000)
		for range 400 {
			if !ok || v.Code != 0 {
				break
			}
			addFate(t, seen, j, inputs, v, 600)
			v, ok = impl.StepVm(x, inputs, 12, v)
		}
	}
	expectFates(t, seen, 10)
}

// withoutLatePuts has no InPut where a way leads from a pad: what a frame puts off it has put off ahead of what it raises.
func withoutLatePuts(x impl.Image) impl.Image {
	x = cloneImage(x)
	for fn := range x.Codes {
		c := &x.Codes[fn]
		behind := make([]bool, len(c.Ins))
		var follow func(at int)
		follow = func(at int) {
			if behind[at] {
				return
			}
			behind[at] = true
			for _, to := range wantNext(c.Ins[at], at) {
				follow(to)
			}
		}
		for _, row := range c.Rows {
			follow(row.Pad)
		}
		for at, i := range c.Ins {
			if behind[at] && isOneOf(i, "put") {
				c.Ins[at] = ins(impl.InJump, at+1)
			}
		}
	}
	return x
}

// TestPanicsOfRandomMachines is promise 9 for machines that no run comes to, too.
func TestPanicsOfRandomMachines(t *testing.T) {
	r := rand.New(rand.NewSource(91))
	seen := map[string]int{}
	for range 500 {
		j := judgeOf(withoutLatePuts(randomImage(r)))
		if !j.good {
			t.Fatalf("not good: %v", j.x)
		}
		for range 20 {
			v, inputs := randomVm(r, j), randomInputs(r)
			for range 10 {
				addFate(t, seen, j, inputs, v, 200)
				w, ok := impl.StepVm(j.x, inputs, 12, v)
				if !ok {
					break
				}
				v = w
			}
		}
	}
	expectFates(t, seen, 10)
}

func TestLooksAtRandomMachines(t *testing.T) {
	r := rand.New(rand.NewSource(92))
	seen := map[string]int{}
	for range 500 {
		j := judgeOf(randomImage(r))
		for range 30 {
			v := randomVm(r, j)
			if !checkUnwind(t, j, v) {
				t.Fatalf("not good: %+v", v)
			}
			is, _ := impl.IsRaising(j.x, v)
			_, found := impl.SearchUp(j.x, v)
			_, padded := impl.PadsUp(j.x, v)
			seen[fmt.Sprint("raising ", is)]++
			seen[fmt.Sprint("found ", found)]++
			seen[fmt.Sprint("padded ", padded)]++
		}
	}
	for _, what := range []string{"raising", "found", "padded"} {
		if seen[what+" true"] < 150 || seen[what+" false"] < 150 {
			t.Errorf("%s: %v", what, seen)
		}
	}
}

func TestRunsToOfRandomImages(t *testing.T) {
	r := rand.New(rand.NewSource(93))
	raised, ended := 0, map[int]int{}
	for range 400 {
		j := judgeOf(randomImage(r))
		v, _ := checkRunTo(t, j, randomInputs(r), 1+r.Intn(12), r.Intn(120))
		if j.isRaising(v) {
			raised++
		} else {
			ended[v.Code]++
		}
	}
	for range 400 {
		x, _ := impl.LowerProg(livelyProg(r))
		v, _ := checkRunTo(t, judgeOf(x), randomInputs(r), 1+r.Intn(12), r.Intn(200))
		ended[v.Code]++
	}
	if raised < 50 || ended[0] < 20 || ended[impl.OcDone] < 20 || ended[impl.OcExit] < 10 || ended[impl.OcDeep] < 10 {
		t.Errorf("%d raised, %v", raised, ended)
	}
}

func TestLooksAtSpoiledMachines(t *testing.T) {
	r := rand.New(rand.NewSource(94))
	good, bad := 0, 0
	for range 300 {
		x := randomImage(r)
		j := judgeOf(x)
		for range 20 {
			v := cloneVm(randomVm(r, j))
			for range 1 + r.Intn(2) {
				spoilVm(r, &v)
			}
			if checkUnwind(t, j, v) {
				good++
			} else {
				bad++
			}
		}
		y := cloneImage(x)
		spoilCode(r, &y.Codes[r.Intn(len(y.Codes))])
		other := judgeOf(y)
		for range 5 {
			checkUnwind(t, other, randomVm(r, j))
		}
		if !other.good {
			expectRunTo(t, y, nil, 12, 9, impl.Vm{}, false)
		} else {
			checkRunTo(t, other, nil, 12, 20)
		}
	}
	if good < 800 || bad < 2000 {
		t.Errorf("%d good, %d bad", good, bad)
	}
}

func TestLooksAtWildMachines(t *testing.T) {
	r := rand.New(rand.NewSource(95))
	some := append(someInts(), upTo(20)...)
	pick := func() int { return some[r.Intn(len(some))] }
	list := func() []int {
		l := make([]int, r.Intn(4))
		for i := range l {
			l[i] = pick()
		}
		return l
	}
	j := judgeOf(callers())
	for range 3000 {
		v := impl.Vm{Trace: list(), Used: pick(), Code: pick(), Value: pick(), Made: pick()}
		for range r.Intn(4) {
			v.Frames = append(v.Frames, impl.Frame{Id: pick(), Fn: pick(), At: pick(), Pile: list(), Vars: list(), Flags: make([]bool, r.Intn(4)), Result: pick(), Mode: pick(), Value: pick(), Base: pick(), Off: r.Intn(2) == 0})
		}
		checkUnwind(t, j, v)
		inputs, most, ticks := list(), pick(), pick()
		if _, ok := impl.RunTo(j.x, inputs, most, ticks); ok != (inputsFit(inputs, most) && ticks >= 0 && ticks <= 60000) {
			t.Fatalf("RunTo with %v, %d, %d: %t", inputs, most, ticks, ok)
		}
	}
}

func TestLooksLeaveTheirArguments(t *testing.T) {
	r := rand.New(rand.NewSource(96))
	for range 150 {
		x := spareImage(randomImage(r))
		wasImage := wholeImage(x)
		j := judgeOf(x)
		inputs := spare(randomInputs(r), 77, greatest+1)
		wasInputs := slices.Clone(inputs[:cap(inputs)])
		checkRunTo(t, j, inputs, 1+r.Intn(12), 30)
		for range 12 {
			v := spareVm(randomVm(r, j))
			if r.Intn(4) == 0 {
				spoilVm(r, &v)
			}
			was := wholeVm(v)
			checkUnwind(t, j, v)
			if now := wholeVm(v); !reflect.DeepEqual(now, was) {
				t.Fatalf("%+v became %+v", was, now)
			}
		}
		if now := wholeImage(x); !reflect.DeepEqual(now, wasImage) {
			t.Fatalf("%v became %v", wasImage, now)
		}
		if !slices.Equal(inputs[:cap(inputs)], wasInputs) {
			t.Fatalf("%v became %v", wasInputs, inputs[:cap(inputs)])
		}
	}
}

func scribblePads(t *testing.T, pads [][]int) {
	t.Helper()
	for k := range pads {
		was := slices.Clone(pads)
		for other := range was {
			was[other] = slices.Clone(pads[other])
		}
		scribble(pads[k])
		for other := range pads {
			if other != k && !slices.Equal(pads[other], was[other]) {
				t.Fatalf("two lists of one answer share memory: %v, was %v", pads, was)
			}
		}
	}
	for k := range pads[:cap(pads)] {
		pads[:cap(pads)][k] = numbers(99)
	}
}

func TestAnswersOfLooksAreNewMemory(t *testing.T) {
	r := rand.New(rand.NewSource(97))
	some := 0
	for range 300 {
		x := spareImage(randomImage(r))
		j := judgeOf(x)
		v, inputs, ticks := spareVm(randomVm(r, j)), spare(randomInputs(r), 77), r.Intn(60)
		whole, wasImage, wasInputs := wholeVm(v), wholeImage(x), slices.Clone(inputs[:cap(inputs)])
		for k := range v.Frames {
			want, _ := wantWaiting(v, k)
			l, _ := impl.WaitingIn(v, k)
			other, _ := impl.WaitingIn(v, k)
			some += len(l)
			scribble(l)
			if again, _ := impl.WaitingIn(v, k); !slices.Equal(other, want) || !slices.Equal(again, want) {
				t.Fatalf("two answers share memory: %v, %v, want %v", other, again, want)
			}
		}
		want, _ := j.padsUp(v)
		pads, _ := impl.PadsUp(x, v)
		other, _ := impl.PadsUp(x, v)
		scribblePads(t, pads)
		if again, _ := impl.PadsUp(x, v); !slices.EqualFunc(other, want, slices.Equal[[]int]) || !slices.EqualFunc(again, want, slices.Equal[[]int]) {
			t.Fatalf("two answers share memory: %v, %v, want %v", other, again, want)
		}
		first, _ := impl.RunTo(x, inputs, 12, ticks)
		second, _ := impl.RunTo(x, inputs, 12, ticks)
		kept := cloneVm(first)
		checkNothingBehind(t, first)
		scribbleVm(t, first)
		if third, _ := impl.RunTo(x, inputs, 12, ticks); !alikeVm(second, kept) || !alikeVm(third, kept) {
			t.Fatalf("two answers share memory: %+v, want %+v", second, kept)
		}
		if !reflect.DeepEqual(wholeVm(v), whole) || !reflect.DeepEqual(wholeImage(x), wasImage) || !slices.Equal(inputs[:cap(inputs)], wasInputs) {
			t.Fatalf("an answer shares memory with an argument: %+v, was %+v", wholeVm(v), whole)
		}
	}
	if some < 200 {
		t.Errorf("only %d numbers of flags", some)
	}
}
