package tests

import (
	"fmt"
	"math"
	"math/rand"
	"reflect"
	"slices"
	"strings"
	"testing"

	"loop.example/g00745/impl"
)

// judge has of an image what the verifier of the tests tells of it.
type judge struct {
	x       impl.Image
	good    bool
	heights [][]int
	pads    [][]int
}

func judgeOf(x impl.Image) judge {
	j := judge{x: x, good: wantSized(x) && x.Codes[0].Params == 0}
	for _, c := range x.Codes {
		j.good = j.good && wantFault(x, c) == 0
	}
	if !j.good {
		return j
	}
	for _, c := range x.Codes {
		heights, _ := wantHeights(x, c)
		j.heights, j.pads = append(j.heights, heights), append(j.pads, padsOf(c))
	}
	return j
}

// bounded is a number that has to be in from..to.
type bounded struct{ n, from, to int }

// boundsOf leaves out the notes, for which the document sets no bounds.
func boundsOf(v impl.Vm) []bounded {
	l := []bounded{{v.Used, 0, 10}, {v.Code, 0, 4}, {v.Made, 0, 1000000}, {v.Value, least, greatest}}
	free := slices.Clone(v.Trace)
	for _, f := range v.Frames {
		free = append(free, f.Id, f.Result, f.Value)
		free = append(append(free, f.Pile...), f.Vars...)
		l = append(l, bounded{f.Mode, 0, 3})
		if f.Base != 1 {
			l = append(l, bounded{f.Base, 3, 3})
		}
	}
	for _, n := range free {
		l = append(l, bounded{n, least, greatest})
	}
	return l
}

// calledBy tells the code that is called at a place, whether as one put off, and how much it takes; -1 where none is.
func (j judge) calledBy(fn, at int) (called int, off bool, takes int) {
	i := j.x.Codes[fn].Ins[at]
	switch insWords[i.Op].word {
	case "call":
		return i.N, false, j.x.Codes[i.N].Params
	case "off":
		return j.x.Codes[fn].Sites[i.N], true, 0
	}
	return -1, false, 0
}

func (j judge) goodFrame(f impl.Frame) bool {
	if f.Fn < 0 || f.Fn >= len(j.x.Codes) {
		return false
	}
	c := j.x.Codes[f.Fn]
	return f.At >= 0 && f.At < len(c.Ins) && j.heights[f.Fn][f.At] >= 0 && len(f.Vars) == c.Vars && len(f.Flags) == len(c.Sites)
}

func (j judge) goodVm(v impl.Vm) bool {
	if !j.good || slices.ContainsFunc(boundsOf(v), func(b bounded) bool { return b.n < b.from || b.n > b.to }) {
		return false
	}
	if !slices.Contains(map[bool][]int{true: {0, 4}, false: {1, 2, 3, 4}}[len(v.Frames) > 0], v.Code) {
		return false
	}
	for k, f := range v.Frames {
		if !j.goodFrame(f) || k == 0 && f.Off {
			return false
		}
		height := j.heights[f.Fn][f.At]
		if k < len(v.Frames)-1 {
			fn, off, takes := j.calledBy(f.Fn, f.At)
			height -= takes
			if above := v.Frames[k+1]; fn != above.Fn || off != above.Off {
				return false
			}
		}
		if len(f.Pile) != height {
			return false
		}
	}
	return true
}

// raised has the mode raised in the last frame.
func (j judge) raised(v impl.Vm, mode, n int) impl.Vm {
	f := &v.Frames[len(v.Frames)-1]
	f.Mode, f.Value, f.Pile, f.At = mode, n, nil, j.pads[f.Fn][f.At]
	if mode == impl.MdExit {
		f.Base = impl.MdExit
	}
	return v
}

func (j judge) called(v impl.Vm, fn int, given []int, off bool) impl.Vm {
	c := j.x.Codes[fn]
	f := impl.Frame{Id: v.Made, Fn: fn, Vars: append(given, make([]int, c.Vars-len(given))...), Flags: make([]bool, len(c.Sites)), Base: impl.MdReturn, Off: off}
	v.Frames = append(v.Frames, f)
	v.Made++
	return v
}

func (j judge) ended(v impl.Vm, f impl.Frame) impl.Vm {
	v.Frames = v.Frames[:len(v.Frames)-1]
	if len(v.Frames) == 0 {
		v.Code = []int{impl.OcDone, impl.OcDone, impl.OcPanic, impl.OcExit}[f.Mode]
		v.Value = []int{f.Result, f.Result, f.Value, 0}[f.Mode]
		return v
	}
	if f.Mode >= impl.MdPanic {
		return j.raised(v, f.Mode, []int{f.Value, 0}[f.Mode-impl.MdPanic])
	}
	below := &v.Frames[len(v.Frames)-1]
	if _, off, _ := j.calledBy(below.Fn, below.At); !off {
		below.Pile = append(below.Pile, f.Result)
	}
	below.At++
	return v
}

// step does what the document says, by the words of the instructions: what is taken off first, then what is done, then where it goes on.
func (j judge) step(inputs []int, most int, v impl.Vm) impl.Vm {
	v = cloneVm(v)
	f := &v.Frames[len(v.Frames)-1]
	i := j.x.Codes[f.Fn].Ins[f.At]
	word := insWords[i.Op].word
	calls := word == "call" || word == "off" && f.Flags[i.N]
	if calls && len(v.Frames) == most {
		v.Code = impl.OcDeep
		return v
	}
	cut := len(f.Pile) - wantTakes(j.x, i)
	taken := append(slices.Clone(f.Pile[cut:]), 0)
	f.Pile = slices.Clone(f.Pile[:cut])
	next := f.At + 1
	switch word {
	case "num":
		f.Pile = append(f.Pile, i.N)
	case "var":
		f.Pile = append(f.Pile, f.Vars[i.N])
	case "set":
		f.Vars[i.N] = taken[0]
	case "reckon":
		n, told := wantReckon(i.N, taken[0], taken[1])
		if !told {
			return j.raised(v, impl.MdPanic, -1)
		}
		f.Pile = append(f.Pile, n)
	case "input":
		f.Pile = append(f.Pile, append(inputs[min(v.Used, len(inputs)):len(inputs):len(inputs)], 0)[0])
		if v.Used < len(inputs) {
			v.Used++
		}
	case "recover":
		f.Pile = append(f.Pile, recoveredIn(v))
	case "print":
		v.Trace = append(v.Trace, taken[0])
	case "jump":
		next = i.N
	case "unless":
		if taken[0] == 0 {
			next = i.N
		}
	case "put":
		f.Flags[i.N] = true
		v.Notes = append(v.Notes, impl.Note{Kind: 1, Id: f.Id, Site: i.N})
	case "result":
		f.Result = taken[0]
	case "leave":
		f.Mode, next = impl.MdReturn, j.pads[f.Fn][f.At]
	case "panic":
		return j.raised(v, impl.MdPanic, taken[0])
	case "exit":
		return j.raised(v, impl.MdExit, 0)
	case "end":
		v.Notes = append(v.Notes, impl.Note{Kind: 3, Id: f.Id})
		return j.ended(v, *f)
	}
	if calls && word == "off" {
		f.Flags[i.N] = false
		v.Notes = append(v.Notes, impl.Note{Kind: 2, Id: f.Id, Site: i.N})
		return j.called(v, j.x.Codes[f.Fn].Sites[i.N], nil, true)
	}
	if calls {
		return j.called(v, i.N, taken[:len(taken)-1], false)
	}
	f.At = next
	return v
}

func recoveredIn(v impl.Vm) int {
	last := len(v.Frames) - 1
	if !v.Frames[last].Off || v.Frames[last-1].Mode != impl.MdPanic {
		return 0
	}
	v.Frames[last-1].Mode = v.Frames[last-1].Base
	return v.Frames[last-1].Value
}

func cloneVm(v impl.Vm) impl.Vm {
	v.Frames, v.Trace, v.Notes = slices.Clone(v.Frames), slices.Clone(v.Trace), slices.Clone(v.Notes)
	for k, f := range v.Frames {
		v.Frames[k].Pile, v.Frames[k].Vars, v.Frames[k].Flags = slices.Clone(f.Pile), slices.Clone(f.Vars), slices.Clone(f.Flags)
	}
	return v
}

// plainFrame has what is no list in the place of the lists.
func plainFrame(f impl.Frame) impl.Frame {
	f.Pile, f.Vars, f.Flags = nil, nil, nil
	return f
}

func alikeVm(a, b impl.Vm) bool {
	for k, f := range a.Frames {
		if k >= len(b.Frames) || !reflect.DeepEqual(plainFrame(f), plainFrame(b.Frames[k])) {
			return false
		}
		if !slices.Equal(f.Pile, b.Frames[k].Pile) || !slices.Equal(f.Vars, b.Frames[k].Vars) || !slices.Equal(f.Flags, b.Frames[k].Flags) {
			return false
		}
	}
	return len(a.Frames) == len(b.Frames) && slices.Equal(a.Trace, b.Trace) && slices.Equal(a.Notes, b.Notes) &&
		[4]int{a.Used, a.Code, a.Value, a.Made} == [4]int{b.Used, b.Code, b.Value, b.Made}
}

// stepFits tells whether StepVm is to have an answer.
func (j judge) stepFits(inputs []int, most int, v impl.Vm) bool {
	return inputsFit(inputs, most) && j.goodVm(v) && v.Code == 0 && len(v.Frames) <= most && v.Made < 1000000
}

func inputsFit(inputs []int, most int) bool {
	return len(inputs) <= 10 && !slices.ContainsFunc(inputs, func(n int) bool { return !within(n) }) && most >= 1 && most <= 12
}

func checkGoodVm(t *testing.T, j judge, v impl.Vm) bool {
	t.Helper()
	want := j.goodVm(v)
	if ok := impl.GoodVm(j.x, v); ok != want {
		t.Fatalf("GoodVm(%v, %+v) = %t", j.x, v, ok)
	}
	return want
}

// checkStep holds a step against what is wanted, and is promise 8: what it gives is good, by both verifiers.
func checkStep(t *testing.T, j judge, inputs []int, most int, v impl.Vm) (impl.Vm, bool) {
	t.Helper()
	checkGoodVm(t, j, v)
	was := cloneVm(v)
	fits := j.stepFits(inputs, most, v)
	var want impl.Vm
	if fits {
		want = j.step(inputs, most, v)
	}
	got, ok := impl.StepVm(j.x, inputs, most, v)
	if ok != fits || !alikeVm(got, want) {
		t.Fatalf("StepVm(%v, %v, %d, %+v) =\n%+v, %t, want\n%+v, %t", j.x, inputs, most, v, got, ok, want, fits)
	}
	if !alikeVm(v, was) {
		t.Fatalf("changed: %+v, was %+v", v, was)
	}
	if fits && (!impl.GoodVm(j.x, got) || !j.goodVm(got)) {
		t.Fatalf("StepVm(%v, %v, %d, %+v) is not good: %+v", j.x, inputs, most, v, got)
	}
	if !impl.SameVm(got, want) || impl.SameVm(got, v) != alikeVm(got, v) {
		t.Fatalf("SameVm of %+v and %+v", got, v)
	}
	checkEnd(t, got)
	return got, ok
}

func checkEnd(t *testing.T, v impl.Vm) bool {
	t.Helper()
	var want impl.Outcome
	there := v.Code >= 0 && v.Code <= 4
	if there {
		want = impl.Outcome{Code: []int{5, 1, 2, 3, 4}[v.Code], Value: []int{0, v.Value, v.Value, 0, 0}[v.Code], Trace: v.Trace, Used: v.Used}
	}
	if o, ok := impl.EndOf(v); !alike(o, want) || ok != there {
		t.Fatalf("EndOf(%+v) = %+v, %t, want %+v, %t", v, o, ok, want, there)
	}
	return there
}

// expectRunVm asks for the answer where there is none, too.
func expectRunVm(t *testing.T, x impl.Image, inputs []int, most, ticks int, want impl.Vm, there bool) {
	t.Helper()
	if v, ok := impl.RunVm(x, inputs, most, ticks); !alikeVm(v, want) || ok != there {
		t.Fatalf("RunVm(%v, %v, %d, %d) =\n%+v, %t, want\n%+v, %t", x, inputs, most, ticks, v, ok, want, there)
	}
}

// checkRunVm goes step by step, up to so many ticks, and holds RunVm against the steps at some of these, and at the last one.
func checkRunVm(t *testing.T, j judge, inputs []int, most, ticks int) impl.Vm {
	t.Helper()
	v, ok := impl.NewVm(j.x)
	if !ok || !j.goodVm(v) {
		t.Fatalf("NewVm(%v) = %+v, %t", j.x, v, ok)
	}
	for done := range ticks {
		if done < 4 || done%17 == 0 {
			expectRunVm(t, j.x, inputs, most, done, v, true)
		}
		if v.Code != 0 {
			break
		}
		v, _ = checkStep(t, j, inputs, most, v)
	}
	expectRunVm(t, j.x, inputs, most, ticks, v, true)
	if v.Code != 0 {
		expectRunVm(t, j.x, inputs, most, 60000, v, true)
	}
	return v
}

func TestMachinesAreAsTold(t *testing.T) {
	if impl.MaxTicks != 60000 || impl.MdRun != 0 || impl.MdReturn != 1 || impl.MdPanic != 2 || impl.MdExit != 3 {
		t.Error(impl.MaxTicks, impl.MdRun, impl.MdReturn, impl.MdPanic, impl.MdExit)
	}
	if impl.NtPut != 1 || impl.NtOff != 2 || impl.NtEnd != 3 {
		t.Error(impl.NtPut, impl.NtOff, impl.NtEnd)
	}
}

func TestNewVm(t *testing.T) {
	for _, c := range []struct {
		x     impl.Image
		vars  []int
		flags []bool
	}{
		{image("end"), nil, nil},
		{image("0 6: end", "2 2: end"), numbers(0, 0, 0, 0, 0, 0), nil},
		{image("0 2: put 1; end | | 0 0 1", "end | | 0"), numbers(0, 0), []bool{false, false, false}},
		{image("end | | 0 0 0 0"), nil, []bool{false, false, false, false}},
	} {
		want := impl.Vm{Frames: []impl.Frame{{Vars: c.vars, Flags: c.flags, Base: impl.MdReturn}}, Made: 1}
		v, ok := impl.NewVm(c.x)
		if !alikeVm(v, want) || !ok {
			t.Errorf("NewVm(%v) = %+v, %t, want %+v", c.x, v, ok, want)
		}
		if !impl.GoodVm(c.x, v) || !judgeOf(c.x).goodVm(v) {
			t.Errorf("not good: %+v", v)
		}
		expectRunVm(t, c.x, nil, 1, 0, want, true)
	}
}

// notGoodImages are no images for a machine, for each fault and each size.
func notGoodImages() []impl.Image {
	return append(notSized(),
		image("1 1: end"), image("2 6: end"), image("var 0; drop; end"), image("end", "put 0; end"), image("call 1; drop; end | 0 1 2"), image("end | | 1"), image("end | | 1", "1 1: end"),
		image("end", "jump 2; end"), image("num 1"), image("end | 0 0 0"), image("end | 0 1 1"), image("drop; end"), image("end", "num 1; jump 0"), image("leave; end"), image("exit; end | 0 1 0"), image("num 1; end"))
}

func TestMachinesOfImagesThatAreNotGood(t *testing.T) {
	good, _ := impl.NewVm(image("end"))
	for _, x := range notGoodImages() {
		j := judgeOf(x)
		if j.good {
			t.Fatalf("good: %v", x)
		}
		if v, ok := impl.NewVm(x); !alikeVm(v, impl.Vm{}) || ok {
			t.Errorf("NewVm(%v) = %+v, %t", x, v, ok)
		}
		expectRunVm(t, x, nil, 12, 0, impl.Vm{}, false)
		expectRunVm(t, x, nil, 12, 60000, impl.Vm{}, false)
		for _, v := range []impl.Vm{good, {}, {Code: impl.OcDone}, {Code: impl.OcDeep}, {Frames: []impl.Frame{{Base: 1}}}} {
			checkStep(t, j, nil, 12, v)
		}
	}
}

// frameAt is a frame as a new one, but at another place, with a pile.
func frameAt(x impl.Image, fn, at int, pile ...int) impl.Frame {
	c := x.Codes[fn]
	return impl.Frame{Fn: fn, At: at, Pile: pile, Vars: make([]int, c.Vars), Flags: make([]bool, len(c.Sites)), Base: impl.MdReturn}
}

// offAt is a frame that was called as one put off.
func offAt(x impl.Image, fn, at int, pile ...int) impl.Frame {
	f := frameAt(x, fn, at, pile...)
	f.Off = true
	return f
}

// machine has frames with Ids from 7 on, and of all else something.
func machine(frames ...impl.Frame) impl.Vm {
	for k := range frames {
		frames[k].Id = 7 + k
	}
	return impl.Vm{Frames: frames, Trace: numbers(31, -32), Used: 2, Value: 33, Made: 20, Notes: []impl.Note{{Kind: 1, Id: 5, Site: 3}}}
}

// stepCase has what is changed by the step; top is the last frame ahead of it, and the frame in its place behind it.
type stepCase struct {
	name  string
	x     impl.Image
	v     impl.Vm
	after func(v *impl.Vm, top *impl.Frame)
}

var fourInputs = []int{11, 12, 13, least}

func checkStepCases(t *testing.T, cases []stepCase) {
	t.Helper()
	for _, c := range cases {
		if j := judgeOf(c.x); !j.good || !j.goodVm(c.v) {
			t.Fatalf("%s: not good: %v, %+v", c.name, c.x, c.v)
		}
		want := cloneVm(c.v)
		c.after(&want, &want.Frames[len(want.Frames)-1])
		got, ok := impl.StepVm(c.x, fourInputs, 12, c.v)
		if !ok || !alikeVm(got, want) {
			t.Errorf("%s: %+v, %t, want %+v", c.name, got, ok, want)
		}
		checkStep(t, judgeOf(c.x), fourInputs, 12, c.v)
	}
}

// goesOnWith is what most instructions do: they go on with the place behind, with this pile.
func goesOnWith(pile ...int) func(v *impl.Vm, top *impl.Frame) {
	return func(v *impl.Vm, top *impl.Frame) {
		top.Pile = pile
		top.At++
	}
}

func TestNumbersAndVariables(t *testing.T) {
	some := image("0 2: num 2147483647; var 1; set 0; set 1; num -2147483648; print; var 0; drop; end")
	at := func(place int, pile ...int) impl.Vm {
		f := frameAt(some, 0, place, pile...)
		f.Vars = numbers(5, 6)
		return machine(f)
	}
	checkStepCases(t, []stepCase{
		{"num", some, at(0), goesOnWith(greatest)},
		{"var", some, at(1, 4), goesOnWith(4, 6)},
		{"set", some, at(2, 4, 9), func(_ *impl.Vm, top *impl.Frame) { top.Pile, top.At, top.Vars = numbers(4), 3, numbers(9, 6) }},
		{"set another one", some, at(3, 4), func(_ *impl.Vm, top *impl.Frame) { top.Pile, top.At, top.Vars = nil, 4, numbers(5, 4) }},
		{"num below 0", some, at(4), goesOnWith(least)},
		{"print", some, at(5, 8), func(v *impl.Vm, top *impl.Frame) { top.Pile, top.At, v.Trace = nil, 6, numbers(31, -32, 8) }},
		{"var 0", some, at(6), goesOnWith(5)},
		{"drop", some, at(7, 8), goesOnWith()},
	})
	two := image("num 1; num 2; print; drop; num 1; num 2; result; result; num 1; num 2; drop; print; end")
	checkStepCases(t, []stepCase{
		{"print of two", two, machine(frameAt(two, 0, 2, 4, 5)), func(v *impl.Vm, top *impl.Frame) { top.Pile, top.At, v.Trace = numbers(4), 3, numbers(31, -32, 5) }},
		{"result of two", two, machine(frameAt(two, 0, 6, 4, 5)), func(_ *impl.Vm, top *impl.Frame) { top.Pile, top.At, top.Result = numbers(4), 7, 5 }},
		{"drop of two", two, machine(frameAt(two, 0, 10, 4, 5)), goesOnWith(4)},
	})
}

func TestReckoning(t *testing.T) {
	for _, c := range []struct {
		word    string
		x, y, n int
	}{
		{"+", 7, 2, 9}, {"-", 7, 2, 5}, {"*", 7, 2, 14}, {"/", 7, 2, 3}, {"<", 7, 2, 0}, {"=", 7, 2, 0}, {"/", -7, 2, -3}, {"<", 2, 7, 1}, {"=", 7, 7, 1},
		{"+", greatest, 1, least}, {"-", least, 1, greatest}, {"*", 65536, 65536, 0}, {"/", least, -1, least}, {"/", 0, 5, 0},
	} {
		x := image(fmt.Sprintf("num 0; num 0; num 0; reckon %d; drop; drop; leave; end | 0 7 7", 3+strings.Index("+-*/<=", c.word)))
		checkStepCases(t, []stepCase{{c.word, x, machine(frameAt(x, 0, 3, 41, c.x, c.y)), goesOnWith(41, c.n)}})
	}
}

// inMode has the last frame with a mode and a base, and what is to be kept.
func inMode(v impl.Vm, mode, base int) impl.Vm {
	v = cloneVm(v)
	f := &v.Frames[len(v.Frames)-1]
	f.Mode, f.Base, f.Value, f.Result = mode, base, 51, 52
	return v
}

// modesAndBases are all that a good frame may have.
func modesAndBases() [][2]int {
	var l [][2]int
	for mode := impl.MdRun; mode <= impl.MdExit; mode++ {
		l = append(l, [2]int{mode, impl.MdReturn}, [2]int{mode, impl.MdExit})
	}
	return l
}

func TestWhatRaises(t *testing.T) {
	x := image("0 1: num 1; num 2; num 3; reckon 6; num 4; panic; exit; leave; put 0; leave; off 0; end | 0 2 9, 2 4 8, 4 8 9, 9 10 10, 10 11 11 | 0")
	at := func(place int, pile ...int) impl.Vm {
		f := frameAt(x, 0, place, pile...)
		f.Vars[0], f.Flags[0] = 53, true
		return machine(f)
	}
	for _, m := range modesAndBases() {
		mode, base := m[0], m[1]
		raises := func(mode, n, base, pad int) func(v *impl.Vm, top *impl.Frame) {
			return func(v *impl.Vm, top *impl.Frame) {
				top.Mode, top.Value, top.Base, top.Pile, top.At = mode, n, base, nil, pad
			}
		}
		name := fmt.Sprintf(" in mode %d over %d", mode, base)
		checkStepCases(t, []stepCase{
			{"x / 0" + name, x, inMode(at(3, 4, 5, 0), mode, base), raises(impl.MdPanic, -1, base, 8)},
			{"0 / 0" + name, x, inMode(at(3, 4, 0, 0), mode, base), raises(impl.MdPanic, -1, base, 8)},
			{"panic" + name, x, inMode(at(5, 4, 3, 6), mode, base), raises(impl.MdPanic, 6, base, 9)},
			{"panic 0" + name, x, inMode(at(5, 4, 3, 0), mode, base), raises(impl.MdPanic, 0, base, 9)},
		})
	}
}

// TestExitAndLeave has places with another row each.
func TestExitAndLeave(t *testing.T) {
	x := image("input; unless 3; exit; put 0; leave; exit; leave; off 0; end | 0 3 6, 4 5 7, 6 7 7, 7 8 8 | 0")
	for _, m := range modesAndBases() {
		mode, base := m[0], m[1]
		name := fmt.Sprintf(" in mode %d over %d", mode, base)
		f := frameAt(x, 0, 2)
		f.Flags[0] = true
		leaves := func(pad int) func(v *impl.Vm, top *impl.Frame) {
			return func(v *impl.Vm, top *impl.Frame) { top.Mode, top.At = impl.MdReturn, pad }
		}
		checkStepCases(t, []stepCase{
			{"exit" + name, x, inMode(machine(f), mode, base), func(v *impl.Vm, top *impl.Frame) {
				top.Mode, top.Value, top.Base, top.At = impl.MdExit, 0, impl.MdExit, 6
			}},
			{"leave" + name, x, inMode(machine(frameAt(x, 0, 4)), mode, base), leaves(7)},
			{"leave at a pad" + name, x, inMode(machine(frameAt(x, 0, 6)), mode, base), leaves(7)},
		})
	}
}

func TestJumps(t *testing.T) {
	goesTo := func(at int, pile ...int) func(v *impl.Vm, top *impl.Frame) {
		return func(v *impl.Vm, top *impl.Frame) { top.At, top.Pile = at, pile }
	}
	x := image("num 1; input; unless 5; drop; jump 0; drop; end")
	y := image("jump 2; end; jump 1", "0 1: input; unless 0; jump 2", "input; unless 2; end")
	checkStepCases(t, []stepCase{
		{"back", x, machine(frameAt(x, 0, 4)), goesTo(0)},
		{"unless 0", x, machine(frameAt(x, 0, 2, 3, 0)), goesTo(5, 3)},
		{"unless 1", x, machine(frameAt(x, 0, 2, 3, 1)), goesTo(3, 3)},
		{"unless -1", x, machine(frameAt(x, 0, 2, 3, -1)), goesTo(3, 3)},
		{"unless 0, below it", x, machine(frameAt(x, 0, 2, 0, 4)), goesTo(3, 0)},
		{"ahead", y, machine(frameAt(y, 0, 0)), goesTo(2)},
		{"to itself", y, machine(frameAt(y, 1, 2)), goesTo(2)},
		{"unless 0, back", y, machine(frameAt(y, 1, 1, 0)), goesTo(0)},
		{"unless 5, not back", y, machine(frameAt(y, 1, 1, 5)), goesTo(2)},
		{"unless 0, to the place behind", y, machine(frameAt(y, 2, 1, 0)), goesTo(2)},
		{"unless 5, to the place behind", y, machine(frameAt(y, 2, 1, 5)), goesTo(2)},
	})
}

func TestInputsOfMachines(t *testing.T) {
	x := image("num 5; input; drop; drop; end")
	j := judgeOf(x)
	ten := numbers(1, 2, 3, 4, 5, 6, 7, 8, 9, greatest)
	for _, c := range []struct {
		inputs       []int
		used, n, now int
	}{
		{nil, 0, 0, 0}, {numbers(4), 0, 4, 1}, {numbers(4), 1, 0, 1}, {numbers(4, 0, 6), 1, 0, 2}, {numbers(4, 0, 6), 2, 6, 3}, {numbers(4, 0, 6), 3, 0, 3},
		// More were taken than there are.
		{nil, 1, 0, 1}, {numbers(4, 5), 3, 0, 3}, {numbers(4, 5), 10, 0, 10}, {nil, 10, 0, 10},
		{ten, 0, 1, 1}, {ten, 9, greatest, 10}, {ten, 10, 0, 10},
	} {
		v := machine(frameAt(x, 0, 1, 8))
		v.Used = c.used
		want := cloneVm(v)
		want.Frames[0].Pile, want.Frames[0].At, want.Used = numbers(8, c.n), 2, c.now
		got, ok := impl.StepVm(x, c.inputs, 12, v)
		if !ok || !alikeVm(got, want) {
			t.Errorf("%v, %d used: %+v, %t", c.inputs, c.used, got, ok)
		}
		checkStep(t, j, c.inputs, 12, v)
	}
	y := image("input; print; input; print; input; print; end")
	if v := checkRunVm(t, judgeOf(y), numbers(8, 9), 1, 10); !slices.Equal(v.Trace, numbers(8, 9, 0)) || v.Used != 2 {
		t.Errorf("%+v", v)
	}
}

// callers calls codes with 0, 1 and 2 Params, and puts off others.
func callers() impl.Image {
	return image(
		"0 1: num 9; num 8; num 7; call 3; call 2; call 1; drop; drop; drop; put 1; put 0; leave; off 1; off 0; end | 0 12 12, 12 13 13, 13 14 14 | 4 1",
		"recover; result; leave; end | 0 3 3", "1 4: input; result; leave; off 0; end | 0 3 3, 3 4 4 | 1", "2 3: recover; result; leave; end | 0 3 3", "0 2: recover; panic; leave; off 1; off 0; end | 0 3 3, 3 4 4, 4 5 5 | 1 1")
}

func TestCalls(t *testing.T) {
	x := callers()
	begins := func(pile []int, f impl.Frame) func(v *impl.Vm, top *impl.Frame) {
		return func(v *impl.Vm, top *impl.Frame) {
			top.Pile = pile
			f.Id, v.Made = 20, 21
			v.Frames = append(v.Frames, f)
		}
	}
	for _, m := range modesAndBases() {
		mode, base := m[0], m[1]
		name := fmt.Sprintf(" in mode %d over %d", mode, base)
		checkStepCases(t, []stepCase{
			{"call of two" + name, x, inMode(machine(frameAt(x, 0, 3, 4, 5, 6)), mode, base), begins(numbers(4), impl.Frame{Fn: 3, Vars: numbers(5, 6, 0), Base: impl.MdReturn})},
			{"call of one" + name, x, inMode(machine(frameAt(x, 0, 4, 4, 5)), mode, base), begins(numbers(4), impl.Frame{Fn: 2, Vars: numbers(5, 0, 0, 0), Flags: []bool{false}, Base: impl.MdReturn})},
			{"call of none" + name, x, inMode(machine(frameAt(x, 0, 5, 4, 5)), mode, base), begins(numbers(4, 5), impl.Frame{Fn: 1, Base: impl.MdReturn})},
		})
	}
	self := image("0 1: num 3; set 0; call 0; drop; end | 0 3 4")
	f := frameAt(self, 0, 2)
	f.Vars[0], f.Result = 3, 4
	checkStepCases(t, []stepCase{{"call of itself", self, machine(f), begins(nil, impl.Frame{Vars: numbers(0), Base: impl.MdReturn})}})
}

func TestPutAndOff(t *testing.T) {
	x := callers()
	at := func(place int, flags ...bool) impl.Vm {
		f := frameAt(x, 0, place)
		f.Flags = flags
		return machine(f)
	}
	sets := func(site int, flags ...bool) func(v *impl.Vm, top *impl.Frame) {
		return func(v *impl.Vm, top *impl.Frame) {
			top.Flags = flags
			top.At++
			v.Notes = append(v.Notes, impl.Note{Kind: impl.NtPut, Id: 7, Site: site})
		}
	}
	begins := func(site int, fn int, flags ...bool) func(v *impl.Vm, top *impl.Frame) {
		return func(v *impl.Vm, top *impl.Frame) {
			top.Flags = flags
			v.Notes = append(v.Notes, impl.Note{Kind: impl.NtOff, Id: 7, Site: site})
			f := offAt(x, fn, 0)
			f.Id, v.Made = 20, 21
			v.Frames = append(v.Frames, f)
		}
	}
	for _, m := range modesAndBases() {
		mode, base := m[0], m[1]
		name := fmt.Sprintf(" in mode %d over %d", mode, base)
		checkStepCases(t, []stepCase{
			{"put 1" + name, x, inMode(at(9, false, false), mode, base), sets(1, false, true)},
			{"put 0" + name, x, inMode(at(10, false, false), mode, base), sets(0, true, false)},
			{"put 1, behind put 0" + name, x, inMode(at(9, true, false), mode, base), sets(1, true, true)},
			{"put 1, again" + name, x, inMode(at(9, false, true), mode, base), sets(1, false, true)},
			{"off 1" + name, x, inMode(at(12, false, true), mode, base), begins(1, 1, false, false)},
			{"off 0" + name, x, inMode(at(13, true, false), mode, base), begins(0, 4, false, false)},
			{"off 1 ahead of off 0" + name, x, inMode(at(12, true, true), mode, base), begins(1, 1, true, false)},
			{"off 0 with both" + name, x, inMode(at(13, true, true), mode, base), begins(0, 4, false, true)},
			{"off 1, not set" + name, x, inMode(at(12, false, false), mode, base), goesOnWith()},
			{"off 1, another one set" + name, x, inMode(at(12, true, false), mode, base), goesOnWith()},
			{"off 0, not set" + name, x, inMode(at(13, false, false), mode, base), goesOnWith()},
			{"off 0, another one set" + name, x, inMode(at(13, false, true), mode, base), goesOnWith()},
		})
	}
}

// TestCallsThatAreTooDeep has machines of each height with each most, at a call and at what is put off.
func TestCallsThatAreTooDeep(t *testing.T) {
	x := image("0 1: num 3; call 1; drop; leave; off 0; end | 0 4 4, 4 5 5 | 0", "1 2: num 4; call 1; drop; leave; end | 0 4 4")
	j := judgeOf(x)
	for _, off := range []bool{false, true} {
		for many := 1; many <= 13; many++ {
			frames := []impl.Frame{}
			for len(frames) < many {
				switch {
				case off:
					frames = append(frames, offAt(x, 0, 4))
				case len(frames) == 0:
					frames = append(frames, frameAt(x, 0, 1))
				default:
					frames = append(frames, frameAt(x, 1, 1))
				}
			}
			frames[0].Off = false
			last := &frames[many-1]
			if off {
				last.Flags[0] = true
			} else {
				last.Pile = numbers(44)
			}
			v := machine(frames...)
			for most := range 15 {
				got, ok := checkStep(t, j, fourInputs, most, v)
				if ok != (most >= 1 && most <= 12 && many <= most) {
					t.Fatalf("%d frames, most %d: %t", many, most, ok)
				}
				want := cloneVm(v)
				want.Code = impl.OcDeep
				if ok && alikeVm(got, want) != (many == most) {
					t.Fatalf("%d frames, most %d: %+v", many, most, got)
				}
				if ok && many < most && len(got.Frames) != many+1 {
					t.Fatalf("%d frames, most %d: %+v", many, most, got)
				}
			}
		}
	}
	// Where the flag is not set nothing is called.
	v := machine(frameAt(x, 0, 4))
	if got, ok := checkStep(t, j, nil, 1, v); !ok || got.Code != 0 || got.Frames[0].At != 5 {
		t.Errorf("%+v, %t", got, ok)
	}
	for most := 1; most <= 12; most++ {
		got := checkRunVm(t, j, nil, most, 100)
		if got.Code != impl.OcDeep || len(got.Frames) != most || got.Made != most || !slices.Equal(got.Frames[most-1].Pile, numbers([]int{3, 4}[min(most-1, 1)])) {
			t.Errorf("most %d: %+v", most, got)
		}
	}
}

func TestRecover(t *testing.T) {
	x := callers()
	for _, m := range modesAndBases() {
		mode, base := m[0], m[1]
		under := inMode(machine(frameAt(x, 0, 12)), mode, base).Frames[0]
		caller := inMode(machine(frameAt(x, 0, 5, 4, 5)), mode, base).Frames[0]
		name := fmt.Sprintf(" over mode %d, base %d", mode, base)
		after := goesOnWith(0)
		if mode == impl.MdPanic {
			after = func(v *impl.Vm, top *impl.Frame) {
				top.Pile, top.At = numbers(51), 1
				v.Frames[0].Mode = base
			}
		}
		checkStepCases(t, []stepCase{
			{"put off" + name, x, machine(under, offAt(x, 1, 0)), after},
			{"called" + name, x, machine(caller, frameAt(x, 1, 0)), goesOnWith(0)},
		})
	}
	first := image("num 3; recover; drop; drop; end")
	for _, m := range modesAndBases() {
		checkStepCases(t, []stepCase{{"the first frame", first, inMode(machine(frameAt(first, 0, 1, 3)), m[0], m[1]), goesOnWith(3, 0)}})
	}
}

// TestRecoverLooksAtTheFrameBelow has three frames, each with each mode: what the outermost one does, and what the last one does itself, is of no account.
func TestRecoverLooksAtTheFrameBelow(t *testing.T) {
	x := callers()
	for _, far := range modesAndBases() {
		for _, near := range modesAndBases() {
			for _, top := range modesAndBases() {
				v := inMode(machine(frameAt(x, 0, 13), offAt(x, 4, 3), offAt(x, 1, 0)), top[0], top[1])
				v.Frames[0].Mode, v.Frames[0].Base, v.Frames[0].Value = far[0], far[1], 61
				v.Frames[1].Mode, v.Frames[1].Base, v.Frames[1].Value = near[0], near[1], 62
				after := goesOnWith(0)
				if near[0] == impl.MdPanic {
					after = func(v *impl.Vm, top *impl.Frame) {
						top.Pile, top.At = numbers(62), 1
						v.Frames[1].Mode = near[1]
					}
				}
				checkStepCases(t, []stepCase{{fmt.Sprint(far, near, top), x, v, after}})
				// A call in between: nothing is recovered.
				y := image("call 1; drop; leave; off 0; end | 0 3 3, 3 4 4 | 1", "call 2; drop; leave; end | 0 3 3", "recover; drop; end")
				w := inMode(machine(frameAt(y, 0, 3), offAt(y, 1, 0), frameAt(y, 2, 0)), top[0], top[1])
				w.Frames[0].Mode, w.Frames[0].Base, w.Frames[1].Mode, w.Frames[1].Base = far[0], far[1], near[0], near[1]
				checkStepCases(t, []stepCase{{fmt.Sprint(far, near, top), y, w, goesOnWith(0)}})
			}
		}
	}
}

func TestEndOfTheFirstFrame(t *testing.T) {
	x := image("0 2: leave; end | 0 1 1 | 0")
	f := frameAt(x, 0, 1)
	f.Vars, f.Flags[0] = numbers(5, 6), true
	for _, m := range modesAndBases() {
		mode := m[0]
		v := inMode(machine(f), mode, m[1])
		want := cloneVm(v)
		want.Frames = nil
		want.Notes = append(want.Notes, impl.Note{Kind: impl.NtEnd, Id: 7})
		want.Code = []int{impl.OcDone, impl.OcDone, impl.OcPanic, impl.OcExit}[mode]
		want.Value = []int{52, 52, 51, 0}[mode]
		got, ok := checkStep(t, judgeOf(x), nil, 1, v)
		if !ok || !alikeVm(got, want) {
			t.Errorf("mode %d: %+v, %t", mode, got, ok)
		}
		o, ok := impl.EndOf(got)
		if !ok || !alike(o, impl.Outcome{Code: want.Code, Value: want.Value, Trace: numbers(31, -32), Used: 2}) {
			t.Errorf("mode %d: %+v, %t", mode, o, ok)
		}
	}
}

// TestEndAboveAnotherFrame has each mode above a frame in each mode, which is at a call or at what it put off.
func TestEndAboveAnotherFrame(t *testing.T) {
	x := image("0 1: num 1; num 2; call 1; drop; drop; leave; put 0; leave; off 0; num 3; drop; end | 0 3 6, 3 6 8, 6 8 8, 8 9 9 | 2", "1 1: leave; end | 0 1 1", "0 3: leave; end | 0 1 1 | 0")
	for _, below := range modesAndBases() {
		for _, above := range modesAndBases() {
			for _, off := range []bool{false, true} {
				under, top, pad := frameAt(x, 0, 2, 41), frameAt(x, 1, 1), 6
				if off {
					under, top, pad = frameAt(x, 0, 8), offAt(x, 2, 1), 9
				}
				under.Vars[0], under.Flags[0] = 71, true
				under.Mode, under.Base, under.Value, under.Result = below[0], below[1], 72, 73
				after := func(v *impl.Vm, top *impl.Frame) {
					v.Notes = append(v.Notes, impl.Note{Kind: impl.NtEnd, Id: 8})
					v.Frames = v.Frames[:1]
					f := &v.Frames[0]
					switch {
					case above[0] == impl.MdPanic:
						f.Mode, f.Value, f.Pile, f.At = impl.MdPanic, 51, nil, pad
					case above[0] == impl.MdExit:
						f.Mode, f.Value, f.Base, f.Pile, f.At = impl.MdExit, 0, impl.MdExit, nil, pad
					case off:
						f.At = 9
					default:
						f.Pile, f.At = numbers(41, 52), 3
					}
				}
				checkStepCases(t, []stepCase{{fmt.Sprint(below, above, off), x, inMode(machine(under, top), above[0], above[1]), after}})
			}
		}
	}
}

func notesText(notes []impl.Note) string {
	var words []string
	for _, n := range notes {
		word := fmt.Sprintf("%c%d", " +-."[n.Kind], n.Id)
		if n.Kind != impl.NtEnd {
			word += fmt.Sprintf("/%d", n.Site)
		}
		words = append(words, word)
	}
	return strings.Join(words, " ")
}

// TestRunsOfPrograms has whole runs: what comes of them, what was noted, and how many frames were made.
func TestRunsOfPrograms(t *testing.T) {
	for _, c := range []struct {
		p      impl.Prog
		inputs []int
		text   string
		notes  string
		made   int
	}{
		{written(""), nil, "done 0:", ".0", 1},
		{written("print in; return in"), numbers(4, 5), "done 5: 4", ".0", 1},
		{written("panic 7"), nil, "panic 7:", ".0", 1},
		{written("print 1 0 /"), nil, "panic -1:", ".0", 1},
		{written("exit"), nil, "exit 0:", ".0", 1},
		{written("print 3 4 f1", "2 3: return v0 v1 -"), nil, "done 0: -1", ".1 .0", 2},
		{written("do f0"), nil, "deep 0:", "", 12},
		{written("defer 1; defer 2; print 0", "print 1", "print 2"), nil, "done 0: 0 2 1", "+0/0 +0/1 -0/1 .1 -0/0 .2 .0", 3},
		{written("defer 1; defer 2; panic 40", "print rec", "print 5"), nil, "done 0: 5 40", "+0/0 +0/1 -0/1 .1 -0/0 .2 .0", 3},
		{written("defer 2; defer 1; panic 40", "panic 41", "print rec"), nil, "done 0: 41", "+0/0 +0/1 -0/1 .1 -0/0 .2 .0", 3},
		// The exit is not gone where the panic behind it is recovered, but has no number.
		{written("defer 2; defer 1; exit", "panic 41", "print rec"), nil, "exit 0: 41", "+0/0 +0/1 -0/1 .1 -0/0 .2 .0", 3},
		{written("defer 1; print f2", "print rec", "defer 4; defer 3; exit", "panic 8", "print rec"), nil, "exit 0: 8 0", "+0/0 +1/0 +1/1 -1/1 .2 -1/0 .3 .1 -0/0 .4 .0", 5},
		{written("defer 1; panic 3", "do f2", "print rec"), nil, "panic 3: 0", "+0/0 -0/0 .2 .1 .0", 3},
		{written("if in { defer 1 } else { defer 2 }; return 6", "print 1", "print 2"), numbers(0), "done 6: 2", "+0/1 -0/1 .1 .0", 2},
		{written("0 1: set 0 3; while v0 { print v0; set 0 v0 1 - }"), nil, "done 0: 3 2 1", ".0", 1},
	} {
		x, _ := impl.LowerProg(c.p)
		v := checkRunVm(t, judgeOf(x), c.inputs, 12, 200)
		o, ok := impl.EndOf(v)
		text, _ := impl.OutcomeText(o)
		if text != c.text || notesText(v.Notes) != c.notes || v.Made != c.made || !ok {
			t.Errorf("%v: %q, %q, %d made, want %q, %q, %d", c.p, text, notesText(v.Notes), v.Made, c.text, c.notes, c.made)
		}
	}
}

// tall is a machine of three frames: one at a call, one at what it put off, one within that; each is good with other fields than those of a new one.
func tall() (impl.Image, impl.Vm) {
	x := image(
		"0 2: num 3; num 4; call 1; reckon 3; print; put 0; leave; num 1; off 0; end | 0 7 9, 8 9 9 | 2", "1 2: put 1; leave; off 1; off 0; end | 0 2 2, 2 3 3, 3 4 4 | 2 2",
		"num 5; num 6; num 7; drop; drop; print; end", "1 2: put 0; leave; off 0; end | 0 2 2, 2 3 3 | 2", "num 1; drop; end")
	v := machine(frameAt(x, 0, 2, 3), frameAt(x, 1, 2), offAt(x, 2, 3, 5, 6, 7))
	return x, v
}

// vmEdit changes one thing of the machine of tall.
type vmEdit struct {
	name string
	edit func(v *impl.Vm)
	good bool
}

// numberEdits set a number, with which it is good just within from..to.
func numberEdits(name string, from, to int, field func(v *impl.Vm) *int) []vmEdit {
	var l []vmEdit
	for _, n := range append(someInts(), from-1, from, from+1, to-1, to, to+1) {
		l = append(l, vmEdit{fmt.Sprint(name, " is ", n), func(v *impl.Vm) { *field(v) = n }, n >= from && n <= to})
	}
	return l
}

func checkEdits(t *testing.T, edits []vmEdit) {
	t.Helper()
	x, v := tall()
	j := judgeOf(x)
	if !checkGoodVm(t, j, v) {
		t.Fatal("not good")
	}
	for _, e := range edits {
		w := cloneVm(v)
		e.edit(&w)
		if ok := impl.GoodVm(x, w); ok != e.good {
			t.Errorf("%s: GoodVm tells %t", e.name, ok)
		}
		if _, ok := checkStep(t, j, fourInputs, 12, w); ok != (e.good && w.Code == 0 && w.Made < 1000000) {
			t.Errorf("%s: StepVm tells %t", e.name, ok)
		}
	}
}

func TestBoundsOfMachines(t *testing.T) {
	var edits []vmEdit
	add := func(name string, from, to int, field func(v *impl.Vm) *int) {
		edits = append(edits, numberEdits(name, from, to, field)...)
	}
	add("Used", 0, 10, func(v *impl.Vm) *int { return &v.Used })
	add("Made", 0, 1000000, func(v *impl.Vm) *int { return &v.Made })
	add("Value", least, greatest, func(v *impl.Vm) *int { return &v.Value })
	for k := range 2 {
		add("of Trace", least, greatest, func(v *impl.Vm) *int { return &v.Trace[k] })
	}
	add("Kind of a note", math.MinInt, math.MaxInt, func(v *impl.Vm) *int { return &v.Notes[0].Kind })
	add("Id of a note", math.MinInt, math.MaxInt, func(v *impl.Vm) *int { return &v.Notes[0].Id })
	add("Site of a note", math.MinInt, math.MaxInt, func(v *impl.Vm) *int { return &v.Notes[0].Site })
	for k := range 3 {
		name := fmt.Sprintf("frame %d: ", k)
		add(name+"Id", least, greatest, func(v *impl.Vm) *int { return &v.Frames[k].Id })
		add(name+"Result", least, greatest, func(v *impl.Vm) *int { return &v.Frames[k].Result })
		add(name+"Value", least, greatest, func(v *impl.Vm) *int { return &v.Frames[k].Value })
		add(name+"Mode", 0, 3, func(v *impl.Vm) *int { return &v.Frames[k].Mode })
		add(name+"Fn", k, k, func(v *impl.Vm) *int { return &v.Frames[k].Fn })
		add(name+"At", []int{2, 2, 3}[k], []int{2, 3, 3}[k], func(v *impl.Vm) *int { return &v.Frames[k].At })
		for n := range []int{1, 0, 3}[k] {
			add(name+"of Pile", least, greatest, func(v *impl.Vm) *int { return &v.Frames[k].Pile[n] })
		}
		for n := range []int{2, 2, 0}[k] {
			add(name+"of Vars", least, greatest, func(v *impl.Vm) *int { return &v.Frames[k].Vars[n] })
		}
		for _, base := range append(someInts(), 4) {
			edits = append(edits, vmEdit{fmt.Sprint(name, "Base is ", base), func(v *impl.Vm) { v.Frames[k].Base = base }, base == 1 || base == 3})
		}
	}
	checkEdits(t, edits)
	more := []vmEdit{
		{"no note", func(v *impl.Vm) { v.Notes = nil }, true}, {"no Trace", func(v *impl.Vm) { v.Trace = nil }, true},
		{"a second note", func(v *impl.Vm) { v.Notes = append(v.Notes, impl.Note{Kind: 3, Id: greatest + 1}) }, true},
		{"many notes", func(v *impl.Vm) { v.Notes = slices.Repeat(v.Notes, 3001) }, true}, {"a long Trace", func(v *impl.Vm) { v.Trace = make([]int, 70000) }, true},
	}
	checkEdits(t, more)
}

// oddNotes are notes that no run makes: of each number by itself, and of all at once.
func oddNotes() []impl.Note {
	l := []impl.Note{{}, {Kind: 7, Id: -1, Site: 99}, {Kind: math.MinInt, Id: math.MaxInt, Site: math.MinInt}}
	for _, n := range someInts() {
		l = append(l, impl.Note{Kind: n}, impl.Note{Kind: impl.NtPut, Id: n}, impl.Note{Kind: impl.NtOff, Site: n}, impl.Note{Kind: n, Id: n, Site: n})
	}
	return l
}

// TestGoodMachinesHaveAnyNotes has them in machines that go on, and in those that have ended.
func TestGoodMachinesHaveAnyNotes(t *testing.T) {
	x, high := tall()
	first, _ := impl.NewVm(x)
	machines := []impl.Vm{first, high}
	for code := impl.OcDone; code <= impl.OcDeep; code++ {
		machines = append(machines, impl.Vm{Code: code})
	}
	for _, v := range machines {
		for _, n := range oddNotes() {
			v.Notes = []impl.Note{n}
			if !impl.GoodVm(x, v) {
				t.Errorf("not good with the note %v: %+v", n, v)
			}
		}
		if v.Notes = oddNotes(); !impl.GoodVm(x, v) {
			t.Errorf("not good with all of the notes: %+v", v)
		}
		// They do not make good what is not.
		if v.Used = -1; impl.GoodVm(x, v) {
			t.Errorf("good: %+v", v)
		}
	}
}

// TestStepsKeepAnyNotes has the notes of the steps, of each kind, behind one that was there.
func TestStepsKeepAnyNotes(t *testing.T) {
	x, _ := impl.LowerProg(written("defer 1; defer 2; panic 40", "print rec", "print 5"))
	for _, n := range oddNotes() {
		v, _ := impl.NewVm(x)
		v.Notes = []impl.Note{n}
		for done := 1; v.Code == 0; done++ {
			want, _ := impl.RunVm(x, nil, 6, done)
			want.Notes = append([]impl.Note{n}, want.Notes...)
			w, ok := impl.StepVm(x, nil, 6, v)
			if !ok || !alikeVm(w, want) || !impl.GoodVm(x, w) {
				t.Fatalf("step %d with the note %v: %+v, %t, want %+v", done, n, w, ok, want)
			}
			v = w
		}
		if len(v.Notes) != 8 {
			t.Errorf("with the note %v: %v", n, v.Notes)
		}
	}
}

func TestCodesOfMachines(t *testing.T) {
	var edits []vmEdit
	for _, code := range append(someInts(), 4, 5) {
		edits = append(edits,
			vmEdit{fmt.Sprint("Code ", code), func(v *impl.Vm) { v.Code = code }, code == 0 || code == 4},
			vmEdit{fmt.Sprint("no frames, Code ", code), func(v *impl.Vm) { v.Code, v.Frames = code, nil }, code >= 1 && code <= 4},
			vmEdit{fmt.Sprint("no frames, no list, Code ", code), func(v *impl.Vm) { v.Code, v.Frames = code, []impl.Frame{} }, code >= 1 && code <= 4},
			vmEdit{fmt.Sprint("a frame that is not good, Code ", code), func(v *impl.Vm) { v.Code, v.Frames[1].At = code, 0 }, false},
		)
	}
	checkEdits(t, edits)
}

func TestFramesThatFit(t *testing.T) {
	edits := []vmEdit{
		{"the first one alone, at its call", func(v *impl.Vm) { v.Frames = v.Frames[:1] }, false},
		{"the first one alone, with what the call takes", func(v *impl.Vm) { v.Frames = v.Frames[:1]; v.Frames[0].Pile = numbers(3, 4) }, true},
		{"the second one last, at what it put off", func(v *impl.Vm) { v.Frames = v.Frames[:2] }, true},
		{"the second one first", func(v *impl.Vm) { v.Frames = v.Frames[1:] }, true},
		{"the third one first, Off", func(v *impl.Vm) { v.Frames = v.Frames[2:] }, false},
		{"the third one first, not Off", func(v *impl.Vm) { v.Frames = v.Frames[2:]; v.Frames[0].Off = false }, true},
		{"the first one Off", func(v *impl.Vm) { v.Frames[0].Off = true }, false},
		{"what is called Off", func(v *impl.Vm) { v.Frames[1].Off = true }, false},
		{"what was put off not Off", func(v *impl.Vm) { v.Frames[2].Off = false }, false},
		{"more beside what the call takes", func(v *impl.Vm) { v.Frames[0].Pile = numbers(3, 4) }, false},
		{"nothing below a call", func(v *impl.Vm) { v.Frames[0].Pile = nil }, false},
		{"something at what is put off", func(v *impl.Vm) { v.Frames[1].Pile = numbers(3) }, false},
		{"a pile too low", func(v *impl.Vm) { v.Frames[2].Pile = numbers(3, 4) }, false},
		{"a pile too high", func(v *impl.Vm) { v.Frames[2].Pile = numbers(3, 4, 5, 6) }, false},
		{"a lower pile at another place", func(v *impl.Vm) { v.Frames[2].Pile, v.Frames[2].At = numbers(3, 4), 4 }, true},
		{"another place", func(v *impl.Vm) { v.Frames[2].At = 4 }, false},
		{"the place ahead of a call", func(v *impl.Vm) { v.Frames[0].At = 1 }, false},
		{"the place behind a call", func(v *impl.Vm) { v.Frames[0].At, v.Frames[0].Pile = 3, numbers(1, 2) }, false},
		{"a place with no height", func(v *impl.Vm) { v.Frames = v.Frames[:1]; v.Frames[0].At, v.Frames[0].Pile = 7, nil }, false},
		{"an off with no height", func(v *impl.Vm) { v.Frames = v.Frames[:1]; v.Frames[0].At, v.Frames[0].Pile = 8, nil }, false},
		{"behind what was put off", func(v *impl.Vm) { v.Frames[1].At = 4 }, false},
		{"another site of the same code", func(v *impl.Vm) { v.Frames[1].At = 3 }, true},
		{"another code with the same sizes", func(v *impl.Vm) { v.Frames[2].Fn, v.Frames[2].At, v.Frames[2].Pile = 4, 1, numbers(1) }, false},
		{"more Vars", func(v *impl.Vm) { v.Frames[0].Vars = numbers(1, 2, 3) }, false},
		{"fewer Vars", func(v *impl.Vm) { v.Frames[0].Vars = numbers(1) }, false},
		{"Vars in the last one", func(v *impl.Vm) { v.Frames[2].Vars = numbers(0) }, false},
		{"no Vars", func(v *impl.Vm) { v.Frames[1].Vars = nil }, false},
		{"more Flags", func(v *impl.Vm) { v.Frames[1].Flags = make([]bool, 3) }, false},
		{"fewer Flags", func(v *impl.Vm) { v.Frames[1].Flags = make([]bool, 1) }, false},
		{"no Flags", func(v *impl.Vm) { v.Frames[0].Flags = nil }, false},
		{"Flags in the last one", func(v *impl.Vm) { v.Frames[2].Flags = make([]bool, 1) }, false},
		{"all Flags set", func(v *impl.Vm) { v.Frames[0].Flags[0], v.Frames[1].Flags = true, []bool{true, true} }, true},
		{"all Ids the same", func(v *impl.Vm) { v.Frames[0].Id, v.Frames[1].Id, v.Made = 9, 9, 0 }, true},
		{"one more above the last one", func(v *impl.Vm) { v.Frames = append(v.Frames, v.Frames[2]) }, false},
	}
	for k := range 3 {
		for mode := range 4 {
			for _, base := range numbers(1, 3) {
				edits = append(edits, vmEdit{fmt.Sprint("frame ", k, " with ", mode, " over ", base), func(v *impl.Vm) { v.Frames[k].Mode, v.Frames[k].Base = mode, base }, true})
			}
		}
	}
	checkEdits(t, edits)
}

// TestManyFrames has machines with more frames than there may ever be at once: they are good, but not stepped.
func TestManyFrames(t *testing.T) {
	x := image("call 0; drop; leave; off 0; end | 0 3 3, 3 4 4 | 0")
	j := judgeOf(x)
	for _, many := range numbers(1, 11, 12, 13, 14, 40, 41, 20000) {
		v := machine(slices.Repeat([]impl.Frame{frameAt(x, 0, 0)}, many)...)
		if !checkGoodVm(t, j, v) {
			t.Fatalf("%d frames are not good", many)
		}
		if _, ok := checkStep(t, j, nil, 12, v); ok != (many <= 12) {
			t.Fatalf("%d frames: %t", many, ok)
		}
		v.Frames[many-1].Pile = numbers(1)
		if checkGoodVm(t, j, v) {
			t.Fatalf("%d frames, the last one with a pile", many)
		}
	}
}

func TestStepsThatAreNotAsSaid(t *testing.T) {
	x, v := tall()
	j := judgeOf(x)
	expect := func(name string, inputs []int, most int, v impl.Vm, want bool) {
		t.Helper()
		if _, ok := checkStep(t, j, inputs, most, v); ok != want {
			t.Errorf("%s: %t", name, ok)
		}
	}
	for _, most := range append(someInts(), 8, 9, 10, 11, 13) {
		expect(fmt.Sprint("most ", most), fourInputs, most, v, most >= 3 && most <= 12)
		one := cloneVm(v)
		one.Frames = one.Frames[:1]
		one.Frames[0].Pile = numbers(3, 4)
		expect(fmt.Sprint("one frame, most ", most), fourInputs, most, one, most >= 1 && most <= 12)
	}
	for many := range 13 {
		expect(fmt.Sprint(many, " inputs"), upTo(many), 12, v, many <= 10)
	}
	for _, n := range someInts() {
		expect(fmt.Sprint("inputs with ", n), numbers(1, 2, n), 12, v, within(n))
	}
	for _, made := range numbers(-1, 0, 999998, 999999, 1000000, 1000001) {
		w := cloneVm(v)
		w.Made = made
		expect(fmt.Sprint("Made ", made), nil, 12, w, made >= 0 && made < 1000000)
	}
	w := cloneVm(v)
	w.Code = impl.OcDeep
	expect("at its end, too deep", nil, 12, w, false)
	w.Frames = nil
	for code := range 6 {
		w.Code = code
		expect(fmt.Sprint("at its end, by ", code), nil, 12, w, false)
	}
	expect("nothing", nil, 12, impl.Vm{}, false)
}

// TestGreatestMade has the last frame that can be made: what is made of it is good, but not stepped.
func TestGreatestMade(t *testing.T) {
	x := image("call 1; drop; leave; off 0; end | 0 3 3, 3 4 4 | 1", "end")
	j := judgeOf(x)
	off := machine(frameAt(x, 0, 3))
	off.Frames[0].Flags[0] = true
	for _, v := range []impl.Vm{machine(frameAt(x, 0, 0)), off} {
		v.Made = 999999
		got, ok := checkStep(t, j, nil, 12, v)
		if !ok || got.Made != 1000000 || len(got.Frames) != 2 || got.Frames[1].Id != 999999 || !impl.GoodVm(x, got) {
			t.Errorf("%+v, %t", got, ok)
		}
		if again, ok := checkStep(t, j, nil, 12, got); ok || !alikeVm(again, impl.Vm{}) {
			t.Errorf("%+v, %t", again, ok)
		}
	}
}

func TestRunsOfMachinesThatAreNotAsSaid(t *testing.T) {
	x := image("num 1; drop; jump 0")
	first, _ := impl.NewVm(x)
	expect := func(inputs []int, most, ticks int, there bool) {
		t.Helper()
		want := impl.Vm{}
		if there {
			want = cloneVm(first)
			want.Frames[0].At = ticks % 3
			want.Frames[0].Pile = []int{1}[:ticks%3%2]
		}
		expectRunVm(t, x, inputs, most, ticks, want, there)
	}
	for _, ticks := range append(someInts(), 59998, 59999, 60000, 60001) {
		expect(nil, 12, ticks, ticks >= 0 && ticks <= 60000)
	}
	for _, most := range append(someInts(), 8, 9, 10, 11, 13) {
		for _, ticks := range numbers(-1, 0, 1, 100, 60001) {
			expect(nil, most, ticks, most >= 1 && most <= 12 && ticks >= 0 && ticks <= 60000)
		}
	}
	for many := range 13 {
		for _, ticks := range numbers(0, 1) {
			expect(upTo(many), 12, ticks, many <= 10)
		}
	}
	expect(make([]int, 1000000), 12, 5, false)
	for _, n := range someInts() {
		expect(numbers(n), 12, 7, within(n))
		expect(append(upTo(9), n), 12, 0, within(n))
	}
}

// TestMostTicks has what is longest: a trace, notes, frames that were made.
func TestMostTicks(t *testing.T) {
	v, ok := impl.RunVm(image("num 8; print; jump 0"), nil, 1, 60000)
	if !ok || v.Code != 0 || !slices.Equal(v.Trace, slices.Repeat(numbers(8), 20000)) {
		t.Errorf("%d numbers, %t", len(v.Trace), ok)
	}
	v, ok = impl.RunVm(image("put 0; jump 0 | | 0"), nil, 1, 60000)
	if !ok || len(v.Notes) != 30000 || v.Notes[29999] != (impl.Note{Kind: impl.NtPut}) {
		t.Errorf("%d notes, %t", len(v.Notes), ok)
	}
	x := image("call 1; drop; jump 0; end | 0 1 3", "end")
	v, ok = impl.RunVm(x, nil, 2, 60000)
	if !ok || v.Made != 15001 || len(v.Notes) != 15000 || v.Notes[14999] != (impl.Note{Kind: impl.NtEnd, Id: 15000}) || !impl.GoodVm(x, v) {
		t.Errorf("%d made, %t", v.Made, ok)
	}
	if o, ok := impl.EndOf(v); !ok || !alike(o, impl.Outcome{Code: impl.OcFuel}) {
		t.Errorf("%v, %t", o, ok)
	}
}

// TestHighestPile has a pile of 40 numbers, with which a call is made, and a whole code of MaxIns instructions.
func TestHighestPile(t *testing.T) {
	x := image(pile(40, "call 1; ", 39)+" | 0 41 80", "2 2: var 0; var 1; reckon 4; result; leave; end | 0 5 5")
	v := checkRunVm(t, judgeOf(x), nil, 2, 200)
	if v.Code != impl.OcDone || v.Made != 2 {
		t.Errorf("%+v", v)
	}
	many := impl.Image{Codes: []impl.Code{long(impl.MaxIns)}}
	if !impl.GoodImage(many) {
		t.Fatal("not good")
	}
	checkRunVm(t, judgeOf(many), nil, 2, 400)
}

func TestEndOf(t *testing.T) {
	_, high := tall()
	for _, code := range append(someInts(), 4, 5, 6) {
		for _, v := range []impl.Vm{
			{}, high, {Value: 9, Trace: numbers(1, 2), Used: 3}, {Value: math.MaxInt, Trace: numbers(math.MinInt, greatest+1), Used: math.MinInt, Made: -1},
			{Value: least - 1, Used: 11, Frames: make([]impl.Frame, 3), Notes: []impl.Note{{}}}, {Value: -4, Trace: make([]int, 60001)},
		} {
			v.Code = code
			if there := checkEnd(t, v); there != (code >= 0 && code <= 4) {
				t.Errorf("Code %d: %t", code, there)
			}
		}
	}
	for code, want := range []impl.Outcome{
		{Code: impl.OcFuel, Trace: numbers(4), Used: 6}, {Code: impl.OcDone, Value: 5, Trace: numbers(4), Used: 6}, {Code: impl.OcPanic, Value: 5, Trace: numbers(4), Used: 6},
		{Code: impl.OcExit, Trace: numbers(4), Used: 6}, {Code: impl.OcDeep, Trace: numbers(4), Used: 6}, {},
	} {
		if o, ok := impl.EndOf(impl.Vm{Code: code, Value: 5, Trace: numbers(4), Used: 6}); !alike(o, want) || ok != (code < 5) {
			t.Errorf("Code %d: %v, %t", code, o, ok)
		}
	}
}

// TestSameVm has machines of which each has one thing that the others do not have.
func TestSameVm(t *testing.T) {
	_, v := tall()
	all := []impl.Vm{{}, v}
	add := func(edit func(w *impl.Vm)) {
		w := cloneVm(v)
		edit(&w)
		all = append(all, w)
	}
	for _, field := range []func(w *impl.Vm) *int{
		func(w *impl.Vm) *int { return &w.Used }, func(w *impl.Vm) *int { return &w.Code }, func(w *impl.Vm) *int { return &w.Value }, func(w *impl.Vm) *int { return &w.Made },
		func(w *impl.Vm) *int { return &w.Trace[1] }, func(w *impl.Vm) *int { return &w.Notes[0].Kind }, func(w *impl.Vm) *int { return &w.Notes[0].Id }, func(w *impl.Vm) *int { return &w.Notes[0].Site },
	} {
		add(func(w *impl.Vm) { *field(w) += 100 })
	}
	for k := range 3 {
		for _, field := range []func(f *impl.Frame) *int{
			func(f *impl.Frame) *int { return &f.Id }, func(f *impl.Frame) *int { return &f.Fn }, func(f *impl.Frame) *int { return &f.At }, func(f *impl.Frame) *int { return &f.Result },
			func(f *impl.Frame) *int { return &f.Mode }, func(f *impl.Frame) *int { return &f.Value }, func(f *impl.Frame) *int { return &f.Base },
		} {
			add(func(w *impl.Vm) { *field(&w.Frames[k]) += 100 })
		}
		add(func(w *impl.Vm) { w.Frames[k].Off = !w.Frames[k].Off })
		add(func(w *impl.Vm) { w.Frames[k].Pile = append(w.Frames[k].Pile, 0) })
		add(func(w *impl.Vm) { w.Frames[k].Vars = append(w.Frames[k].Vars, 0) })
		add(func(w *impl.Vm) { w.Frames[k].Flags = append(w.Frames[k].Flags, false) })
	}
	add(func(w *impl.Vm) { w.Frames[0].Pile[0]++ })
	add(func(w *impl.Vm) { w.Frames[0].Vars[1]++ })
	add(func(w *impl.Vm) { w.Frames[1].Flags[1] = true })
	add(func(w *impl.Vm) { w.Trace = append(w.Trace, 0) })
	add(func(w *impl.Vm) { w.Trace = nil })
	add(func(w *impl.Vm) { w.Notes = append(w.Notes, impl.Note{}) })
	add(func(w *impl.Vm) { w.Notes = nil })
	add(func(w *impl.Vm) { w.Frames = w.Frames[:2] })
	add(func(w *impl.Vm) { w.Frames = append(w.Frames, impl.Frame{}) })
	add(func(w *impl.Vm) { w.Frames = nil })
	for a, v := range all {
		for b, w := range all {
			if same := impl.SameVm(v, cloneVm(w)); same != (a == b) {
				t.Errorf("SameVm(%+v, %+v) = %t", v, w, same)
			}
		}
	}
	empty := impl.Vm{Frames: []impl.Frame{{Pile: []int{}, Vars: []int{}, Flags: []bool{}}}, Trace: []int{}, Notes: []impl.Note{}}
	if nothing := (impl.Vm{Frames: []impl.Frame{{}}}); !impl.SameVm(empty, nothing) || !impl.SameVm(nothing, empty) {
		t.Error("the empty list and the nil list are not the same")
	}
}

// randomVm is a good machine that need not be on any way from the first one.
func randomVm(r *rand.Rand, j judge) impl.Vm {
	fn, off := r.Intn(len(j.x.Codes)), false
	var frames []impl.Frame
	for many := 1 + r.Intn(1+r.Intn(13)); len(frames) < many; {
		f, called, next := randomFrame(r, j, fn, len(frames) < many-1)
		f.Off = off
		frames = append(frames, f)
		if called < 0 {
			break
		}
		fn, off = called, next
	}
	v := impl.Vm{Frames: frames, Used: r.Intn(11), Value: randomNumber(r), Made: r.Intn(50)}
	if r.Intn(10) == 0 {
		v.Made = 999995 + r.Intn(6)
	}
	for range r.Intn(4) {
		v.Trace, v.Notes = append(v.Trace, randomNumber(r)), append(v.Notes, randomNote(r))
	}
	switch r.Intn(20) {
	case 0:
		v.Code = impl.OcDeep
	case 1:
		v.Code, v.Frames = 1+r.Intn(4), nil
	}
	return v
}

// randomNote is at times one that no run makes.
func randomNote(r *rand.Rand) impl.Note {
	if r.Intn(2) == 0 {
		return impl.Note{Kind: 1 + r.Intn(3), Id: r.Intn(9), Site: r.Intn(4)}
	}
	some := someInts()
	return impl.Note{Kind: some[r.Intn(len(some))], Id: some[r.Intn(len(some))], Site: some[r.Intn(len(some))]}
}

// randomFrame is at a place where it calls, where there is one and that is asked for, and tells what it calls there, else -1.
func randomFrame(r *rand.Rand, j judge, fn int, calls bool) (impl.Frame, int, bool) {
	c := j.x.Codes[fn]
	var places, calling []int
	for at := range c.Ins {
		if j.heights[fn][at] >= 0 {
			places = append(places, at)
			if called, _, _ := j.calledBy(fn, at); called >= 0 {
				calling = append(calling, at)
			}
		}
	}
	at, called, off, takes := places[r.Intn(len(places))], -1, false, 0
	if calls && len(calling) > 0 {
		at = calling[r.Intn(len(calling))]
		called, off, takes = j.calledBy(fn, at)
	}
	f := impl.Frame{Id: r.Intn(60) - 5, Fn: fn, At: at, Result: randomNumber(r), Mode: r.Intn(4), Value: randomNumber(r), Base: 1 + 2*r.Intn(2)}
	for range j.heights[fn][at] - takes {
		f.Pile = append(f.Pile, max(-1, r.Intn(4)-1)*randomNumber(r)%(1<<31))
	}
	for range c.Vars {
		f.Vars = append(f.Vars, randomNumber(r))
	}
	for range c.Sites {
		f.Flags = append(f.Flags, r.Intn(2) == 0)
	}
	return f, called, off
}

// lastWord is of the instruction that is next, with the mode of its frame.
func lastWord(x impl.Image, v impl.Vm) string {
	f := v.Frames[len(v.Frames)-1]
	return fmt.Sprintf("%s %d", insWords[x.Codes[f.Fn].Ins[f.At].Op].word, f.Mode)
}

// TestStepsOfRandomMachines is promise 8, of machines that no run comes to, too.
func TestStepsOfRandomMachines(t *testing.T) {
	r := rand.New(rand.NewSource(80))
	seen := map[string]int{}
	deep, far, refused := 0, 0, 0
	for range 600 {
		j := judgeOf(randomImage(r))
		for range 25 {
			v := randomVm(r, j)
			if !checkGoodVm(t, j, v) {
				t.Fatalf("not good: %v, %+v", j.x, v)
			}
			inputs, most := randomInputs(r), 1+r.Intn(12)
			if r.Intn(3) == 0 {
				most = min(max(len(v.Frames), 1), 12)
			}
			for range 8 {
				w, ok := checkStep(t, j, inputs, most, v)
				if !ok {
					refused++
					break
				}
				seen[lastWord(j.x, v)]++
				far = max(far, len(w.Frames))
				if v = w; v.Code != 0 {
					deep += oneIfDeep(v.Code)
					break
				}
			}
		}
	}
	for _, w := range insWords[1:] {
		for mode := range 4 {
			if name := fmt.Sprintf("%s %d", w.word, mode); seen[name] < 60 {
				t.Errorf("%s: only %d times", name, seen[name])
			}
		}
	}
	if deep < 100 || far < 12 || refused < 100 {
		t.Errorf("too deep: %d, most frames: %d, refused: %d", deep, far, refused)
	}
}

func oneIfDeep(code int) int {
	if code == impl.OcDeep {
		return 1
	}
	return 0
}

func TestRunsOfRandomImages(t *testing.T) {
	r := rand.New(rand.NewSource(81))
	codes := map[int]int{}
	for range 250 {
		j := judgeOf(randomImage(r))
		codes[checkRunVm(t, j, randomInputs(r), 1+r.Intn(12), r.Intn(120)).Code]++
	}
	for code := range 5 {
		if codes[code] < 5 {
			t.Errorf("codes: %v", codes)
		}
	}
}

// TestRunsAreAsTheReferenceSemantics holds the machine of lowered programs against RunBig.
func TestRunsAreAsTheReferenceSemantics(t *testing.T) {
	r := rand.New(rand.NewSource(82))
	codes := map[int]int{}
	for round := range 2500 {
		p := livelyProg(r)
		if round%5 == 0 {
			p = randomProg(r)
		}
		x, _ := impl.LowerProg(p)
		inputs, most := randomInputs(r), min(12, 1+r.Intn(20))
		big, _ := impl.RunBig(p, inputs, most, 600)
		v, ok := impl.RunVm(x, inputs, most, 60000)
		low, told := impl.EndOf(v)
		if !ok || !told || !impl.GoodVm(x, v) {
			t.Fatalf("RunVm of %v: %+v, %t", p, v, ok)
		}
		if big.Code == impl.OcFuel && !impl.TraceBegins(big, low) || big.Code != impl.OcFuel && !alike(big, low) {
			t.Fatalf("%v: %v, but RunBig tells %v", p, low, big)
		}
		codes[big.Code]++
		less, ok := impl.RunVm(x, inputs, most, r.Intn(200))
		if begun, _ := impl.EndOf(less); !ok || !impl.GoodVm(x, less) || !impl.TraceBegins(begun, low) {
			t.Fatalf("%v: with fewer ticks %+v", p, less)
		}
	}
	for code := 1; code <= 5; code++ {
		if codes[code] < 50 {
			t.Errorf("outcomes by code: %v", codes)
		}
	}
}

// numbersOf are the numbers of a machine that are in no list.
func numbersOf(v *impl.Vm) []*int {
	l := []*int{&v.Used, &v.Code, &v.Value, &v.Made}
	for k := range v.Frames {
		f := &v.Frames[k]
		l = append(l, &f.Id, &f.Fn, &f.At, &f.Result, &f.Mode, &f.Value, &f.Base, &f.Fn, &f.At, &f.Mode, &f.Base)
	}
	return l
}

// spoilVm changes one thing.
func spoilVm(r *rand.Rand, v *impl.Vm) {
	odd := someInts()[r.Intn(len(someInts()))]
	field := numbersOf(v)
	switch r.Intn(8) {
	case 0:
		*field[r.Intn(len(field))] = odd
		return
	case 1, 2, 3:
		*field[r.Intn(len(field))] += r.Intn(3) - 1
		return
	case 4:
		v.Trace = append(v.Trace, odd)
		return
	case 5:
		v.Notes = append(v.Notes, randomNote(r))
		return
	}
	if len(v.Frames) == 0 {
		return
	}
	k := r.Intn(len(v.Frames))
	f := &v.Frames[k]
	switch r.Intn(9) {
	case 0:
		f.Off = !f.Off
	case 1:
		f.Pile = append(f.Pile, odd)
	case 2:
		f.Pile = f.Pile[:max(0, len(f.Pile)-1)]
	case 3:
		f.Vars = append(f.Vars, odd)
	case 4:
		f.Vars = f.Vars[:max(0, len(f.Vars)-1)]
	case 5:
		f.Flags = append(f.Flags, false)
	case 6:
		f.Flags = f.Flags[:max(0, len(f.Flags)-1)]
	case 7:
		v.Frames = slices.Delete(v.Frames, k, k+1)
	default:
		v.Frames = slices.Insert(v.Frames, k, *f)
	}
}

func TestSpoiledMachines(t *testing.T) {
	r := rand.New(rand.NewSource(83))
	good, bad := 0, 0
	for range 400 {
		x := randomImage(r)
		j := judgeOf(x)
		for range 40 {
			v := cloneVm(randomVm(r, j))
			for range 1 + r.Intn(2) {
				spoilVm(r, &v)
			}
			if checkGoodVm(t, j, v) {
				good++
			} else {
				bad++
			}
			checkStep(t, j, randomInputs(r), r.Intn(15)-1, v)
			checkEnd(t, v)
		}
		// A machine of another image, which may be good or not.
		y := cloneImage(x)
		spoilCode(r, &y.Codes[r.Intn(len(y.Codes))])
		other := judgeOf(y)
		for range 5 {
			checkStep(t, other, nil, 12, randomVm(r, j))
		}
	}
	if good < 2000 || bad < 5000 {
		t.Errorf("%d good, %d bad", good, bad)
	}
}

func TestWildMachines(t *testing.T) {
	r := rand.New(rand.NewSource(84))
	some := append(someInts(), upTo(20)...)
	pick := func() int { return some[r.Intn(len(some))] }
	list := func() []int {
		l := make([]int, r.Intn(4))
		for i := range l {
			l[i] = pick()
		}
		return l
	}
	j := judgeOf(callers())
	for range 5000 {
		v := impl.Vm{Trace: list(), Used: pick(), Code: pick(), Value: pick(), Made: pick()}
		for range r.Intn(4) {
			v.Frames = append(v.Frames, impl.Frame{Id: pick(), Fn: pick(), At: pick(), Pile: list(), Vars: list(), Flags: make([]bool, r.Intn(4)), Result: pick(), Mode: pick(), Value: pick(), Base: pick(), Off: r.Intn(2) == 0})
			v.Notes = append(v.Notes, impl.Note{Kind: pick(), Id: pick(), Site: pick()})
		}
		checkStep(t, j, list(), pick(), v)
		impl.SameVm(v, impl.Vm{Frames: v.Frames, Trace: v.Trace})
	}
}

// spareVm has behind each list what would change the answers.
func spareVm(v impl.Vm) impl.Vm {
	v = cloneVm(v)
	for k := range v.Frames {
		f := &v.Frames[k]
		f.Pile, f.Vars, f.Flags = spare(f.Pile, greatest+1, 78, 79), spare(f.Vars, greatest+1, 78), spare(f.Flags, true, true)
	}
	v.Frames = spare(v.Frames, impl.Frame{Fn: -1}, impl.Frame{Off: true})
	v.Trace, v.Notes = spare(v.Trace, greatest+1, 78, 79), spare(v.Notes, impl.Note{Kind: greatest + 1}, impl.Note{Kind: 9, Id: 9, Site: 9})
	return v
}

// wholeVm has each list with what lies behind it.
func wholeVm(v impl.Vm) impl.Vm {
	v.Frames = slices.Clone(v.Frames[:cap(v.Frames)])
	for k, f := range v.Frames {
		v.Frames[k].Pile, v.Frames[k].Vars, v.Frames[k].Flags = slices.Clone(f.Pile[:cap(f.Pile)]), slices.Clone(f.Vars[:cap(f.Vars)]), slices.Clone(f.Flags[:cap(f.Flags)])
	}
	v.Trace, v.Notes = slices.Clone(v.Trace[:cap(v.Trace)]), slices.Clone(v.Notes[:cap(v.Notes)])
	return v
}

func TestMachinesLeaveTheirArguments(t *testing.T) {
	r := rand.New(rand.NewSource(85))
	for range 150 {
		x := spareImage(randomImage(r))
		wasImage := wholeImage(x)
		j := judgeOf(x)
		inputs := spare(randomInputs(r), 77, greatest+1)
		wasInputs := slices.Clone(inputs[:cap(inputs)])
		checkRunVm(t, j, inputs, 1+r.Intn(12), 20)
		for range 12 {
			v := spareVm(randomVm(r, j))
			if r.Intn(4) == 0 {
				spoilVm(r, &v)
			}
			was := wholeVm(v)
			checkStep(t, j, inputs, 12, v)
			impl.SameVm(v, v)
			if now := wholeVm(v); !reflect.DeepEqual(now, was) {
				t.Fatalf("%+v became %+v", was, now)
			}
		}
		if now := wholeImage(x); !reflect.DeepEqual(now, wasImage) {
			t.Fatalf("%v became %v", wasImage, now)
		}
		if !slices.Equal(inputs[:cap(inputs)], wasInputs) {
			t.Fatalf("%v became %v", wasInputs, inputs[:cap(inputs)])
		}
	}
}

// scribbleVm writes all over the lists of a machine, and behind them, and after each one asks whether another one has changed.
func scribbleVm(t *testing.T, v impl.Vm) {
	t.Helper()
	var lists []func()
	for k := range v.Frames {
		f := v.Frames[k]
		lists = append(lists, func() { scribble(f.Pile) }, func() { scribble(f.Vars) }, func() {
			for i := range f.Flags[:cap(f.Flags)] {
				f.Flags[:cap(f.Flags)][i] = !f.Flags[:cap(f.Flags)][i]
			}
		})
	}
	lists = append(lists, func() { scribble(v.Trace) }, func() {
		for i := range v.Notes[:cap(v.Notes)] {
			v.Notes[:cap(v.Notes)][i] = impl.Note{Kind: 99, Id: 99, Site: 99}
		}
	})
	for k, writes := range lists {
		was := cloneVm(v)
		writes()
		// Put back what was written, by its own list alone: then all has to be as it was.
		now := cloneVm(v)
		switch {
		case k == len(lists)-1:
			now.Notes = was.Notes
		case k == len(lists)-2:
			now.Trace = was.Trace
		case k%3 == 0:
			now.Frames[k/3].Pile = was.Frames[k/3].Pile
		case k%3 == 1:
			now.Frames[k/3].Vars = was.Frames[k/3].Vars
		default:
			now.Frames[k/3].Flags = was.Frames[k/3].Flags
		}
		if !alikeVm(now, was) {
			t.Fatalf("two lists of one answer share memory: %+v, was %+v", now, was)
		}
	}
	for k := range v.Frames[:cap(v.Frames)] {
		v.Frames[:cap(v.Frames)][k] = impl.Frame{Id: 99, Fn: 99, At: 99}
	}
}

// checkNothingBehind asks whether what an answer has behind its lists tells nothing of what was there.
func checkNothingBehind(t *testing.T, v impl.Vm) {
	t.Helper()
	for _, f := range v.Frames {
		for _, l := range [][]int{f.Pile, f.Vars} {
			if slices.ContainsFunc(l[len(l):cap(l)], func(n int) bool { return n != 0 }) {
				t.Fatalf("behind %v is %v", l, l[:cap(l)])
			}
		}
		if slices.Contains(f.Flags[len(f.Flags):cap(f.Flags)], true) {
			t.Fatalf("behind %v is %v", f.Flags, f.Flags[:cap(f.Flags)])
		}
	}
	if slices.ContainsFunc(v.Trace[len(v.Trace):cap(v.Trace)], func(n int) bool { return n != 0 }) {
		t.Fatalf("behind %v is %v", v.Trace, v.Trace[:cap(v.Trace)])
	}
	if slices.ContainsFunc(v.Notes[len(v.Notes):cap(v.Notes)], func(n impl.Note) bool { return n != impl.Note{} }) {
		t.Fatalf("behind %v is %v", v.Notes, v.Notes[:cap(v.Notes)])
	}
	if behind := v.Frames[len(v.Frames):cap(v.Frames)]; !alikeVm(impl.Vm{Frames: behind}, impl.Vm{Frames: make([]impl.Frame, len(behind))}) {
		t.Fatalf("behind %+v is %+v", v.Frames, behind)
	}
}

func TestMachinesAreNewMemory(t *testing.T) {
	r := rand.New(rand.NewSource(86))
	for range 200 {
		x := spareImage(randomImage(r))
		wasImage := wholeImage(x)
		j := judgeOf(x)
		v := spareVm(randomVm(r, j))
		was, whole := cloneVm(v), wholeVm(v)
		inputs := spare(randomInputs(r), 77)
		wasInputs := slices.Clone(inputs[:cap(inputs)])
		ticks := r.Intn(60)
		for _, answer := range []func() impl.Vm{
			func() impl.Vm { w, _ := impl.StepVm(x, inputs, 12, v); return w },
			func() impl.Vm { w, _ := impl.NewVm(x); return w },
			func() impl.Vm { w, _ := impl.RunVm(x, inputs, 12, ticks); return w },
		} {
			first, other := answer(), answer()
			want := cloneVm(first)
			checkNothingBehind(t, first)
			scribbleVm(t, first)
			if !alikeVm(other, want) || !alikeVm(answer(), want) {
				t.Fatalf("two answers share memory: %+v, want %+v", other, want)
			}
			if !alikeVm(v, was) || !reflect.DeepEqual(wholeVm(v), whole) || !reflect.DeepEqual(wholeImage(x), wasImage) || !slices.Equal(inputs[:cap(inputs)], wasInputs) {
				t.Fatalf("an answer shares memory with an argument: %+v, was %+v", v, was)
			}
			// What is done with the machine that was given does not change the answer, either.
			given := cloneVm(v)
			w, ok := impl.StepVm(x, inputs, 12, given)
			kept := cloneVm(w)
			scribbleVm(t, given)
			if ok && !alikeVm(w, kept) {
				t.Fatalf("an answer shares memory with an argument: %+v, was %+v", w, kept)
			}
		}
	}
	v := impl.Vm{Code: impl.OcDone, Trace: spare(numbers(4, 5), 6)}
	o, _ := impl.EndOf(v)
	scribble(o.Trace)
	if !slices.Equal(v.Trace[:cap(v.Trace)][:3], numbers(4, 5, 6)) {
		t.Errorf("EndOf shares memory: %v", v.Trace)
	}
	o, _ = impl.EndOf(v)
	v.Trace[0] = 99
	if !slices.Equal(o.Trace, numbers(4, 5)) {
		t.Errorf("EndOf shares memory: %v", o.Trace)
	}
}
