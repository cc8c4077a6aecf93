package tests

import (
	"fmt"
	"math"
	"math/rand"
	"reflect"
	"slices"
	"strconv"
	"strings"
	"testing"

	"loop.example/g00745/impl"
)

// reader reads the words of one function, its statements with `;` between, its blocks in `{` and `}`.
type reader struct {
	words []string
	stmts []impl.Stmt
}

var kindsOfWords = map[string]int{
	"set": impl.StSet, "print": impl.StPrint, "defer": impl.StDefer, "panic": impl.StPanic, "return": impl.StReturn,
	"exit": impl.StExit, "if": impl.StIf, "while": impl.StWhile, "do": impl.StDo,
}

func (r *reader) peek() string {
	if len(r.words) == 0 {
		return ""
	}
	return r.words[0]
}

func (r *reader) next() string {
	word := r.peek()
	r.words = r.words[1:]
	return word
}

func (r *reader) number() int {
	n, err := strconv.Atoi(r.next())
	if err != nil {
		panic(err)
	}
	return n
}

func (r *reader) expr() []impl.Tok {
	var words []string
	for r.peek() != "" && !strings.Contains(";{}", r.peek()) {
		words = append(words, r.next())
	}
	e, ok := impl.ReadExpr(strings.Join(words, " "))
	if !ok {
		panic(fmt.Sprint("no expression: ", words))
	}
	return e
}

func (r *reader) block() []int {
	var l []int
	for r.peek() != "" && r.peek() != "}" {
		if r.peek() == ";" {
			r.next()
			continue
		}
		l = append(l, len(r.stmts))
		r.statement()
	}
	return l
}

func (r *reader) within() []int {
	r.next()
	l := r.block()
	r.next()
	return l
}

func (r *reader) statement() {
	at := len(r.stmts)
	s := impl.Stmt{Kind: kindsOfWords[r.next()]}
	r.stmts = append(r.stmts, s)
	if s.Kind == impl.StSet || s.Kind == impl.StDefer {
		s.N = r.number()
	}
	if s.Kind != impl.StDefer && s.Kind != impl.StExit {
		s.Ex = r.expr()
	}
	if r.peek() == "{" {
		s.Then = r.within()
	}
	if r.peek() == "else" {
		r.next()
		s.Else = r.within()
	}
	r.stmts[at] = s
}

// written is the program of these functions, each with Params, Vars and `:` ahead where these are not 0 and 0.
func written(texts ...string) impl.Prog {
	var p impl.Prog
	for _, text := range texts {
		f := impl.Func{}
		head, rest, ok := strings.Cut(text, ":")
		if ok {
			sizes := &reader{words: strings.Fields(head)}
			f.Params, f.Vars = sizes.number(), sizes.number()
			text = rest
		}
		r := &reader{words: strings.Fields(strings.ReplaceAll(text, ";", " ;"))}
		f.Body = r.block()
		f.Stmts = r.stmts
		p.Funcs = append(p.Funcs, f)
	}
	if !wantGood(p) {
		panic(fmt.Sprint("not good: ", texts))
	}
	return p
}

func TestWritten(t *testing.T) {
	p := written("0 1: set 0 -3; if v0 { print 1; while in { exit } } else { defer 1 }; panic f2", "", "0 2: return v1")
	want := program(
		sized(0, 1, function(numbers(0, 1, 6),
			setTo(0, num(-3)), impl.Stmt{Kind: impl.StIf, Ex: []impl.Tok{variable(0)}, Then: numbers(2, 3), Else: numbers(5)},
			does(impl.StPrint, num(1)), impl.Stmt{Kind: impl.StWhile, Ex: []impl.Tok{plain(impl.ExInput)}, Then: numbers(4)}, exit(), putOff(1), does(impl.StPanic, call(2)))),
		impl.Func{}, sized(0, 2, flat(does(impl.StReturn, variable(1)))),
	)
	if !reflect.DeepEqual(p, want) {
		t.Errorf("%v, want %v", p, want)
	}
}

// stepFrame has its tasks on a pile: the last one is done next. Nothing of Go's own panics has a part in it.
type stepFrame struct {
	fn      impl.Func
	tasks   []func()
	pile    []int
	vars    []int
	result  int
	waiting []int
	mode    int
	value   int
	exited  bool
	off     bool
}

func (f *stepFrame) push(task func()) { f.tasks = append(f.tasks, task) }

func (f *stepFrame) pop() int {
	n := f.pile[len(f.pile)-1]
	f.pile = f.pile[:len(f.pile)-1]
	return n
}

func (f *stepFrame) raise(mode, value int) {
	f.tasks, f.pile = nil, nil
	f.mode, f.value = mode, value
	f.exited = f.exited || mode == impl.OcExit
}

// stepper runs a program step by step, by the document's words, with frames of its own.
type stepper struct {
	p      impl.Prog
	inputs []int
	most   int
	fuel   int
	frames []*stepFrame
	out    impl.Outcome
	seen   map[string]int
}

// paid tells whether there was fuel.
func (m *stepper) paid() bool {
	if m.fuel == 0 {
		m.out.Code = impl.OcFuel
		return false
	}
	m.fuel--
	return true
}

func (m *stepper) begin(fn int, given []int, off bool) {
	if !m.paid() {
		return
	}
	if len(m.frames) == m.most {
		m.out.Code = impl.OcDeep
		return
	}
	f := &stepFrame{fn: m.p.Funcs[fn], mode: impl.OcDone, off: off}
	f.vars = append(slices.Clone(given), make([]int, f.fn.Vars-len(given))...)
	m.frames = append(m.frames, f)
	m.pushBlock(f, f.fn.Body)
}

func (m *stepper) pushBlock(f *stepFrame, block []int) {
	for _, n := range slices.Backward(block) {
		f.push(func() { m.statement(f, f.fn.Stmts[n]) })
	}
}

// pushExpr has Ex done, and then what is done with what it comes to.
func (m *stepper) pushExpr(f *stepFrame, e []impl.Tok, then func(n int)) {
	f.push(func() { then(f.pop()) })
	for _, t := range slices.Backward(e) {
		f.push(func() { m.token(f, t) })
	}
}

func (m *stepper) statement(f *stepFrame, s impl.Stmt) {
	if !m.paid() {
		return
	}
	switch s.Kind {
	case impl.StSet:
		m.pushExpr(f, s.Ex, func(n int) { f.vars[s.N] = n })
	case impl.StPrint:
		m.pushExpr(f, s.Ex, func(n int) { m.out.Trace = append(m.out.Trace, n) })
	case impl.StDefer:
		f.waiting = append(f.waiting, s.N)
	case impl.StPanic:
		m.pushExpr(f, s.Ex, func(n int) { f.raise(impl.OcPanic, n) })
	case impl.StReturn:
		m.pushExpr(f, s.Ex, func(n int) { f.result, f.tasks = n, nil })
	case impl.StExit:
		f.raise(impl.OcExit, 0)
	case impl.StIf:
		m.pushExpr(f, s.Ex, func(n int) {
			if n != 0 {
				m.pushBlock(f, s.Then)
			} else {
				m.pushBlock(f, s.Else)
			}
		})
	case impl.StWhile:
		m.pushExpr(f, s.Ex, func(n int) {
			if n != 0 {
				f.push(func() { m.statement(f, s) })
				m.pushBlock(f, s.Then)
			}
		})
	case impl.StDo:
		m.pushExpr(f, s.Ex, func(int) {})
	}
}

func (m *stepper) token(f *stepFrame, t impl.Tok) {
	switch t.Op {
	case impl.ExNum:
		f.pile = append(f.pile, t.N)
	case impl.ExVar:
		f.pile = append(f.pile, f.vars[t.N])
	case impl.ExInput:
		n := 0
		if m.out.Used < len(m.inputs) {
			n = m.inputs[m.out.Used]
			m.out.Used++
		}
		f.pile = append(f.pile, n)
	case impl.ExRecover:
		f.pile = append(f.pile, m.recovered(f))
	case impl.ExCall:
		var given []int
		for range m.p.Funcs[t.N].Params {
			given = slices.Insert(given, 0, f.pop())
		}
		m.begin(t.N, given, false)
	default:
		right := f.pop()
		left := f.pop()
		n, told := wantReckon(t.Op, left, right)
		if !told {
			m.seen["divided"]++
			f.raise(impl.OcPanic, -1)
			return
		}
		f.pile = append(f.pile, n)
	}
}

func (m *stepper) recovered(f *stepFrame) int {
	if !f.off {
		m.seen["recover, not put off"]++
		return 0
	}
	under := m.frames[len(m.frames)-2]
	if under.mode != impl.OcPanic {
		m.seen["recover, no panic"]++
		return 0
	}
	m.seen["recovered"]++
	under.mode = impl.OcDone
	if under.exited {
		m.seen["recovered to exit"]++
		under.mode = impl.OcExit
	}
	return under.value
}

func (m *stepper) ended(f *stepFrame) {
	m.frames = m.frames[:len(m.frames)-1]
	if len(m.frames) == 0 {
		m.out.Code = f.mode
		switch f.mode {
		case impl.OcDone:
			m.out.Value = f.result
		case impl.OcPanic:
			m.out.Value = f.value
		}
		return
	}
	under := m.frames[len(m.frames)-1]
	switch {
	case f.mode != impl.OcDone:
		m.seen[fmt.Sprintf("ends by %d over %d, put off %v", f.mode, under.mode, f.off)]++
		under.raise(f.mode, f.value)
	case !f.off:
		under.pile = append(under.pile, f.result)
	}
}

func (m *stepper) run() impl.Outcome {
	m.begin(0, nil, false)
	for m.out.Code == 0 {
		f := m.frames[len(m.frames)-1]
		if last := len(f.tasks) - 1; last >= 0 {
			task := f.tasks[last]
			f.tasks = f.tasks[:last]
			task()
		} else if last := len(f.waiting) - 1; last >= 0 {
			fn := f.waiting[last]
			f.waiting = f.waiting[:last]
			m.begin(fn, nil, true)
		} else {
			m.ended(f)
		}
	}
	return m.out
}

// wantBig also tells how much of the fuel is left. A good program is asked for.
func wantBig(p impl.Prog, inputs []int, most, fuel int, seen map[string]int) (impl.Outcome, int) {
	m := &stepper{p: p, inputs: inputs, most: most, fuel: fuel, seen: seen}
	o := m.run()
	return o, m.fuel
}

func alike(a, b impl.Outcome) bool {
	return a.Code == b.Code && a.Value == b.Value && a.Used == b.Used && slices.Equal(a.Trace, b.Trace)
}

func wantText(o impl.Outcome) string {
	var text strings.Builder
	fmt.Fprintf(&text, "%s %d:", []string{"?", "done", "panic", "exit", "deep", "fuel"}[o.Code], o.Value)
	for _, n := range o.Trace {
		fmt.Fprintf(&text, " %d", n)
	}
	return text.String()
}

func checkFuel(t *testing.T, p impl.Prog, inputs []int, most, fuel int) impl.Outcome {
	t.Helper()
	want, _ := wantBig(p, inputs, most, fuel, map[string]int{})
	o, ok := impl.RunBig(p, inputs, most, fuel)
	if !ok || !alike(o, want) {
		t.Fatalf("RunBig(%v, %v, %d, %d): %v, %v; want %v", p, inputs, most, fuel, o, ok, want)
	}
	if s, ok := impl.OutcomeText(o); !ok || s != wantText(want) {
		t.Fatalf("OutcomeText(%v): %q, %v", o, s, ok)
	}
	return o
}

// checkExtends is promise 4, of what less and more fuel tell.
func checkExtends(t *testing.T, less, more impl.Outcome) {
	t.Helper()
	begins := len(less.Trace) <= len(more.Trace) && slices.Equal(less.Trace, more.Trace[:len(less.Trace)])
	if !begins || less.Used > more.Used {
		t.Fatalf("more fuel tells %v, where less told %v", more, less)
	}
	if less.Code != impl.OcFuel && !alike(less, more) {
		t.Fatalf("more fuel changes %v to %v", less, more)
	}
	if !impl.TraceBegins(less, more) || impl.SameOutcome(less, more) != alike(less, more) {
		t.Fatalf("TraceBegins, SameOutcome of %v and %v", less, more)
	}
}

func checkFuelFor(t *testing.T, p impl.Prog, inputs []int, most int) {
	t.Helper()
	want, left := wantBig(p, inputs, most, 600, map[string]int{})
	least, ok := impl.FuelFor(p, inputs, most)
	if want.Code == impl.OcFuel {
		if least != 0 || ok {
			t.Fatalf("FuelFor(%v, %v, %d): %d, %v", p, inputs, most, least, ok)
		}
		return
	}
	if least != 600-left || !ok {
		t.Fatalf("FuelFor(%v, %v, %d): %d, %v; want %d", p, inputs, most, least, ok, 600-left)
	}
	if o := checkFuel(t, p, inputs, most, least); !alike(o, want) {
		t.Fatalf("with the least fuel %d: %v; want %v", least, o, want)
	}
	if o := checkFuel(t, p, inputs, most, least-1); o.Code != impl.OcFuel {
		t.Fatalf("with less than the least fuel %d: %v", least, o)
	}
}

// checkRuns goes through these fuels, which rise.
func checkRuns(t *testing.T, p impl.Prog, inputs []int, most int, fuels []int) {
	t.Helper()
	var last impl.Outcome
	for i, fuel := range fuels {
		o := checkFuel(t, p, inputs, most, fuel)
		if i > 0 {
			checkExtends(t, last, o)
		}
		last = o
	}
	checkFuelFor(t, p, inputs, most)
}

func checkBig(t *testing.T, p impl.Prog, inputs []int) {
	t.Helper()
	for _, most := range numbers(1, 2, 3, 11, 12) {
		checkRuns(t, p, inputs, most, upTo(601))
	}
}

// bigCase has what RunBig tells with MaxFuel, as its text, how many inputs are taken, and the least fuel.
type bigCase struct {
	name   string
	p      impl.Prog
	inputs []int
	text   string
	used   int
	least  int
}

func checkBigCases(t *testing.T, most int, cases []bigCase) {
	t.Helper()
	for _, c := range cases {
		o, ok := impl.RunBig(c.p, c.inputs, most, 600)
		if s, _ := impl.OutcomeText(o); !ok || s != c.text || o.Used != c.used {
			t.Errorf("%s: %q, used %d, %v; want %q, used %d", c.name, s, o.Used, ok, c.text, c.used)
		}
		if least, ok := impl.FuelFor(c.p, c.inputs, most); least != c.least || ok != (c.least > 0) {
			t.Errorf("%s: FuelFor tells %d, %v; want %d", c.name, least, ok, c.least)
		}
		checkBig(t, c.p, c.inputs)
	}
}

func TestOutcomesAreAsTold(t *testing.T) {
	for i, code := range []int{impl.OcDone, impl.OcPanic, impl.OcExit, impl.OcDeep, impl.OcFuel} {
		if code != i+1 {
			t.Errorf("code %d is %d", i+1, code)
		}
	}
	if impl.MaxFuel != 600 || impl.MaxDeep != 12 || impl.MaxInputs != 10 || impl.DivPanic != -1 {
		t.Error("limits", impl.MaxFuel, impl.MaxDeep, impl.MaxInputs, impl.DivPanic)
	}
}

func TestStatementsAndCalls(t *testing.T) {
	checkBigCases(t, 12, []bigCase{
		{"nothing", written(""), nil, "done 0:", 0, 1},
		{"variables begin with 0", written("0 6: print v5; set 5 7; print v5; print v4"), nil, "done 0: 0 7 0", 0, 5},
		{"sums wrap", written("print 2147483647 1 +; print -2147483648 -1 /; return 65536 65536 *"), nil, "done 0: -2147483648 -2147483648", 0, 4},
		{"return", written("print 1; return 7; print 2"), nil, "done 7: 1", 0, 3},
		{"Then", written("if 2 { print 1 } else { print 2 }; print 3"), nil, "done 0: 1 3", 0, 4},
		{"Else", written("if 0 { print 1 } else { print 2; print 4 }; print 3"), nil, "done 0: 2 4 3", 0, 5},
		{"empty blocks", written("if 0 { }; if 1 { }; if -1 { } else { print 1 }; while 0 { }"), nil, "done 0:", 0, 5},
		{"no Else", written("if 0 { print 1 }; print 2"), nil, "done 0: 2", 0, 3},
		{"below 0 is not 0", written("if -1 { print 1 } else { print 2 }"), nil, "done 0: 1", 0, 3},
		{"a loop", written("0 1: set 0 3; while v0 { print v0; set 0 v0 1 - }; return v0"), nil, "done 0: 3 2 1", 0, 13},
		{"a loop not begun", written("while 0 { print 1 }; print 2"), nil, "done 0: 2", 0, 3},
		{"a loop in a loop", written("0 2: set 0 2; while v0 { set 1 2; while v1 { print v0 v1 *; set 1 v1 1 - }; set 0 v0 1 - }"), nil, "done 0: 4 2 2 1", 0, 1 + 1 + 3 + 2*(1+(3+2*2)+1)},
		{"return out of blocks", written("while 1 { if 1 { while 1 { return 9 } }; print 1 }; print 2"), nil, "done 9:", 0, 5},
		{"exit out of blocks", written("while 1 { if 0 { } else { while 1 { exit } }; print 1 }; print 2"), nil, "exit 0:", 0, 5},
		{"a panic out of blocks", written("while 1 { if 1 { while 1 { panic -9 } }; print 1 }; print 2"), nil, "panic -9:", 0, 5},
		{"exit right away", written("print 1; exit; print 2"), nil, "exit 0: 1", 0, 3},
		{"a panic with 0", written("panic 0"), nil, "panic 0:", 0, 2},
		{"a panic with DivPanic", written("panic -1"), nil, "panic -1:", 0, 2},
		{"do tells nothing", written("do 5; do f1", "print 3; return 4"), nil, "done 0: 3", 0, 6},
		{"calls and their order", written("print 5 3 f1 2 f2 -", "2 3: print v0; print v1; print v2; return v0 v1 -", "1 2: print v0 v1 -; return v0 2 *"), nil, "done 0: 5 3 0 2 -2", 0, 10},
		{"variables of calls are their own", written("0 1: set 0 5; do v0 f1; print v0; do v0 f1", "1 2: print v1; set 0 v0 1 +; set 1 v0; print v1"), nil, "done 0: 0 6 5 0 6", 0, 15},
		{"without a result", written("print f1 1 +; print f2", "", "0 1: set 0 4"), nil, "done 0: 1 0", 0, 6},
		{"prints in what is printed", written("print f1 f1 +; print 9", "print 1; return 2"), nil, "done 0: 1 1 4 9", 0, 9},
		{"calls in If and While", written("if f1 { print 1 }; while f2 { print 2 }", "print 5; return 3", "print 6"), nil, "done 0: 5 1 6", 0, 9},
		{"down and up", written("return 5 f1", "1 1: if v0 { print v0; return v0 1 - f1 1 + }; return 100"), nil, "done 105: 5 4 3 2 1", 0, 2 + 5*4 + 3},
	})
}

func TestInputs(t *testing.T) {
	ten := numbers(1, 2, 3, 4, 5, 6, 7, 8, 9, 10)
	all := written("0 1: set 0 12; while v0 { print in; set 0 v0 1 - }")
	cost := 1 + 1 + 12*3 + 1
	checkBigCases(t, 12, []bigCase{
		{"none", all, nil, "done 0: 0 0 0 0 0 0 0 0 0 0 0 0", 0, cost},
		{"two", all, numbers(5, 6), "done 0: 5 6 0 0 0 0 0 0 0 0 0 0", 2, cost},
		{"MaxInputs", all, ten, "done 0: 1 2 3 4 5 6 7 8 9 10 0 0", 10, cost},
		{"the bounds", all, numbers(least, greatest, 0), "done 0: -2147483648 2147483647 0 0 0 0 0 0 0 0 0 0", 3, cost},
		{"not all are taken", written("print in in -; print 1"), ten, "done 0: -1 1", 2, 3},
		{"lacks", written("print in in -; return in"), numbers(4), "done 0: 4", 1, 3},
		{"in calls", written("print in f1 in - -", "print in; return in"), numbers(50, 7, 8, 9), "done 0: 7 51", 4, 5},
		{"by a loop", written("0 1: while in { set 0 v0 1 + }; return v0"), numbers(5, 5, 5, 0, 5), "done 3:", 4, 9},
		{"with deep", written("do in; do in f0 +"), numbers(5, 6, 7), "deep 0:", 3, 37},
	})
}

func TestPanicsAndExitsInExpressions(t *testing.T) {
	checkBigCases(t, 12, []bigCase{
		{"x / 0", written("print 1; print 5 0 /; print 2"), nil, "panic -1: 1", 0, 3},
		{"0 / 0 of inputs", written("do in in /"), numbers(0, 0), "panic -1:", 2, 2},
		{"x / 0 ends the expression", written("print in 0 / in +"), numbers(4, 5), "panic -1:", 1, 2},
		{"x / 0 sets nothing", written("0 1: defer 1; set 0 1; return v0 0 /", "print rec"), nil, "done 0: -1", 0, 6},
		{"x / 0 in a condition", written("if 1 0 / { print 1 } else { print 2 }"), nil, "panic -1:", 0, 2},
		{"x / 0 in a loop's condition", written("0 1: set 0 3; while 6 v0 / { print v0; set 0 v0 1 - }"), nil, "panic -1: 3 2 1", 0, 12},
		{"x / 0 in what is raised", written("panic 7 0 /"), nil, "panic -1:", 0, 2},
		{"x / 0 with something put off", written("defer 1; print 3 0 /; print 4", "print 5"), nil, "panic -1: 5", 0, 5},
		{"x / 0 recovered", written("defer 1; print 3 0 /; print 4", "print rec"), nil, "done 0: -1", 0, 5},
		{"x / 0 in a called one", written("defer 1; print f2 in +", "print rec", "return 1 0 /"), numbers(5), "done 0: -1", 0, 7},
		{"a panic in the middle", written("print in f1 in + +; print 1", "print 2; panic 8"), numbers(5, 6), "panic 8: 2", 1, 5},
		{"exit in the middle", written("print in f1 in + +; print 1", "print 2; exit"), numbers(5, 6), "exit 0: 2", 1, 5},
		{"return in the middle", written("print in f1 in + +; print 1", "while 1 { return 30 }; print 2"), numbers(5, 6), "done 0: 41 1", 2, 6},
		{"a panic in what a call is given", written("do f1 f2", "panic 3", "1 1: print v0"), nil, "panic 3:", 0, 4},
		{"exit within blocks of a called one", written("while f1 { print 1 }; print 2", "if 1 { while 1 { exit } }"), nil, "exit 0:", 0, 6},
		{"a panic within blocks of a called one", written("if f1 { print 1 } else { print 2 }", "if 0 { } else { while 1 { if 1 { panic 6 } } }"), nil, "panic 6:", 0, 7},
		{"through several", written("defer 3; do 1 f1 +", "defer 4; print f2", "print 1; panic 5", "print 3", "print 4"), nil, "panic 5: 1 4 3", 0, 13},
		{"exit through several", written("defer 3; do 1 f1 +", "defer 4; print f2", "print 1; exit", "print 3; print rec", "print 4; return 7"), nil, "exit 0: 1 4 3 0", 0, 15},
		{"recovered below: the expression goes on", written("print 100 f1 in + +", "0 1: defer 2; set 0 7; do 1 0 /", "print rec"), numbers(5), "done 0: -1 105", 1, 8},
	})
}

func TestWhatIsPutOff(t *testing.T) {
	checkBigCases(t, 12, []bigCase{
		{"the last one first", written("defer 1; defer 2; defer 3; print 0", "print 1", "print 2", "print 3"), nil, "done 0: 0 3 2 1", 0, 11},
		{"one several times", written("defer 1; defer 1; defer 1; defer 1; print 0", "print 1"), nil, "done 0: 0 1 1 1 1", 0, 14},
		{"what was not come to", written("if 0 { defer 1 } else { defer 2 }; if 1 { defer 3 }; return 4; defer 1", "print 1", "print 2", "print 3"), nil, "done 4: 3 2", 0, 10},
		{"by return", written("defer 1; return 5; print 6", "print 1; return 9; print 2"), nil, "done 5: 1", 0, 6},
		{"ahead of the caller", written("print f1; print 9", "defer 2; print 1; return 3", "print 2"), nil, "done 0: 1 2 3 9", 0, 9},
		{"variables begin anew", written("0 1: defer 1; set 0 5", "0 1: print v0; set 0 6; print v0"), nil, "done 0: 0 6", 0, 7},
		{"by a panic", written("defer 1; print 1", "print 2; panic 3"), nil, "panic 3: 1 2", 0, 6},
		{"by exit", written("defer 1; return 1", "print 2; exit; print 3"), nil, "exit 0: 2", 0, 6},
		{"return, a panic and exit", written("defer 1; defer 2; defer 3; return 4", "print 1", "print 2; panic 7", "print 3; exit"), nil, "panic 7: 3 2 1", 0, 13},
		{"exit behind a panic", written("defer 1; defer 2; return 4", "print 1; exit", "print 2; panic 7"), nil, "exit 0: 2 1", 0, 10},
		{"exit in the place of a panic", written("defer 1; panic 4", "print 1; exit"), nil, "exit 0: 1", 0, 6},
		{"a panic in the place of a panic", written("defer 1; panic 4", "print 1; panic 5"), nil, "panic 5: 1", 0, 6},
		{"a panic in the place of exit", written("defer 1; exit", "print 1; panic 5"), nil, "panic 5: 1", 0, 6},
		{"return leaves a panic", written("defer 1; panic 4", "print 1; return 5"), nil, "panic 4: 1", 0, 6},
		{"return leaves exit", written("defer 1; exit", "print 1; return 5"), nil, "exit 0: 1", 0, 6},
		{"three panics", written("defer 1; defer 1; panic 4", "panic in"), numbers(5, 6), "panic 6:", 2, 8},
		{"x / 0 in the place of a panic", written("defer 1; panic 4", "do 1 0 /"), nil, "panic -1:", 0, 5},
		{"puts off itself", written("defer 1; print 1", "defer 2; print 2", "print 3"), nil, "done 0: 1 2 3", 0, 8},
		{"panics, and puts off itself", written("defer 1; print 1", "defer 2; print 2; panic 9", "print 3; print rec"), nil, "done 0: 1 2 3 9", 0, 10},
		{"panics, and puts off one that does not recover", written("defer 1; panic 8", "defer 2; print 2; panic 9", "print 3"), nil, "panic 9: 2 3", 0, 9},
		{"its panic, of one put off, leaves that of the call", written("defer 1; panic 8", "defer 2; panic 9", "print rec"), nil, "panic 8: 9", 0, 8},
		{"a panic behind it in its place", written("defer 1; defer 2; panic 8", "print rec", "defer 3; panic 9", "panic 10"), nil, "done 0: 10", 0, 11},
		{"exit of what it put off", written("defer 1; panic 8", "defer 2; panic 9", "exit"), nil, "exit 0:", 0, 8},
		{"all of the call, however those ended", written("defer 1; defer 2; defer 3; defer 4; exit", "print 1; exit", "print 2; panic 2", "print 3; return 3", "print 4; do 1 0 /"), nil, "exit 0: 4 3 2 1", 0, 18},
		{"function 0", written("if in { defer 0; print 1 } else { print rec; exit }"), numbers(1, 0), "exit 0: 1 0", 2, 8},
	})
}

func TestRecovering(t *testing.T) {
	checkBigCases(t, 12, []bigCase{
		{"while ending by a panic", written("defer 1; panic 40", "print rec"), nil, "done 0: 40", 0, 5},
		{"while ending by return", written("defer 1; return 40", "print rec"), nil, "done 40: 0", 0, 5},
		{"while ending by exit", written("defer 1; exit", "print rec"), nil, "exit 0: 0", 0, 5},
		{"a panic with 0", written("defer 1; panic 0", "print rec; print rec"), nil, "done 0: 0 0", 0, 6},
		{"a second time", written("defer 1; panic 40", "print rec; print rec"), nil, "done 0: 40 0", 0, 6},
		{"a second time in one expression", written("defer 1; panic 40", "print rec rec 1000 * +"), nil, "done 0: 40", 0, 5},
		{"a second time, by another one", written("defer 1; defer 2; panic 40", "print rec", "print rec 1 +"), nil, "done 0: 41 0", 0, 8},
		{"in one that was not put off", written("defer 1; print rec; panic 40", "print 1"), nil, "panic 40: 0 1", 0, 6},
		{"in one that is called", written("print f1; panic 40", "return rec"), nil, "panic 40: 0", 0, 5},
		{"in one that a put off one calls", written("defer 1; panic 40", "print f2", "return rec"), nil, "panic 40: 0", 0, 7},
		{"in one that a put off one calls, and behind it", written("defer 1; panic 40", "print f2; print rec", "print rec; return 5"), nil, "done 0: 0 5 40", 0, 9},
		{"in itself, called by itself", written("defer 1; panic 40", "0 1: set 0 rec; print v0; if v0 { do f1 }"), nil, "done 0: 40 0", 0, 12},
		{"in one put off by a put off one", written("defer 1; panic 40", "defer 2; print 1", "print rec"), nil, "panic 40: 1 0", 0, 8},
		{"in a block", written("defer 1; panic 40", "while rec { if 1 { print 1 } }; if rec { print 2 } else { print 3 }"), nil, "done 0: 1 3", 0, 10},
		{"and a panic with it", written("defer 1; panic 40", "panic rec 1 +"), nil, "panic 41:", 0, 5},
		{"and a panic behind it, recovered", written("defer 1; defer 2; panic 40", "print rec", "print rec; panic 50"), nil, "done 0: 40 50", 0, 9},
		{"and exit behind it", written("defer 1; panic 40", "print rec; exit"), nil, "exit 0: 40", 0, 6},
		{"a panic that took another one's place", written("defer 1; defer 2; panic 40", "print rec; print rec", "panic 50"), nil, "done 0: 50 0", 0, 9},
		{"the result stays", written("print f1", "defer 2; defer 3; return 7", "print rec", "panic 40"), nil, "done 0: 40 7", 0, 10},
		{"without a result", written("print f1", "defer 2; panic 40", "do rec; return 9"), nil, "done 0: 0", 0, 8},
		{"a panic of what a called one raised", written("defer 1; do f2; print 9", "print rec", "panic 40"), nil, "done 0: 40", 0, 7},
		{"nothing, as it was recovered below", written("defer 2; do f1; print 9", "defer 2; panic 40", "print rec"), nil, "done 0: 40 9 0", 0, 11},
		{"to exit, as it was ending so first", written("defer 1; defer 2; exit", "print rec", "panic 40"), nil, "exit 0: 40", 0, 8},
		{"to exit, as it was ending so by another one", written("defer 1; defer 2; defer 3; return 8", "print rec", "panic 40", "exit"), nil, "exit 0: 40", 0, 11},
		{"to exit, as it was ending so ahead of two panics", written("defer 1; defer 2; defer 2; exit", "print rec", "panic in"), numbers(50, 60), "exit 0: 60", 2, 11},
		{"nothing, as exit took the place of a panic", written("defer 1; defer 2; defer 3; panic 30", "print rec; panic 60", "exit", "panic 50"), nil, "panic 60: 0", 0, 12},
		{"to exit, twice", written("defer 1; defer 2; defer 1; defer 2; exit", "print rec", "panic in"), numbers(50, 60), "exit 0: 50 60", 2, 14},
		{"to return, as exit was of another call", written("print f1; print 8", "defer 2; do f3; print 9", "print rec", "defer 4; exit", "panic 40"), nil, "done 0: 40 0 8", 0, 13},
		{"exit of a called one in what is put off", written("defer 1; panic 40", "print rec; do f2; print 7", "exit"), nil, "exit 0: 40", 0, 8},
		{"a panic of a called one in what is put off", written("defer 3; defer 1; panic 40", "do f2", "panic 50", "print rec"), nil, "done 0: 50", 0, 10},
	})
}

// TestFuelThatEnds has with each fuel, from 0 on, how far it comes.
func TestFuelThatEnds(t *testing.T) {
	for _, c := range []struct {
		name  string
		p     impl.Prog
		most  int
		texts []string
	}{
		{"statements", written("print 1; print 2; return 3"), 12, []string{"fuel 0:", "fuel 0:", "fuel 0: 1", "fuel 0: 1 2", "done 3: 1 2", "done 3: 1 2"}},
		{"calls", written("print f1; print 9", "print 5; return 6"), 12, []string{"fuel 0:", "fuel 0:", "fuel 0:", "fuel 0:", "fuel 0: 5", "fuel 0: 5 6", "done 0: 5 6 9", "done 0: 5 6 9"}},
		{"a loop", written("0 1: set 0 2; while v0 { set 0 v0 1 -; print v0 }; return 4"), 12, []string{
			"fuel 0:", "fuel 0:", "fuel 0:", "fuel 0:", "fuel 0:", "fuel 0: 1", "fuel 0: 1", "fuel 0: 1", "fuel 0: 1 0", "fuel 0: 1 0", "done 4: 1 0", "done 4: 1 0"}},
		{"what is put off", written("defer 1; defer 2; panic 7", "print 1; print rec", "print 2; exit"), 12, []string{
			"fuel 0:", "fuel 0:", "fuel 0:", "fuel 0:", "fuel 0:", "fuel 0:", "fuel 0: 2", "fuel 0: 2", "fuel 0: 2", "fuel 0: 2 1", "exit 0: 2 1 0", "exit 0: 2 1 0"}},
		{"fuel is looked at first", written("print 1; do f0"), 1, []string{"fuel 0:", "fuel 0:", "fuel 0: 1", "fuel 0: 1", "deep 0: 1", "deep 0: 1"}},
		{"fuel is looked at first, of what is put off", written("defer 0; panic 5"), 1, []string{"fuel 0:", "fuel 0:", "fuel 0:", "fuel 0:", "deep 0:", "deep 0:"}},
		{"fuel is looked at first, two deep", written("do f0"), 2, []string{"fuel 0:", "fuel 0:", "fuel 0:", "fuel 0:", "fuel 0:", "deep 0:", "deep 0:"}},
	} {
		for fuel, text := range c.texts {
			o, ok := impl.RunBig(c.p, nil, c.most, fuel)
			if s, _ := impl.OutcomeText(o); s != text || !ok {
				t.Errorf("%s, with %d: %q, %v; want %q", c.name, fuel, s, ok, text)
			}
		}
		if n, ok := impl.FuelFor(c.p, nil, c.most); n != len(c.texts)-2 || !ok {
			t.Errorf("%s: FuelFor tells %d, %v", c.name, n, ok)
		}
		checkBig(t, c.p, nil)
	}
}

// TestFuelThatEndsTakesInputs has inputs that are taken ahead of the end of fuel, in the middle of an expression.
func TestFuelThatEndsTakesInputs(t *testing.T) {
	p := written("print in in f1 in +", "2 2: return v0 v1 + in +")
	for fuel, want := range []impl.Outcome{
		{Code: impl.OcFuel}, {Code: impl.OcFuel}, {Code: impl.OcFuel, Used: 2}, {Code: impl.OcFuel, Used: 2},
		{Code: impl.OcDone, Trace: numbers(1111), Used: 4}, {Code: impl.OcDone, Trace: numbers(1111), Used: 4},
	} {
		o, ok := impl.RunBig(p, numbers(1, 10, 100, 1000, 10000), 12, fuel)
		if !ok || !alike(o, want) {
			t.Errorf("with %d: %v, %v; want %v", fuel, o, ok, want)
		}
	}
}

func TestDepth(t *testing.T) {
	down := written("print f1", "0 1: print 1; set 0 f1; print v0")
	for most := 1; most <= 12; most++ {
		// The first call has one statement, and each but the first one two.
		least := 1 + 1 + (most-1)*3 + 1
		want := impl.Outcome{Code: impl.OcDeep, Trace: slices.Repeat(numbers(1), most-1)}
		o, ok := impl.RunBig(down, nil, most, least)
		if !ok || !alike(o, want) {
			t.Errorf("most %d: %v, %v", most, o, ok)
		}
		if n, ok := impl.FuelFor(down, nil, most); n != least || !ok {
			t.Errorf("most %d: FuelFor tells %d, %v; want %d", most, n, ok, least)
		}
		want.Code = impl.OcFuel
		if o, ok := impl.RunBig(down, nil, most, least-1); !ok || !alike(o, want) {
			t.Errorf("most %d, less fuel: %v, %v", most, o, ok)
		}
	}
	for k := range 14 {
		p := written("return "+strconv.Itoa(k)+" f1", "1 1: if v0 { return v0 1 - f1 1 + }; return 0")
		o, ok := impl.RunBig(p, nil, 12, 600)
		want := impl.Outcome{Code: impl.OcDone, Value: k}
		if k > 10 {
			want = impl.Outcome{Code: impl.OcDeep}
		}
		if !ok || !alike(o, want) {
			t.Errorf("%d calls: %v, %v", k+2, o, ok)
		}
		checkBig(t, p, nil)
	}
	checkBig(t, down, nil)
}

// TestDepthOfWhatIsPutOff has calls that are begun still while what they put off is called.
func TestDepthOfWhatIsPutOff(t *testing.T) {
	p := written("defer 1; do f2; panic 3", "print 1; do f2; print rec", "print 2")
	checkBigCases(t, 3, []bigCase{{"three", p, nil, "done 0: 2 1 2 3", 0, 12}})
	checkBigCases(t, 2, []bigCase{
		{"two", p, nil, "deep 0: 2 1", 0, 10},
		{"ended calls do not count", written("do f1; do f1; do f1 f1 +; defer 1; defer 1; defer 1", "print 1"), nil, "done 0: 1 1 1 1 1 1 1", 0, 21},
		{"neither do those that ended by a panic", written("defer 1; defer 1; defer 1; do f2", "print rec; panic 5", "print 3; panic 6"), nil, "panic 5: 3 6 5 5", 0, 17},
		{"nothing takes deep", written("defer 1; do f2; print 7", "print rec", "defer 1; panic 6"), nil, "deep 0:", 0, 7},
		{"what is put off is not called behind deep", written("defer 1; defer 2; panic 3", "print rec", "print 2; do f1; print 4"), nil, "deep 0: 2", 0, 8},
	})
	checkBigCases(t, 1, []bigCase{
		{"one", p, nil, "deep 0:", 0, 4},
		{"a panic is not told", written("defer 1; print 1; panic 3", "print rec"), nil, "deep 0: 1", 0, 5},
		{"a result is not told", written("defer 1; return 3", ""), nil, "deep 0:", 0, 4},
		{"nothing put off", written("print 1; panic 3"), nil, "panic 3: 1", 0, 3},
	})
}

// spends uses that much fuel: 5 or more.
func spends(fuel int) impl.Prog {
	more := ""
	if fuel%2 == 0 {
		more = "; do 1"
		fuel--
	}
	return written("0 1: set 0 " + strconv.Itoa((fuel-3)/2) + "; while v0 { set 0 v0 1 - }" + more)
}

func TestMostFuel(t *testing.T) {
	for fuel := 5; fuel <= 620; fuel++ {
		want, code := fuel, impl.OcDone
		if fuel > 600 {
			want, code = 0, impl.OcFuel
		}
		p := spends(fuel)
		if n, ok := impl.FuelFor(p, nil, 1); n != want || ok != (want > 0) {
			t.Errorf("FuelFor where %d is needed: %d, %v", fuel, n, ok)
		}
		if o, ok := impl.RunBig(p, nil, 1, 600); o.Code != code || !ok {
			t.Errorf("where %d is needed: %v, %v", fuel, o, ok)
		}
		if o, ok := impl.RunBig(p, nil, 1, min(fuel-1, 600)); o.Code != impl.OcFuel || !ok {
			t.Errorf("where %d is needed, with less: %v, %v", fuel, o, ok)
		}
	}
	checkBig(t, spends(600), nil)
	checkBig(t, spends(601), nil)
	checkBigCases(t, 12, []bigCase{
		{"no end", written("0 1: while 1 { set 0 v0 1 + }"), nil, "fuel 0:", 0, 0},
		{"no end of nothing", written("while 1 { }"), nil, "fuel 0:", 0, 0},
	})
	// Deep just where fuel is at its last one, and where it lacks.
	for more, want := range map[int]int{0: 600, 1: 0} {
		p := spends(598 + more)
		stmts := &p.Funcs[0].Stmts
		p.Funcs[0].Body = append(p.Funcs[0].Body, len(*stmts))
		*stmts = append(*stmts, do(call(0)))
		if n, ok := impl.FuelFor(p, nil, 1); n != want || ok != (want > 0) {
			t.Errorf("deep behind %d: %d, %v", 598+more, n, ok)
		}
		checkRuns(t, p, nil, 1, upTo(601))
	}
}

// TestLongestTrace has of 600 one for the call, and then again and again one for the loop and one for each number told.
func TestLongestTrace(t *testing.T) {
	for prints, want := range map[int]int{1: 299, 15: 37*15 + 6} {
		p := written("while 1 { " + strings.Repeat("print 7; ", prints) + "}")
		o, ok := impl.RunBig(p, nil, 1, 600)
		if !ok || !alike(o, impl.Outcome{Code: impl.OcFuel, Trace: slices.Repeat(numbers(7), want)}) {
			t.Errorf("%d numbers, code %d, %v; want %d", len(o.Trace), o.Code, ok, want)
		}
		checkRuns(t, p, nil, 1, upTo(601))
	}
}

func notGood() []impl.Prog {
	fine := written("print 1; return 2").Funcs[0]
	return []impl.Prog{
		{}, program(), program(fine, fine, fine, fine, fine, fine), program(fine, sized(0, 7, flat())), program(sized(1, 1, fine)),
		program(fine, function(numbers(1), exit())), program(function(nil, exit())), program(flat(do(call(1)))), program(flat(putOff(1))),
		program(fine, flat(putOff(2)), sized(1, 1, flat())), program(flat(does(10))), program(flat(does(0))), program(flat(do())),
		program(flat(do(variable(0)))), program(flat(setTo(0, num(1)))), program(flat(do(num(greatest + 1)))), program(flat(do(num(1), num(2)))),
		program(flat(do(plain(impl.ExAdd)))), program(function(numbers(0), while(0))), program(function(numbers(0), while(1), putOff(0))),
		program(flat(slices.Repeat([]impl.Stmt{exit()}, 17)...)), program(flat(slices.Repeat([]impl.Stmt{putOff(0)}, 5)...)),
		{Funcs: make([]impl.Func, 100000)},
	}
}

// expectRun asks for good answers, or for zero ones.
func expectRun(t *testing.T, p impl.Prog, inputs []int, most, fuel int, want bool) {
	t.Helper()
	o, ok := impl.RunBig(p, inputs, most, fuel)
	if ok != want || !ok && !reflect.DeepEqual(o, impl.Outcome{}) {
		t.Errorf("RunBig, %d inputs %v, most %d, fuel %d: %v, %v", len(inputs), inputs[:min(len(inputs), 11)], most, fuel, o, ok)
	}
	if want {
		checkFuel(t, p, inputs, most, fuel)
	}
}

func expectFuelFor(t *testing.T, p impl.Prog, inputs []int, most int, least int, want bool) {
	t.Helper()
	if !want {
		least = 0
	}
	if n, ok := impl.FuelFor(p, inputs, most); n != least || ok != want {
		t.Errorf("FuelFor, %d inputs %v, most %d: %d, %v; want %d, %v", len(inputs), inputs[:min(len(inputs), 11)], most, n, ok, least, want)
	}
}

func TestRunsThatAreNotAsSaid(t *testing.T) {
	p := written("print in; return 2")
	for _, fuel := range append(someInts(), -1, 0, 1, 599, 600, 601) {
		expectRun(t, p, nil, 12, fuel, fuel >= 0 && fuel <= 600)
	}
	for _, most := range append(someInts(), -1, 0, 1, 11, 12, 13) {
		fits := most >= 1 && most <= 12
		expectRun(t, p, nil, most, 600, fits)
		expectFuelFor(t, p, nil, most, 3, fits)
	}
	for _, many := range numbers(0, 1, 9, 10, 11, 12, 1000000) {
		for _, n := range someInts() {
			inputs := slices.Repeat(numbers(n), many)
			fits := many <= 10 && (many == 0 || within(n))
			expectRun(t, p, inputs, 12, 600, fits)
			expectFuelFor(t, p, inputs, 12, 3, fits)
			if many > 0 && many <= 10 {
				// Only the last one is odd, which is not even taken.
				last := append(make([]int, many-1), n)
				expectRun(t, p, last, 12, 0, within(n))
				expectFuelFor(t, p, last, 12, 3, within(n))
			}
		}
	}
	for _, p := range notGood() {
		if wantGood(p) {
			t.Fatalf("good: %v", p)
		}
		for _, fuel := range numbers(0, 1, 600) {
			expectRun(t, p, nil, 12, fuel, false)
			expectRun(t, p, numbers(1, 2), 1, fuel, false)
		}
		expectFuelFor(t, p, nil, 12, 0, false)
		expectFuelFor(t, p, numbers(1, 2), 1, 0, false)
	}
}

func TestOutcomeText(t *testing.T) {
	long := slices.Repeat(numbers(-1), 600)
	for _, c := range []struct {
		o    impl.Outcome
		text string
	}{
		{impl.Outcome{Code: impl.OcDone}, "done 0:"}, {impl.Outcome{Code: impl.OcPanic, Value: -1}, "panic -1:"},
		{impl.Outcome{Code: impl.OcExit, Trace: numbers(3)}, "exit 0: 3"}, {impl.Outcome{Code: impl.OcDeep, Trace: numbers(-3, 0, 10)}, "deep 0: -3 0 10"},
		{impl.Outcome{Code: impl.OcFuel, Used: 4}, "fuel 0:"}, {impl.Outcome{Code: impl.OcFuel, Value: 5, Trace: []int{}, Used: -4}, "fuel 5:"},
		{impl.Outcome{Code: impl.OcExit, Value: least, Trace: numbers(greatest, least), Used: greatest}, "exit -2147483648: 2147483647 -2147483648"},
		{impl.Outcome{Code: impl.OcDeep, Value: greatest, Used: least}, "deep 2147483647:"},
		{impl.Outcome{Code: impl.OcDone, Value: 12, Trace: long}, "done 12:" + strings.Repeat(" -1", 600)},
	} {
		if s, ok := impl.OutcomeText(c.o); s != c.text || !ok {
			t.Errorf("OutcomeText(%v): %q, %v; want %q", c.o, s, ok, c.text)
		}
	}
	fine := impl.Outcome{Code: impl.OcDone, Value: 1, Trace: numbers(2, 3), Used: 4}
	for _, n := range append(someInts(), -1, 5, 6) {
		for name, change := range map[string]func(o *impl.Outcome) bool{
			"Code":            func(o *impl.Outcome) bool { o.Code = n; return n >= 1 && n <= 5 },
			"Value":           func(o *impl.Outcome) bool { o.Value = n; return within(n) },
			"Used":            func(o *impl.Outcome) bool { o.Used = n; return within(n) },
			"first of Trace":  func(o *impl.Outcome) bool { o.Trace = numbers(n, 3); return within(n) },
			"last of Trace":   func(o *impl.Outcome) bool { o.Trace = numbers(2, n); return within(n) },
			"end of a long":   func(o *impl.Outcome) bool { o.Trace = append(long[:599:599], n); return within(n) },
			"behind the most": func(o *impl.Outcome) bool { o.Trace = append(long[:600:600], n); return false },
		} {
			o := fine
			want := ""
			fits := change(&o)
			if fits {
				want = wantText(o)
			}
			if s, ok := impl.OutcomeText(o); s != want || ok != fits {
				t.Errorf("%s %d: %q, %v", name, n, s, ok)
			}
		}
	}
	if s, ok := impl.OutcomeText(impl.Outcome{}); s != "" || ok {
		t.Errorf("of nothing: %q, %v", s, ok)
	}
	if s, ok := impl.OutcomeText(impl.Outcome{Code: 1, Trace: make([]int, 1000000)}); s != "" || ok {
		t.Errorf("of a trace too long: %d bytes, %v", len(s), ok)
	}
}

func TestSameOutcomeAndTraceBegins(t *testing.T) {
	traces := [][]int{
		nil, {}, {0}, {1}, {1, 2}, {1, 3}, {2, 1}, {0, 0}, {1, 2, 3}, {1, 2, 4}, {0, 2, 3}, {1, 2, math.MaxInt},
		upTo(600), append(upTo(599), 600), upTo(601), upTo(599), make([]int, 5000),
	}
	same, begins := 0, 0
	for i, a := range traces {
		for j, b := range traces {
			bothEmpty := i < 2 && j < 2
			x, y := impl.Outcome{Code: 1, Value: 2, Trace: a, Used: 3}, impl.Outcome{Code: 1, Value: 2, Trace: b, Used: 3}
			if impl.SameOutcome(x, y) != (i == j || bothEmpty) {
				t.Errorf("SameOutcome of traces %d and %d", i, j)
			}
			want := len(a) <= len(b) && slices.Equal(a, b[:len(a)])
			if impl.TraceBegins(x, y) != want {
				t.Errorf("TraceBegins of traces %d and %d", i, j)
			}
			y.Code, y.Value, y.Used = 7, math.MinInt, -1
			if impl.TraceBegins(x, y) != want || impl.SameOutcome(x, y) {
				t.Errorf("traces %d and %d, all else unlike", i, j)
			}
			if want {
				begins++
			}
			if i == j || bothEmpty {
				same++
			}
		}
	}
	if same != len(traces)+2 || begins <= same {
		t.Errorf("%d the same, %d begin", same, begins)
	}
	for _, c := range []struct {
		a, b []int
		want bool
	}{
		{nil, nil, true}, {nil, numbers(5), true}, {numbers(5), nil, false}, {numbers(5), numbers(5, 6), true}, {numbers(5, 6), numbers(5), false},
		{numbers(5, 6), numbers(5, 6), true}, {numbers(5, 7), numbers(5, 6), false}, {numbers(6), numbers(5, 6), false}, {numbers(5, 7), numbers(5, 6, 7), false},
	} {
		if got := impl.TraceBegins(impl.Outcome{Trace: c.a}, impl.Outcome{Trace: c.b}); got != c.want {
			t.Errorf("TraceBegins of %v and %v: %v", c.a, c.b, got)
		}
	}
	for _, n := range someInts() {
		a := impl.Outcome{Code: n, Value: n, Trace: numbers(4, n), Used: n}
		if !impl.SameOutcome(a, impl.Outcome{Code: n, Value: n, Trace: numbers(4, n), Used: n}) {
			t.Errorf("%v is not the same as itself", a)
		}
		for _, b := range []impl.Outcome{
			{Code: n + 1, Value: n, Trace: numbers(4, n), Used: n}, {Code: n, Value: n + 1, Trace: numbers(4, n), Used: n},
			{Code: n, Value: n, Trace: numbers(4, n+1), Used: n}, {Code: n, Value: n, Trace: numbers(4, n), Used: n + 1},
			{Code: n, Value: n, Trace: numbers(5, n), Used: n}, {Code: n, Value: n, Trace: numbers(4), Used: n}, {Code: n, Value: n, Trace: numbers(4, n, 0), Used: n},
		} {
			if impl.SameOutcome(a, b) || impl.SameOutcome(b, a) {
				t.Errorf("%v and %v are the same", a, b)
			}
		}
	}
}

// livelyMaker is a maker of programs that come far: few calls of functions ahead, so that not all end by depth, and much that is put off, raised and recovered.
type livelyMaker struct {
	maker
	self int
}

func (m *livelyMaker) leaf() impl.Tok {
	switch m.r.Intn(8) {
	case 0, 1:
		return plain(impl.ExRecover)
	case 2:
		return plain(impl.ExInput)
	case 3, 4:
		if m.vars > 0 {
			return variable(m.r.Intn(m.vars))
		}
	}
	return num(m.r.Intn(9) - 2)
}

// callee is mostly behind the function itself; -1 where there is none of so many Params.
func (m *livelyMaker) callee(most int) int {
	for range 6 {
		fn := m.r.Intn(len(m.params))
		if m.params[fn] <= most && (fn > m.self || m.r.Intn(50) == 0) {
			return fn
		}
	}
	return -1
}

func (m *livelyMaker) expr() []impl.Tok {
	e := []impl.Tok{m.leaf()}
	for m.r.Intn(3) > 0 && len(e) < 9 {
		fn := m.callee(2)
		switch {
		case fn >= 0 && m.params[fn] == 1:
			e = append(e, call(fn))
		case fn >= 0 && m.params[fn] == 2:
			e = append(e, m.leaf(), call(fn))
		case fn >= 0:
			e = append(e, call(fn), plain(impl.ExAdd+m.r.Intn(6)))
		default:
			e = append(e, m.leaf(), plain(impl.ExAdd+m.r.Intn(6)))
		}
	}
	return e
}

// pick is a kind of statement; those that end a Body are rare.
func (m *livelyMaker) pick(inLoop bool) int {
	kinds := []int{
		impl.StPrint, impl.StPrint, impl.StPrint, impl.StDo, impl.StDo, impl.StIf, impl.StIf, impl.StWhile,
		impl.StPanic, impl.StPanic, impl.StReturn, impl.StExit,
	}
	if m.vars > 0 {
		kinds = append(kinds, impl.StSet, impl.StSet, impl.StSet)
	}
	if !inLoop && m.sites < 4 && m.callee(0) >= 0 {
		kinds = append(kinds, impl.StDefer, impl.StDefer, impl.StDefer, impl.StDefer, impl.StDefer, impl.StDefer)
	}
	return kinds[m.r.Intn(len(kinds))]
}

func (m *livelyMaker) lay(inLoop bool, most int) []int {
	var l []int
	for range m.r.Intn(most) {
		if len(m.stmts) >= m.most {
			break
		}
		l = append(l, len(m.stmts))
		m.write(inLoop)
	}
	return l
}

func (m *livelyMaker) write(inLoop bool) {
	at := len(m.stmts)
	s := impl.Stmt{Kind: m.pick(inLoop)}
	m.stmts = append(m.stmts, s)
	switch s.Kind {
	case impl.StDefer:
		s.N = max(m.callee(0), 0)
		m.sites++
	case impl.StExit:
	case impl.StSet:
		s.N = m.r.Intn(m.vars)
		fallthrough
	default:
		s.Ex = m.expr()
	}
	if s.Kind == impl.StWhile && m.r.Intn(3) == 0 {
		s.Ex = ones(1)
	}
	if s.Kind == impl.StIf || s.Kind == impl.StWhile {
		s.Then = m.lay(inLoop || s.Kind == impl.StWhile, 4)
	}
	if s.Kind == impl.StIf {
		s.Else = m.lay(inLoop, 3)
	}
	m.stmts[at] = s
}

// putSomeOff is what a Body begins with, so that much of it ends with something put off.
func (m *livelyMaker) putSomeOff() {
	for range m.r.Intn(4) {
		if fn := m.callee(0); fn >= 0 {
			m.stmts = append(m.stmts, putOff(fn))
			m.sites++
		}
	}
}

// livelyProg is always good.
func livelyProg(r *rand.Rand) impl.Prog {
	params := []int{0}
	for range 1 + r.Intn(4) {
		params = append(params, max(0, r.Intn(5)-2))
	}
	var p impl.Prog
	for fn, n := range params {
		m := &livelyMaker{maker: maker{r: r, vars: n + r.Intn(7-n), params: params, most: 3 + r.Intn(10)}, self: fn}
		m.putSomeOff()
		body := append(upTo(len(m.stmts)), m.lay(false, 8)...)
		p.Funcs = append(p.Funcs, impl.Func{Params: n, Vars: m.vars, Body: body, Stmts: m.stmts})
	}
	return p
}

func randomInputs(r *rand.Rand) []int {
	inputs := make([]int, r.Intn(11))
	for i := range inputs {
		inputs[i] = r.Intn(7) - 2
		if r.Intn(10) == 0 {
			inputs[i] = randomNumber(r)
		}
	}
	return inputs
}

// someFuels rise, and are close to each other where most runs end.
func someFuels(r *rand.Rand) []int {
	fuels := numbers(0, 1, 2, 3)
	for last := 3; last < 600; {
		last = min(600, last+1+r.Intn(1+last/2))
		fuels = append(fuels, last)
	}
	return fuels
}

func TestRandomRuns(t *testing.T) {
	r := rand.New(rand.NewSource(10))
	codes := map[int]int{}
	for round := range 12000 {
		p := livelyProg(r)
		if round%5 == 0 {
			p = randomProg(r)
		}
		if !impl.GoodProg(p) {
			t.Fatalf("not good: %v", p)
		}
		inputs := randomInputs(r)
		most := min(12, 1+r.Intn(20))
		was := cloneProg(p)
		wasInputs := slices.Clone(inputs)
		checkRuns(t, p, inputs, most, someFuels(r))
		o, _ := wantBig(p, inputs, most, 600, map[string]int{})
		codes[o.Code]++
		if !reflect.DeepEqual(p, was) || !slices.Equal(inputs, wasInputs) {
			t.Fatalf("changed: %v, %v, was %v, %v", p, inputs, was, wasInputs)
		}
	}
	for code := 1; code <= 5; code++ {
		if codes[code] < 200 {
			t.Errorf("outcomes by code: %v", codes)
		}
	}
}

// TestRandomRunsComeFar asks for how often the rare things are done by such programs as TestRandomRuns has.
func TestRandomRunsComeFar(t *testing.T) {
	r := rand.New(rand.NewSource(10))
	seen := map[string]int{}
	for range 20000 {
		wantBig(livelyProg(r), randomInputs(r), 12, 600, seen)
	}
	for _, name := range []string{
		"divided", "recover, not put off", "recover, no panic", "recovered", "recovered to exit",
		"ends by 2 over 1, put off true", "ends by 2 over 2, put off true", "ends by 2 over 3, put off true",
		"ends by 3 over 1, put off true", "ends by 3 over 2, put off true", "ends by 3 over 3, put off true",
		"ends by 2 over 1, put off false", "ends by 3 over 1, put off false",
	} {
		if seen[name] < 50 {
			t.Errorf("%s: %d", name, seen[name])
		}
	}
}

// TestSpoiledRuns has programs and inputs of which some are not as said.
func TestSpoiledRuns(t *testing.T) {
	r := rand.New(rand.NewSource(11))
	good, bad := 0, 0
	for range 8000 {
		p := livelyProg(r)
		spoil(r, &p)
		inputs := randomInputs(r)
		if r.Intn(4) == 0 {
			inputs = append(inputs, someInts()[r.Intn(len(someInts()))])
		}
		most, fuel := r.Intn(15)-1, r.Intn(640)-20
		fits := wantGood(p) && len(inputs) <= 10 && !slices.ContainsFunc(inputs, func(n int) bool { return !within(n) }) && most >= 1 && most <= 12
		expectRun(t, p, inputs, most, fuel, fits && fuel >= 0 && fuel <= 600)
		if fits {
			good++
			checkFuelFor(t, p, inputs, most)
		} else {
			bad++
			expectFuelFor(t, p, inputs, most, 0, false)
		}
	}
	if good < 500 || bad < 3000 {
		t.Errorf("%d good, %d bad", good, bad)
	}
}

func TestRunsLeaveTheirArguments(t *testing.T) {
	r := rand.New(rand.NewSource(12))
	for range 500 {
		p := withSpare(livelyProg(r))
		inputs := spare(randomInputs(r), 5, 6, math.MaxInt)
		was, wasInputs := wholeOf(p), slices.Clone(inputs[:cap(inputs)])
		checkRuns(t, p, inputs, 12, numbers(0, 1, 7, 30, 600))
		if now := wholeOf(p); !reflect.DeepEqual(now, was) {
			t.Fatalf("changed: %v, was %v", now, was)
		}
		if !slices.Equal(inputs[:cap(inputs)], wasInputs) {
			t.Fatalf("changed: %v, was %v", inputs[:cap(inputs)], wasInputs)
		}
	}
	for _, long := range numbers(0, 1, 5, 599, 600, 601) {
		a := impl.Outcome{Code: 1, Trace: spare(upTo(long), 7, math.MaxInt)}
		b := impl.Outcome{Code: 1, Trace: spare(upTo(long), 8, math.MinInt)}
		wasA, wasB := slices.Clone(a.Trace[:cap(a.Trace)]), slices.Clone(b.Trace[:cap(b.Trace)])
		s, ok := impl.OutcomeText(a)
		if ok != (long <= 600) || ok && s != wantText(a) {
			t.Errorf("OutcomeText of %d numbers: %q, %v", long, s, ok)
		}
		if !impl.SameOutcome(a, b) || !impl.TraceBegins(a, b) || !impl.TraceBegins(b, a) {
			t.Errorf("%d numbers, and what lies behind them", long)
		}
		if !slices.Equal(a.Trace[:cap(a.Trace)], wasA) || !slices.Equal(b.Trace[:cap(b.Trace)], wasB) {
			t.Errorf("changed, of %d numbers", long)
		}
	}
}

func TestTracesAreNewMemory(t *testing.T) {
	p := withSpare(written("0 1: defer 1; set 0 in; print v0; print in; print in; panic 3", "print rec; print in"))
	inputs := spare(numbers(1, 2, 3, 4), 5, 6)
	was := wholeOf(p)
	for range 3 {
		a, _ := impl.RunBig(p, inputs, 12, 600)
		b, _ := impl.RunBig(p, inputs, 12, 600)
		if !slices.Equal(a.Trace, numbers(1, 2, 3, 3, 4)) || a.Used != 4 {
			t.Fatalf("%v", a)
		}
		scribble(a.Trace)
		if !slices.Equal(b.Trace, numbers(1, 2, 3, 3, 4)) {
			t.Errorf("two answers share memory: %v", b.Trace)
		}
		if !slices.Equal(inputs[:cap(inputs)][:6], numbers(1, 2, 3, 4, 5, 6)) || !reflect.DeepEqual(wholeOf(p), was) {
			t.Errorf("an answer shares memory with an argument: %v, %v", inputs[:cap(inputs)], p)
		}
	}
}
