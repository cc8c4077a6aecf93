package tests

import (
	"fmt"
	"math"
	"math/rand"
	"reflect"
	"slices"
	"strings"
	"testing"

	"loop.example/g00745/impl"
)

// insOf has by Op of a token what becomes of it, with its N behind it where `%d` stands.
var insOf = map[int]string{
	impl.ExNum: "num %d", impl.ExVar: "var %d", impl.ExCall: "call %d", impl.ExInput: "input", impl.ExRecover: "recover",
	impl.ExAdd: "reckon 3", impl.ExSub: "reckon 4", impl.ExMul: "reckon 5", impl.ExDiv: "reckon 6", impl.ExLess: "reckon 7", impl.ExSame: "reckon 8",
}

func wantToken(tok impl.Tok) string {
	if text := insOf[tok.Op]; strings.Contains(text, "%") {
		return fmt.Sprintf(text, tok.N)
	}
	return insOf[tok.Op]
}

func tokenAsSaid(tok impl.Tok) bool {
	switch tok.Op {
	case impl.ExNum:
		return within(tok.N)
	case impl.ExVar, impl.ExCall:
		return tok.N >= 0 && tok.N <= 99
	}
	return tok.Op >= 3 && tok.Op <= 10 && tok.N == 0
}

func wantLowerExpr(e []impl.Tok) ([]impl.Ins, bool) {
	var l []impl.Ins
	if len(e) < 1 || len(e) > 12 {
		return nil, false
	}
	for _, tok := range e {
		if !tokenAsSaid(tok) {
			return nil, false
		}
		l = append(l, insIn(wantToken(tok)))
	}
	return l, true
}

func checkLowerExpr(t *testing.T, e []impl.Tok) bool {
	t.Helper()
	want, wantOk := wantLowerExpr(e)
	l, ok := impl.LowerExpr(e)
	if !slices.Equal(l, want) || ok != wantOk {
		t.Fatalf("LowerExpr(%v) = %v, %t, want %v, %t", e, l, ok, want, wantOk)
	}
	return ok
}

// assembler writes instructions as texts in which labels may stand, which become places when all is written.
type assembler struct {
	f      impl.Func
	sites  []int
	lines  []string
	labels int
	places []string
}

func (a *assembler) add(line string) { a.lines = append(a.lines, line) }

func (a *assembler) label() string {
	a.labels++
	return fmt.Sprintf("<%d>", a.labels)
}

func (a *assembler) here(label string) {
	a.places = append(a.places, label, fmt.Sprint(len(a.lines)))
}

func (a *assembler) expr(e []impl.Tok) {
	for _, tok := range e {
		a.add(wantToken(tok))
	}
}

func (a *assembler) block(numbers []int) {
	for _, n := range numbers {
		a.statement(n)
	}
}

func (a *assembler) statement(n int) {
	s := a.f.Stmts[n]
	first, other, behind := a.label(), a.label(), a.label()
	a.here(first)
	a.expr(s.Ex)
	switch s.Kind {
	case impl.StSet:
		a.add(fmt.Sprint("set ", s.N))
	case impl.StPrint:
		a.add("print")
	case impl.StDo:
		a.add("drop")
	case impl.StPanic:
		a.add("panic")
	case impl.StReturn:
		a.add("result")
		a.add("leave")
	case impl.StExit:
		a.add("exit")
	case impl.StDefer:
		a.add(fmt.Sprint("put ", slices.Index(a.sites, n)))
	case impl.StIf:
		a.add("unless " + other)
		a.block(s.Then)
		a.add("jump " + behind)
		a.here(other)
		a.block(s.Else)
	case impl.StWhile:
		a.add("unless " + behind)
		a.block(s.Then)
		a.add("jump " + first)
	}
	a.here(behind)
}

func wantLower(f impl.Func) impl.Code {
	a := &assembler{f: f, sites: wantSites(f)}
	a.block(f.Body)
	a.add("leave")
	c := impl.Code{Params: f.Params, Vars: f.Vars, Rows: []impl.Row{{From: 0, To: len(a.lines), Pad: len(a.lines)}}}
	for _, n := range a.sites {
		c.Sites = append(c.Sites, f.Stmts[n].N)
	}
	for left := len(a.sites); left > 0; left-- {
		c.Rows = append(c.Rows, impl.Row{From: len(a.lines), To: len(a.lines) + 1, Pad: len(a.lines) + 1})
		a.add(fmt.Sprint("off ", left-1))
	}
	a.add("end")
	places := strings.NewReplacer(a.places...)
	for _, line := range a.lines {
		c.Ins = append(c.Ins, insIn(places.Replace(line)))
	}
	return c
}

func sameCode(a, b impl.Code) bool {
	return a.Params == b.Params && a.Vars == b.Vars && slices.Equal(a.Sites, b.Sites) && slices.Equal(a.Ins, b.Ins) && slices.Equal(a.Rows, b.Rows)
}

func emptyCode(c impl.Code) bool {
	return sameCode(c, impl.Code{})
}

// checkSites asks for the number of the site of each statement, and of numbers that are none.
func checkSites(t *testing.T, p impl.Prog, fn int, good bool) {
	t.Helper()
	var stmts []int
	if good {
		stmts = wantSites(p.Funcs[fn])
	}
	for _, stmt := range append(upTo(18), -1, -2, math.MinInt, math.MaxInt, 1<<32) {
		want := slices.Index(stmts, stmt)
		site, ok := impl.SiteOf(p, fn, stmt)
		if ok != (want >= 0) || site != max(want, 0) {
			t.Fatalf("SiteOf(%v, %d, %d) = %d, %t, want %d", p, fn, stmt, site, ok, want)
		}
	}
}

// checkLowerFunc holds all that is told of one function against what is wanted.
func checkLowerFunc(t *testing.T, p impl.Prog, fn int, good bool) {
	t.Helper()
	good = good && fn >= 0 && fn < len(p.Funcs)
	var want impl.Code
	if good {
		want = wantLower(p.Funcs[fn])
	}
	if c, ok := impl.LowerFunc(p, fn); !sameCode(c, want) || ok != good {
		t.Fatalf("LowerFunc(%v, %d) = %v, %t, want %v, %t", p, fn, c, ok, want, good)
	}
	if n, ok := impl.LongOf(p, fn); n != len(want.Ins) || ok != good {
		t.Fatalf("LongOf(%v, %d) = %d, %t, want %d, %t", p, fn, n, ok, len(want.Ins), good)
	}
	checkSites(t, p, fn, good)
	if !good {
		return
	}
	if pad, ok := impl.PadOf(want); pad != len(want.Ins)-1-len(want.Sites) || !ok {
		t.Fatalf("PadOf(%v) = %d, %t", want, pad, ok)
	}
}

// checkLower holds all that is told of a program against what is wanted; whether it is good. It is promise 6, too.
func checkLower(t *testing.T, p impl.Prog) bool {
	t.Helper()
	good := wantGood(p)
	for fn := -2; fn <= min(len(p.Funcs), 6)+1; fn++ {
		checkLowerFunc(t, p, fn, good)
	}
	checkLowerFunc(t, p, math.MinInt, good)
	checkLowerFunc(t, p, math.MaxInt, good)
	x, ok := impl.LowerProg(p)
	if ok != good || !ok && len(x.Codes) != 0 {
		t.Fatalf("LowerProg(%v) = %v, %t", p, x, ok)
	}
	if !good {
		return false
	}
	if len(x.Codes) != len(p.Funcs) {
		t.Fatalf("LowerProg(%v) = %v", p, x)
	}
	for fn, f := range p.Funcs {
		if !sameCode(x.Codes[fn], wantLower(f)) {
			t.Fatalf("code %d of LowerProg(%v) = %v", fn, p, x.Codes[fn])
		}
	}
	checkVerified(t, x)
	return true
}

// checkVerified is promise 6, by the verifier and by that of the tests.
func checkVerified(t *testing.T, x impl.Image) {
	t.Helper()
	if !impl.GoodImage(x) || !checkImage(t, x) {
		t.Fatalf("not good: %v", x)
	}
	for fn, c := range x.Codes {
		heights, ok := impl.HeightsOf(x, fn)
		if !ok || len(heights) != len(c.Ins) {
			t.Fatalf("HeightsOf(%v, %d) = %v, %t", x, fn, heights, ok)
		}
		pad, ok := impl.PadOf(c)
		if !ok || slices.ContainsFunc(heights[pad:], func(n int) bool { return n != 0 }) {
			t.Fatalf("from the pad %d, %t on the heights of code %d of %v are %v", pad, ok, fn, x, heights)
		}
	}
}

func TestLowerExpr(t *testing.T) {
	for _, c := range []struct{ e, code string }{
		{"0", "num 0"}, {"-7", "num -7"}, {"2147483647", "num 2147483647"}, {"-2147483648", "num -2147483648"},
		{"v0", "var 0"}, {"v5", "var 5"}, {"f0", "call 0"}, {"f4", "call 4"}, {"in", "input"}, {"rec", "recover"},
		{"1 2 +", "num 1; num 2; reckon 3"}, {"1 2 -", "num 1; num 2; reckon 4"}, {"1 2 *", "num 1; num 2; reckon 5"},
		{"1 2 /", "num 1; num 2; reckon 6"}, {"1 2 <", "num 1; num 2; reckon 7"}, {"1 2 =", "num 1; num 2; reckon 8"},
		{"in rec f2 v1 3 * -", "input; recover; call 2; var 1; num 3; reckon 5; reckon 4"},
		{"1 2 3 4 5 6 + + + + + f1", "num 1; num 2; num 3; num 4; num 5; num 6; reckon 3; reckon 3; reckon 3; reckon 3; reckon 3; call 1"},
		// These are no good expressions: too few or too many numbers, variables and functions that can not be there.
		{"+", "reckon 3"}, {"-", "reckon 4"}, {"*", "reckon 5"}, {"/", "reckon 6"}, {"<", "reckon 7"}, {"=", "reckon 8"},
		{"1 2", "num 1; num 2"}, {"1 +", "num 1; reckon 3"}, {"v6", "var 6"}, {"v99", "var 99"}, {"f5", "call 5"}, {"f99", "call 99"},
		{"= < v99 rec in f99 1", "reckon 8; reckon 7; var 99; recover; input; call 99; num 1"},
		{"1 2 3 4 5 6 7 8 9 10 11 12", "num 1; num 2; num 3; num 4; num 5; num 6; num 7; num 8; num 9; num 10; num 11; num 12"},
		{"+ + + + + + + + + + + +", "reckon 3; reckon 3; reckon 3; reckon 3; reckon 3; reckon 3; reckon 3; reckon 3; reckon 3; reckon 3; reckon 3; reckon 3"},
	} {
		e, ok := impl.ReadExpr(c.e)
		if !ok {
			t.Fatalf("no tokens: %q", c.e)
		}
		if l, ok := impl.LowerExpr(e); !slices.Equal(l, code(c.code).Ins) || !ok {
			t.Errorf("LowerExpr(%q) = %v, %t, want %s", c.e, l, ok, c.code)
		}
		checkLowerExpr(t, e)
	}
}

func TestHowManyTokensLowerExprTakes(t *testing.T) {
	for _, many := range numbers(0, 1, 2, 11, 12, 13, 14, 24, 100000) {
		for _, tok := range []impl.Tok{num(1), variable(0), call(0), plain(impl.ExAdd), plain(impl.ExInput), plain(impl.ExRecover)} {
			e := slices.Repeat([]impl.Tok{tok}, many)
			l, ok := impl.LowerExpr(e)
			if ok != (many >= 1 && many <= impl.MaxTokens) || ok && len(l) != many || !ok && len(l) != 0 {
				t.Errorf("%d of %v: %v, %t", many, tok, l, ok)
			}
			checkLowerExpr(t, e)
		}
	}
	checkLowerExpr(t, nil)
	checkLowerExpr(t, []impl.Tok{})
}

// TestLowerExprOfAllTokens has each odd token alone, and behind and ahead of others; there is an answer just where ExprText has one.
func TestLowerExprOfAllTokens(t *testing.T) {
	good := 0
	ops := append(someInts(), upTo(14)...)
	for _, op := range ops {
		for _, n := range append(someInts(), 98, 101) {
			tok := impl.Tok{Op: op, N: n}
			for _, e := range [][]impl.Tok{{tok}, {tok, num(1)}, {num(1), tok}, append(ones(11), tok), append([]impl.Tok{tok}, ones(11)...)} {
				_, told := impl.ExprText(e)
				if ok := checkLowerExpr(t, e); ok != told {
					t.Fatalf("LowerExpr(%v) tells %t, ExprText %t", e, ok, told)
				} else if ok {
					good++
				}
			}
		}
	}
	if good < 100 {
		t.Errorf("%d with an answer", good)
	}
}

func TestLowerExprOfRandomTokens(t *testing.T) {
	r := rand.New(rand.NewSource(60))
	for range 5000 {
		e := randomTokens(r)
		if !checkLowerExpr(t, e) {
			t.Fatalf("LowerExpr(%v) tells false", e)
		}
		at := r.Intn(len(e))
		e[at].N = someInts()[r.Intn(len(someInts()))]
		checkLowerExpr(t, e)
		e[at].Op = r.Intn(14) - 1
		checkLowerExpr(t, e)
	}
}

// lowerCase is of the first function; of those behind it function 1 has no Params, function 2 has one and function 3 two.
type lowerCase struct {
	text string
	code string
}

func checkLowerCases(t *testing.T, cases []lowerCase) {
	t.Helper()
	for _, c := range cases {
		p := written(c.text, "", "1 1:", "2 2:")
		want := code(c.code)
		if l, ok := impl.LowerFunc(p, 0); !sameCode(l, want) || !ok {
			t.Errorf("%s: %v, %t, want %s", c.text, l, ok, c.code)
		}
		if x, ok := impl.LowerProg(p); !ok || len(x.Codes) != 4 || !sameCode(x.Codes[0], want) {
			t.Errorf("%s: %v, %t, want %s", c.text, x, ok, c.code)
		}
		if n, ok := impl.LongOf(p, 0); n != len(want.Ins) || !ok {
			t.Errorf("%s: %d, %t", c.text, n, ok)
		}
		if pad, ok := impl.PadOf(want); pad != want.Rows[0].To || !ok {
			t.Errorf("%s: %d, %t", c.text, pad, ok)
		}
		if !checkLower(t, p) {
			t.Errorf("%s is not good", c.text)
		}
	}
}

func TestLowerEachKind(t *testing.T) {
	checkLowerCases(t, []lowerCase{
		{"", "leave; end | 0 1 1"}, {"0 6:", "0 6: leave; end | 0 1 1"},
		{"0 1: set 0 -3", "0 1: num -3; set 0; leave; end | 0 3 3"}, {"0 6: set 5 v4 v3 +", "0 6: var 4; var 3; reckon 3; set 5; leave; end | 0 5 5"},
		{"print in", "input; print; leave; end | 0 3 3"}, {"do rec", "recover; drop; leave; end | 0 3 3"},
		{"panic 7", "num 7; panic; leave; end | 0 3 3"}, {"return 7", "num 7; result; leave; leave; end | 0 4 4"}, {"exit", "exit; leave; end | 0 2 2"},
		{"defer 1", "put 0; leave; off 0; end | 0 2 2, 2 3 3 | 1"}, {"defer 0", "put 0; leave; off 0; end | 0 2 2, 2 3 3 | 0"},
		{"do f1", "call 1; drop; leave; end | 0 3 3"}, {"do 5 f2", "num 5; call 2; drop; leave; end | 0 4 4"}, {"return 5 6 f3", "num 5; num 6; call 3; result; leave; leave; end | 0 6 6"},
		{"print 1 2 +; panic 3 4 /", "num 1; num 2; reckon 3; print; num 3; num 4; reckon 6; panic; leave; end | 0 9 9"},
		// What stands behind what ends the Body is there all the same.
		{"return 1; return 2", "num 1; result; leave; num 2; result; leave; leave; end | 0 7 7"}, {"exit; print 1; panic 2", "exit; num 1; print; num 2; panic; leave; end | 0 6 6"},
	})
}

func TestLowerIf(t *testing.T) {
	checkLowerCases(t, []lowerCase{
		{"if in { print 1 } else { print 2 }", "input; unless 5; num 1; print; jump 7; num 2; print; leave; end | 0 8 8"},
		{"if in { print 1 } else { print 2 }; exit", "input; unless 5; num 1; print; jump 7; num 2; print; exit; leave; end | 0 9 9"},
		{"if in { print 1 }", "input; unless 5; num 1; print; jump 5; leave; end | 0 6 6"}, {"if in { print 1 }; exit", "input; unless 5; num 1; print; jump 5; exit; leave; end | 0 7 7"},
		{"if in { } else { print 2 }", "input; unless 3; jump 5; num 2; print; leave; end | 0 6 6"}, {"if in { } else { print 2 }; exit", "input; unless 3; jump 5; num 2; print; exit; leave; end | 0 7 7"},
		{"if in { }", "input; unless 3; jump 3; leave; end | 0 4 4"}, {"if in { }; exit", "input; unless 3; jump 3; exit; leave; end | 0 5 5"},
		{"exit; if in 2 < { print 1; exit } else { exit; exit; exit }", "exit; input; num 2; reckon 7; unless 9; num 1; print; exit; jump 12; exit; exit; exit; leave; end | 0 13 13"},
		{"if in { exit } else { return 1 }; if in { return 2 }", "input; unless 4; exit; jump 7; num 1; result; leave; input; unless 13; num 2; result; leave; jump 13; leave; end | 0 14 14"},
		// One in the other: in Then, in Else, in both.
		{"if 1 { if 2 { exit } else { exit } } else { exit }", "num 1; unless 8; num 2; unless 6; exit; jump 7; exit; jump 9; exit; leave; end | 0 10 10"},
		{"if 1 { exit } else { if 2 { exit } else { exit } }", "num 1; unless 4; exit; jump 9; num 2; unless 8; exit; jump 9; exit; leave; end | 0 10 10"},
		{"if 1 { if 2 { } } else { if 3 { } }", "num 1; unless 6; num 2; unless 5; jump 5; jump 9; num 3; unless 9; jump 9; leave; end | 0 10 10"},
		{"if 1 { if 2 { if 3 { exit } } }", "num 1; unless 10; num 2; unless 9; num 3; unless 8; exit; jump 8; jump 9; jump 10; leave; end | 0 11 11"},
	})
}

func TestLowerWhile(t *testing.T) {
	checkLowerCases(t, []lowerCase{
		{"while in { print 1 }", "input; unless 5; num 1; print; jump 0; leave; end | 0 6 6"}, {"while in { print 1 }; exit", "input; unless 5; num 1; print; jump 0; exit; leave; end | 0 7 7"},
		{"while in { }", "input; unless 3; jump 0; leave; end | 0 4 4"}, {"while in { }; exit", "input; unless 3; jump 0; exit; leave; end | 0 5 5"},
		{"print 1; while in 2 < { print 3 }; print 4", "num 1; print; input; num 2; reckon 7; unless 9; num 3; print; jump 2; num 4; print; leave; end | 0 12 12"},
		{"while 1 { while 2 { exit } }", "num 1; unless 7; num 2; unless 6; exit; jump 2; jump 0; leave; end | 0 8 8"}, {"while 1 { exit; while 2 { }; exit }", "num 1; unless 8; exit; num 2; unless 6; jump 3; exit; jump 0; leave; end | 0 9 9"},
		{"while 1 { return 2 }", "num 1; unless 6; num 2; result; leave; jump 0; leave; end | 0 7 7"}, {"while 1 { panic 2 }; while 3 { exit }", "num 1; unless 5; num 2; panic; jump 0; num 3; unless 9; exit; jump 5; leave; end | 0 10 10"},
	})
}

func TestLowerIfAndWhile(t *testing.T) {
	checkLowerCases(t, []lowerCase{
		{"while in { if 1 { print 2 } else { print 3 } }", "input; unless 10; num 1; unless 7; num 2; print; jump 9; num 3; print; jump 0; leave; end | 0 11 11"},
		{"while in { if 1 { } }", "input; unless 6; num 1; unless 5; jump 5; jump 0; leave; end | 0 7 7"},
		{"if in { while 1 { print 2 } } else { print 3 }", "input; unless 8; num 1; unless 7; num 2; print; jump 2; jump 10; num 3; print; leave; end | 0 11 11"},
		{"if in { exit } else { while 1 { print 2 } }", "input; unless 4; exit; jump 9; num 1; unless 9; num 2; print; jump 4; leave; end | 0 10 10"},
		{"if in { while 1 { } } else { while 2 { } }", "input; unless 6; num 1; unless 5; jump 2; jump 9; num 2; unless 9; jump 6; leave; end | 0 10 10"},
		{"while 1 { if 2 { while 3 { exit } } }", "num 1; unless 10; num 2; unless 9; num 3; unless 8; exit; jump 4; jump 9; jump 0; leave; end | 0 11 11"},
		{"0 1: while v0 4 < { set 0 v0 1 +; if v0 2 = { return v0 } }; panic v0", "0 1: var 0; num 4; reckon 7; unless 17; var 0; num 1; reckon 3; set 0; var 0; num 2; reckon 8; unless 16; var 0; result; leave; jump 16; jump 0; var 0; panic; leave; end | 0 20 20"},
	})
}

func TestLowerSites(t *testing.T) {
	checkLowerCases(t, []lowerCase{
		{"print 1; defer 1; print 2", "num 1; print; put 0; num 2; print; leave; off 0; end | 0 6 6, 6 7 7 | 1"},
		{"defer 0; defer 1", "put 0; put 1; leave; off 1; off 0; end | 0 3 3, 3 4 4, 4 5 5 | 0 1"},
		{"defer 1; defer 1; defer 0; defer 1", "put 0; put 1; put 2; put 3; leave; off 3; off 2; off 1; off 0; end | 0 5 5, 5 6 6, 6 7 7, 7 8 8, 8 9 9 | 1 1 0 1"},
		// Within Then and Else, ahead of these and behind them.
		{"if in { defer 0 } else { defer 1 }", "input; unless 4; put 0; jump 5; put 1; leave; off 1; off 0; end | 0 6 6, 6 7 7, 7 8 8 | 0 1"},
		{"defer 1; if in { defer 0 } else { defer 1 }; defer 0", "put 0; input; unless 5; put 1; jump 6; put 2; put 3; leave; off 3; off 2; off 1; off 0; end | 0 8 8, 8 9 9, 9 10 10, 10 11 11, 11 12 12 | 1 0 1 0"},
		{"if 1 { if 2 { } else { defer 0 }; defer 1 }", "num 1; unless 8; num 2; unless 5; jump 6; put 0; put 1; jump 8; leave; off 1; off 0; end | 0 9 9, 9 10 10, 10 11 11 | 0 1"},
		{"while in { exit }; defer 1; return 2; defer 0", "input; unless 4; exit; jump 0; put 0; num 2; result; leave; put 1; leave; off 1; off 0; end | 0 10 10, 10 11 11, 11 12 12 | 1 0"},
	})
}

func TestLowerProg(t *testing.T) {
	p := written("print 1; do 2 3 f2", "defer 0; panic rec", "2 3: set 2 v0; return v1 v2 +", "", "1 1: if v0 { return v0 1 - f4 }")
	want := image(
		"num 1; print; num 2; num 3; call 2; drop; leave; end | 0 7 7", "put 0; recover; panic; leave; off 0; end | 0 4 4, 4 5 5 | 0",
		"2 3: var 0; set 2; var 1; var 2; reckon 3; result; leave; leave; end | 0 8 8", "leave; end | 0 1 1",
		"1 1: var 0; unless 9; var 0; num 1; reckon 4; call 4; result; leave; jump 9; leave; end | 0 10 10")
	x, ok := impl.LowerProg(p)
	if !ok || len(x.Codes) != len(want.Codes) {
		t.Fatalf("%v, %t", x, ok)
	}
	for fn, c := range want.Codes {
		one, ok := impl.LowerFunc(p, fn)
		if !sameCode(x.Codes[fn], c) || !sameCode(one, c) || !ok {
			t.Errorf("code %d: %v, %v, %t, want %v", fn, x.Codes[fn], one, ok, c)
		}
		if n, ok := impl.LongOf(p, fn); n != len(c.Ins) || !ok {
			t.Errorf("code %d is %d long, %t", fn, n, ok)
		}
	}
	checkLower(t, p)
	checkLower(t, rich())
	for many := range impl.MaxFuncs {
		checkLower(t, program(slices.Repeat([]impl.Func{flat(putOff(many), do(call(many)))}, many+1)...))
	}
}

func TestSiteOf(t *testing.T) {
	p := written("defer 1; if in { defer 0 } else { while 1 { exit }; defer 1 }; print 1; defer 0", "print 2; defer 0", "exit")
	stmts := map[[2]int]int{{0, 0}: 0, {0, 2}: 1, {0, 5}: 2, {0, 7}: 3, {1, 1}: 0}
	for _, fn := range append(someInts(), -1, 0, 1, 2, 3) {
		for _, stmt := range append(someInts(), upTo(18)...) {
			want, there := stmts[[2]int{fn, stmt}]
			if site, ok := impl.SiteOf(p, fn, stmt); site != want || ok != there {
				t.Errorf("SiteOf function %d, statement %d: %d, %t, want %d, %t", fn, stmt, site, ok, want, there)
			}
		}
	}
	checkLower(t, p)
}

// checkPad asks for the same of the instructions in a code that is good and in one that is odd in all else.
func checkPad(t *testing.T, l []impl.Ins, want int, there bool) {
	t.Helper()
	odd := impl.Code{Params: -1, Vars: math.MaxInt, Sites: upTo(9), Ins: l, Rows: rowsIn("7 3 -1")}
	for _, c := range []impl.Code{{Ins: l}, odd} {
		if pad, ok := impl.PadOf(c); pad != want || ok != there {
			t.Errorf("PadOf(%v) = %d, %t, want %d, %t", c, pad, ok, want, there)
		}
	}
}

func TestPadOf(t *testing.T) {
	for text, want := range map[string]int{
		"end": 0, "leave; end": 1, "num 1; drop; leave; end": 3, "end; end": 1, "end; leave; end; end": 3,
		"off 0; end": 0, "off 1; off 0; end": 0, "off 3; off 2; off 1; off 0; end": 0, "off 0; off 1; off 0; off 7; off 0; end": 0,
		"leave; off 0; end": 1, "leave; off 2; off 1; off 0; end": 1, "put 0; leave; off 1; off 0; end": 2, "exit; put 1; put 0; leave; off 1; off 0; end": 4,
		// InOff elsewhere.
		"off 0; leave; end": 2, "off 1; off 0; leave; end": 3, "off 0; leave; off 1; end": 2, "off 0; end; off 1; off 0; end": 2, "off 0; end; end": 2, "off 1; off 0; put 0; off 1; off 0; end": 3,
		"end; off 0; end": 1, "end; off 1; off 0; end": 1, "jump 1; off 0; off 1; jump 0; end": 4,
	} {
		checkPad(t, code(text).Ins, want, true)
	}
	for _, text := range []string{"leave", "off 0", "num 1", "exit", "off 1; off 0", "end; leave", "leave; end; off 0", "off 0; end; jump 0", "off 1; end; off 0", "result; panic"} {
		checkPad(t, code(text).Ins, 0, false)
	}
	for op := -1; op <= 20; op++ {
		checkPad(t, []impl.Ins{ins(op, 0)}, 0, op == impl.InEnd)
		checkPad(t, []impl.Ins{ins(impl.InOff, 0), ins(op, 0)}, 0, op == impl.InEnd)
		if op != impl.InOff {
			checkPad(t, []impl.Ins{ins(op, 0), ins(impl.InOff, 0), ins(impl.InEnd, 0)}, 1, true)
			checkPad(t, []impl.Ins{ins(impl.InOff, 0), ins(op, 0), ins(impl.InEnd, 0)}, 2, true)
		}
	}
	for _, op := range someInts() {
		checkPad(t, []impl.Ins{ins(impl.InOff, 0), ins(op, op)}, 0, false)
	}
}

func TestPadOfLongCodes(t *testing.T) {
	checkPad(t, nil, 0, false)
	checkPad(t, []impl.Ins{}, 0, false)
	for _, many := range numbers(1, 2, 3, 299, 300, 301, 302, 600, 100000) {
		fits := many <= impl.MaxIns
		at := func(n int) int {
			if fits {
				return n
			}
			return 0
		}
		ends := slices.Repeat([]impl.Ins{ins(impl.InEnd, 0)}, many)
		checkPad(t, ends, at(many-1), fits)
		offs := append(slices.Repeat([]impl.Ins{ins(impl.InOff, 0)}, many-1), ins(impl.InEnd, 0))
		checkPad(t, offs, 0, fits)
		leaves := append(slices.Repeat([]impl.Ins{ins(impl.InLeave, 0)}, many-1), ins(impl.InEnd, 0))
		checkPad(t, leaves, at(many-1), fits)
		if many > 2 {
			leaves[many-2] = ins(impl.InOff, 3)
			checkPad(t, leaves, at(many-2), fits)
		}
		leaves[many-1] = ins(impl.InLeave, 0)
		checkPad(t, leaves, 0, false)
	}
}

func wantPad(l []impl.Ins) (int, bool) {
	if len(l) == 0 || len(l) > 300 || l[len(l)-1].Op != impl.InEnd {
		return 0, false
	}
	pad := len(l) - 1
	for at := pad - 1; at >= 0 && l[at].Op == impl.InOff; at-- {
		pad = at
	}
	return pad, true
}

func TestPadOfRandomCodes(t *testing.T) {
	r := rand.New(rand.NewSource(61))
	for range 20000 {
		var l []impl.Ins
		for range r.Intn(9) {
			l = append(l, ins([...]int{impl.InOff, impl.InOff, impl.InOff, impl.InEnd, impl.InLeave}[r.Intn(5)], 0))
		}
		if r.Intn(3) > 0 {
			l = append(l, ins(impl.InEnd, 0))
		}
		want, there := wantPad(l)
		checkPad(t, l, want, there)
	}
}

// longest has in each statement the most tokens, and the most instructions behind these.
func longest(kind int) impl.Prog {
	e := append(append(ones(6), sums(5)...), call(1))
	stmts := slices.Repeat([]impl.Stmt{does(kind, e...)}, impl.MaxStmts)
	return program(flat(stmts...), sized(1, 1, flat(stmts...)))
}

// TestLongestCodes comes as near to MaxIns as there is a way to: no statement has more than 14 instructions, and with the InLeave and the InEnd these are 226.
func TestLongestCodes(t *testing.T) {
	for kind, want := range map[int]int{impl.StPrint: 210, impl.StPanic: 210, impl.StDo: 210, impl.StReturn: 226, impl.StIf: 226, impl.StWhile: 226} {
		p := longest(kind)
		if !checkLower(t, p) {
			t.Fatalf("not good: %v", p)
		}
		for fn := range p.Funcs {
			c, ok := impl.LowerFunc(p, fn)
			n, told := impl.LongOf(p, fn)
			if len(c.Ins) != want || n != want || !ok || !told {
				t.Errorf("kind %d, function %d: %d, %d, %t, %t, want %d", kind, fn, len(c.Ins), n, ok, told, want)
			}
		}
	}
	nested := longest(impl.StIf)
	for fn := range nested.Funcs {
		f := &nested.Funcs[fn]
		f.Body = numbers(0)
		for n := range impl.MaxStmts - 1 {
			f.Stmts[n].Then = numbers(n + 1)
		}
	}
	if !checkLower(t, nested) {
		t.Fatal("not good")
	}
	nested.Funcs[0].Stmts[7].Then, nested.Funcs[0].Stmts[7].Else = nil, numbers(8)
	nested.Funcs[0].Stmts[9].Kind = impl.StWhile
	if n, ok := impl.LongOf(nested, 0); !checkLower(t, nested) || n != 226 || !ok {
		t.Errorf("%d, %t", n, ok)
	}
}

// TestCodesBeyondMaxIns has functions whose code would have MaxIns Ins, one less and one more; they have too many statements, or too many tokens.
func TestCodesBeyondMaxIns(t *testing.T) {
	for _, many := range numbers(297, 298, 299, 100000) {
		exits := flat(slices.Repeat([]impl.Stmt{exit()}, many)...)
		wide := flat(do(ones(many-1)...), exit())
		for _, p := range []impl.Prog{program(exits), program(wide), program(flat(), exits), program(flat(), wide)} {
			if wantGood(p) {
				t.Fatalf("good: %v", p)
			}
			expectNoCode(t, p, 0)
			expectNoCode(t, p, 1)
		}
	}
}

// expectNoCode asks for the zero answers alone.
func expectNoCode(t *testing.T, p impl.Prog, fn int) {
	t.Helper()
	if c, ok := impl.LowerFunc(p, fn); !emptyCode(c) || ok {
		t.Errorf("LowerFunc(%v, %d) = %v, %t", p, fn, c, ok)
	}
	if n, ok := impl.LongOf(p, fn); n != 0 || ok {
		t.Errorf("LongOf(%v, %d) = %d, %t", p, fn, n, ok)
	}
	for stmt := range 3 {
		if n, ok := impl.SiteOf(p, fn, stmt); n != 0 || ok {
			t.Errorf("SiteOf(%v, %d, %d) = %d, %t", p, fn, stmt, n, ok)
		}
	}
	if wantGood(p) {
		return
	}
	if x, ok := impl.LowerProg(p); len(x.Codes) != 0 || ok {
		t.Errorf("LowerProg(%v) = %v, %t", p, x, ok)
	}
}

func TestLowerWhatIsNotAsSaid(t *testing.T) {
	for _, p := range notGood() {
		for _, fn := range append(someInts(), 0, 1, 2) {
			expectNoCode(t, p, fn)
		}
	}
	// The function that is asked for is as said, another one is not.
	fine := flat(putOff(0), do(num(1)), putOff(0))
	for _, p := range []impl.Prog{program(fine, flat(putOff(2))), program(fine, flat(do())), program(fine, sized(0, 7, flat())), program(fine, function(numbers(1), exit()))} {
		expectNoCode(t, p, 0)
		expectNoCode(t, p, 1)
	}
	good := program(fine, fine)
	for _, fn := range someInts() {
		if fn < 0 || fn > 1 {
			expectNoCode(t, good, fn)
		}
	}
	checkLower(t, good)
}

// blocksFor has all blocks of so many statements, each of which tells or does something; in a StWhile nothing is put off.
func blocksFor(many int, inLoop bool) []string {
	if many == 0 {
		return []string{""}
	}
	var all []string
	for first := 1; first <= many; first++ {
		for _, s := range statementsFor(first, inLoop) {
			for _, rest := range blocksFor(many-first, inLoop) {
				all = append(all, s+" ; "+rest)
			}
		}
	}
	return all
}

func statementsFor(many int, inLoop bool) []string {
	var all []string
	if many == 1 {
		all = append(all, "print in", "return 1", "panic f0")
	}
	if many == 1 && !inLoop {
		all = append(all, "defer 0")
	}
	for _, then := range blocksFor(many-1, true) {
		all = append(all, "while 1 2 < { "+then+" }")
	}
	for then := range many {
		for _, a := range blocksFor(then, inLoop) {
			for _, b := range blocksFor(many-1-then, inLoop) {
				all = append(all, "if rec { "+a+" } else { "+b+" }")
			}
		}
	}
	return all
}

func TestAllFunctionsOfFewStatements(t *testing.T) {
	for many, want := range []int{1, 6, 53, 602} {
		all := blocksFor(many, false)
		for _, text := range all {
			if !checkLower(t, written(text)) {
				t.Fatalf("not good: %s", text)
			}
		}
		if len(all) != want {
			t.Errorf("%d blocks of %d statements", len(all), many)
		}
	}
}

func TestRandomCodes(t *testing.T) {
	r := rand.New(rand.NewSource(62))
	most, sites, stmts := 0, 0, 0
	for round := range 3000 {
		p := livelyProg(r)
		if round%2 == 0 {
			p = randomProg(r)
		}
		if !checkLower(t, p) {
			t.Fatalf("not good: %v", p)
		}
		x, _ := impl.LowerProg(p)
		walkAll(t, r, x)
		for fn, c := range x.Codes {
			most, stmts = max(most, len(c.Ins)), stmts+len(p.Funcs[fn].Stmts)
			if len(c.Sites) == impl.MaxSites {
				sites++
			}
		}
	}
	if most < 100 || sites < 100 || stmts < 20000 {
		t.Errorf("the longest code has %d instructions, with MaxSites: %d, statements: %d", most, sites, stmts)
	}
}

func TestSpoiledProgramsLowered(t *testing.T) {
	r := rand.New(rand.NewSource(63))
	good, bad := 0, 0
	for range 6000 {
		p := randomProg(r)
		for range 1 + r.Intn(2) {
			if len(p.Funcs) > 0 {
				spoil(r, &p)
			}
		}
		if checkLower(t, p) {
			good++
		} else {
			bad++
		}
	}
	if good < 200 || bad < 2000 {
		t.Errorf("%d good, %d bad", good, bad)
	}
}

// TestLoweringAnyArguments has programs that a walk without care would not leave, and codes of odd numbers.
func TestLoweringAnyArguments(t *testing.T) {
	far := slices.Repeat(numbers(0), 1000000)
	knot := slices.Repeat([]impl.Stmt{when(upTo(16), upTo(16))}, 16)
	for _, f := range []impl.Func{
		function(upTo(16), knot...), function(far, knot...), function(far, exit()), function(upTo(1000000), exit()), function(far), function(numbers(0), when(far, far)),
		function(numbers(0), while(0)), function(numbers(5), exit()), function(numbers(-1), exit()), function(numbers(math.MaxInt), exit()), flat(does(impl.StDo, ones(1000000)...)),
		function(upTo(100000), make([]impl.Stmt, 100000)...), function(nil, make([]impl.Stmt, 3)...), flat(putOff(math.MinInt)), flat(putOff(math.MaxInt)),
	} {
		for _, fn := range append(someInts(), 0, 1) {
			expectNoCode(t, program(f), fn)
			expectNoCode(t, program(flat(putOff(0)), f), fn)
		}
	}
	expectNoCode(t, impl.Prog{Funcs: make([]impl.Func, 100000)}, 0)
	for _, n := range someInts() {
		for _, op := range someInts() {
			want, there := wantPad([]impl.Ins{ins(impl.InOff, 0), ins(op, n), ins(impl.InEnd, 0)})
			checkPad(t, []impl.Ins{ins(impl.InOff, 0), ins(op, n), ins(impl.InEnd, 0)}, want, there)
		}
	}
}

func TestLoweringLeavesItsArguments(t *testing.T) {
	r := rand.New(rand.NewSource(64))
	progs := []impl.Prog{rich(), program(flat()), program(flat(putOff(0))), program(function(numbers(0), while(0))), program(flat(putOff(5)))}
	for range 150 {
		p := livelyProg(r)
		q := cloneProg(p)
		spoil(r, &q)
		progs = append(progs, p, q, randomProg(r))
	}
	for _, p := range progs {
		p = withSpare(p)
		was := wholeOf(p)
		checkLower(t, p)
		if now := wholeOf(p); !reflect.DeepEqual(now, was) {
			t.Fatalf("changed: %v, was %v", now, was)
		}
	}
	for _, text := range []string{"leave; off 0; end", "off 1; off 0; end", "end", "leave", "off 0; leave"} {
		x := spareImage(image(text))
		was := wholeImage(x)
		want, there := wantPad(x.Codes[0].Ins)
		if pad, ok := impl.PadOf(x.Codes[0]); pad != want || ok != there {
			t.Errorf("PadOf(%s), with more behind it: %d, %t", text, pad, ok)
		}
		if now := wholeImage(x); !reflect.DeepEqual(now, was) {
			t.Fatalf("%v became %v", was, now)
		}
	}
	e := spare(append(ones(6), sums(5)...), plain(77), num(greatest+1))
	was := slices.Clone(e[:cap(e)])
	checkLowerExpr(t, e)
	checkLowerExpr(t, e[:0])
	if !slices.Equal(e[:cap(e)], was) {
		t.Errorf("%v became %v", was, e[:cap(e)])
	}
}

// scribbleCode writes all over the lists of a code, and behind them.
func scribbleCode(c impl.Code) {
	scribble(c.Sites)
	for i := range c.Ins[:cap(c.Ins)] {
		c.Ins[:cap(c.Ins)][i] = ins(99, 99)
	}
	for i := range c.Rows[:cap(c.Rows)] {
		c.Rows[:cap(c.Rows)][i] = impl.Row{From: 99, To: 99, Pad: 99}
	}
}

func TestCodesAreNewMemory(t *testing.T) {
	p := withSpare(written("defer 1; defer 2; print 3; if in { defer 2 }; panic 1 2 +", "defer 2; print rec", "defer 0; return in"))
	was := wholeOf(p)
	for range 3 {
		first, _ := impl.LowerProg(p)
		other, _ := impl.LowerProg(p)
		one, _ := impl.LowerFunc(p, 0)
		for fn := range first.Codes {
			// The list that is ahead in a code must not reach into those behind it, either.
			left := cloneImage(first)
			scribble(first.Codes[fn].Sites)
			if c := first.Codes[fn]; !slices.Equal(c.Ins, left.Codes[fn].Ins) || !slices.Equal(c.Rows, left.Codes[fn].Rows) {
				t.Fatalf("the lists of code %d share memory: %v", fn, c)
			}
			scribbleCode(first.Codes[fn])
			for k, c := range first.Codes {
				if k != fn && !sameCode(c, left.Codes[k]) {
					t.Fatalf("codes %d and %d share memory: %v", fn, k, c)
				}
			}
		}
		scribbleCode(one)
		for fn, f := range p.Funcs {
			if !sameCode(other.Codes[fn], wantLower(f)) {
				t.Fatalf("two answers share memory: %v", other.Codes[fn])
			}
		}
		if now := wholeOf(p); !reflect.DeepEqual(now, was) {
			t.Fatalf("changed: %v, was %v", now, was)
		}
	}
	e := ones(3)
	for range 3 {
		a, _ := impl.LowerExpr(e)
		b, _ := impl.LowerExpr(e)
		scribbleCode(impl.Code{Ins: a})
		if !slices.Equal(b, code("num 1; num 1; num 1").Ins) || !slices.Equal(e, ones(3)) {
			t.Fatalf("%v, %v", b, e)
		}
	}
}
