package tests

import (
	"math"
	"math/rand"
	"reflect"
	"slices"
	"testing"

	"loop.example/g00745/impl"
)

func does(kind int, e ...impl.Tok) impl.Stmt { return impl.Stmt{Kind: kind, Ex: e} }
func do(e ...impl.Tok) impl.Stmt             { return does(impl.StDo, e...) }
func setTo(n int, e ...impl.Tok) impl.Stmt   { return impl.Stmt{Kind: impl.StSet, N: n, Ex: e} }
func putOff(n int) impl.Stmt                 { return impl.Stmt{Kind: impl.StDefer, N: n} }
func exit() impl.Stmt                        { return impl.Stmt{Kind: impl.StExit} }
func numbers(l ...int) []int                 { return l }

func when(then, els []int) impl.Stmt {
	return impl.Stmt{Kind: impl.StIf, Ex: ones(1), Then: then, Else: els}
}

func while(then ...int) impl.Stmt {
	return impl.Stmt{Kind: impl.StWhile, Ex: ones(1), Then: then}
}

func function(body []int, stmts ...impl.Stmt) impl.Func {
	return impl.Func{Body: body, Stmts: stmts}
}

// flat has all statements in its Body.
func flat(stmts ...impl.Stmt) impl.Func {
	return function(upTo(len(stmts)), stmts...)
}

func upTo(many int) []int {
	l := make([]int, many)
	for i := range l {
		l[i] = i
	}
	return l
}

func sized(params, vars int, f impl.Func) impl.Func {
	f.Params, f.Vars = params, vars
	return f
}

func program(funcs ...impl.Func) impl.Prog {
	return impl.Prog{Funcs: funcs}
}

// block is a list of numbers, and the statement whose block it is: -1 has the Body.
type block struct {
	owner   int
	numbers []int
}

func blocksOf(f impl.Func) []block {
	blocks := []block{{-1, f.Body}}
	for i, s := range f.Stmts {
		blocks = append(blocks, block{i, s.Then}, block{i, s.Else})
	}
	return blocks
}

func rising(l []int) bool {
	for i := 1; i < len(l); i++ {
		if l[i-1] >= l[i] {
			return false
		}
	}
	return true
}

// ownersOf tells of each statement whose block it is in, and whether each is in just one, of a lesser one, and all blocks are rising.
func ownersOf(f impl.Func) ([]int, bool) {
	owners := make([]int, len(f.Stmts))
	times := make([]int, len(f.Stmts))
	for _, b := range blocksOf(f) {
		if !rising(b.numbers) {
			return nil, false
		}
		for _, n := range b.numbers {
			if n < 0 || n >= len(f.Stmts) || b.owner >= n {
				return nil, false
			}
			owners[n] = b.owner
			times[n]++
		}
	}
	once := !slices.ContainsFunc(times, func(n int) bool { return n != 1 })
	return owners, once
}

// wantOrder is for functions alone of which ownersOf tells true.
func wantOrder(f impl.Func, numbers []int) []int {
	var order []int
	for _, n := range numbers {
		order = append(order, n)
		order = append(order, wantOrder(f, f.Stmts[n].Then)...)
		order = append(order, wantOrder(f, f.Stmts[n].Else)...)
	}
	return order
}

func wantSites(f impl.Func) []int {
	var sites []int
	for i, s := range f.Stmts {
		if s.Kind == impl.StDefer {
			sites = append(sites, i)
		}
	}
	return sites
}

func wantPlaces(f impl.Func) bool {
	owners, ok := ownersOf(f)
	if !ok || !rising(wantOrder(f, f.Body)) {
		return false
	}
	for _, n := range wantSites(f) {
		for up := owners[n]; up >= 0; up = owners[up] {
			if f.Stmts[up].Kind == impl.StWhile {
				return false
			}
		}
	}
	return true
}

// form is what a kind of statement may have besides its Kind: N is below many.
type form struct {
	expr, then, els bool
	many            int
}

func formOf(kind, vars, funcs int) (form, bool) {
	switch kind {
	case impl.StSet:
		return form{expr: true, many: vars}, true
	case impl.StDefer:
		return form{many: funcs}, true
	case impl.StExit:
		return form{many: 1}, true
	case impl.StIf:
		return form{expr: true, then: true, els: true, many: 1}, true
	case impl.StWhile:
		return form{expr: true, then: true, many: 1}, true
	case impl.StPrint, impl.StPanic, impl.StReturn, impl.StDo:
		return form{expr: true, many: 1}, true
	}
	return form{}, false
}

func wantStmt(s impl.Stmt, vars int, params []int) bool {
	f, ok := formOf(s.Kind, vars, len(params))
	if !ok || s.N < 0 || s.N >= f.many || !f.then && len(s.Then) > 0 || !f.els && len(s.Else) > 0 {
		return false
	}
	if !f.expr {
		return len(s.Ex) == 0
	}
	_, ok = wantTree(s.Ex, vars, params)
	return ok
}

func wantShape(f impl.Func) bool {
	if f.Params < 0 || f.Params > 2 || f.Vars < f.Params || f.Vars > 6 || len(f.Stmts) > 16 || len(wantSites(f)) > 4 {
		return false
	}
	return wantPlaces(f)
}

func wantStmts(f impl.Func, params []int) bool {
	return !slices.ContainsFunc(f.Stmts, func(s impl.Stmt) bool { return !wantStmt(s, f.Vars, params) })
}

// allParams has every list of the Params of five functions.
func allParams() [][]int {
	var all [][]int
	for k := range 3 * 3 * 3 * 3 * 3 {
		all = append(all, []int{k % 3, k / 3 % 3, k / 9 % 3, k / 27 % 3, k / 81})
	}
	return all
}

var everyParams = allParams()

func wantAlone(f impl.Func) bool {
	return wantShape(f) && slices.ContainsFunc(everyParams, func(params []int) bool { return wantStmts(f, params) })
}

func wantGood(p impl.Prog) bool {
	var params []int
	for _, f := range p.Funcs {
		params = append(params, f.Params)
	}
	if len(params) < 1 || len(params) > 5 || params[0] != 0 {
		return false
	}
	for _, f := range p.Funcs {
		unfit := func(s impl.Stmt) bool {
			return s.Kind == impl.StDefer && s.N >= 0 && s.N < len(params) && params[s.N] > 0
		}
		if !wantShape(f) || !wantStmts(f, params) || slices.ContainsFunc(f.Stmts, unfit) {
			return false
		}
	}
	return true
}

func names(f impl.Func, fn int) bool {
	return slices.ContainsFunc(f.Stmts, func(s impl.Stmt) bool {
		return s.Kind == impl.StDefer && s.N == fn || slices.Contains(s.Ex, call(fn))
	})
}

func wantCalls(f impl.Func) []int {
	var calls []int
	for fn := range 5 {
		if names(f, fn) {
			calls = append(calls, fn)
		}
	}
	return calls
}

func wantRecover(f impl.Func) bool {
	return slices.ContainsFunc(f.Stmts, func(s impl.Stmt) bool { return slices.Contains(s.Ex, plain(impl.ExRecover)) })
}

func checkFunc(t *testing.T, f impl.Func) {
	t.Helper()
	var sites, order []int
	want := wantAlone(f)
	if want {
		sites, order = wantSites(f), wantOrder(f, f.Body)
	}
	if l, ok := impl.SitesOf(f); ok != want || !slices.Equal(l, sites) {
		t.Fatalf("SitesOf(%v): %v, %v; want %v, %v", f, l, ok, sites, want)
	}
	if l, ok := impl.OrderOf(f); ok != want || !slices.Equal(l, order) {
		t.Fatalf("OrderOf(%v): %v, %v; want %v, %v", f, l, ok, order, want)
	}
}

func checkOf(t *testing.T, p impl.Prog, fn int, good bool) {
	t.Helper()
	want := good && fn >= 0 && fn < len(p.Funcs)
	var calls []int
	recovers := false
	if want {
		calls, recovers = wantCalls(p.Funcs[fn]), wantRecover(p.Funcs[fn])
	}
	if l, ok := impl.CallsOf(p, fn); ok != want || !slices.Equal(l, calls) {
		t.Fatalf("CallsOf(%v, %d): %v, %v; want %v, %v", p, fn, l, ok, calls, want)
	}
	if is, ok := impl.MayRecover(p, fn); ok != want || is != recovers {
		t.Fatalf("MayRecover(%v, %d): %v, %v; want %v, %v", p, fn, is, ok, recovers, want)
	}
}

func checkProg(t *testing.T, p impl.Prog) {
	t.Helper()
	want := wantGood(p)
	if ok := impl.GoodProg(p); ok != want {
		t.Fatalf("GoodProg(%v): %v, want %v", p, ok, want)
	}
	var params []int
	if want {
		for _, f := range p.Funcs {
			params = append(params, f.Params)
		}
	}
	if l, ok := impl.ParamsOf(p); ok != want || !slices.Equal(l, params) {
		t.Fatalf("ParamsOf(%v): %v, %v; want %v, %v", p, l, ok, params, want)
	}
	for fn := -2; fn <= min(len(p.Funcs), 6)+1; fn++ {
		checkOf(t, p, fn, want)
	}
	checkOf(t, p, math.MinInt, want)
	checkOf(t, p, math.MaxInt, want)
	for _, f := range p.Funcs[:min(len(p.Funcs), 6)] {
		checkFunc(t, f)
	}
}

func TestKindsOfStatementsAreAsTold(t *testing.T) {
	kinds := []int{
		impl.StSet, impl.StPrint, impl.StDefer, impl.StPanic, impl.StReturn, impl.StExit, impl.StIf, impl.StWhile, impl.StDo,
	}
	for i, kind := range kinds {
		if kind != i+1 {
			t.Errorf("kind %d is %d", i+1, kind)
		}
	}
	if impl.MaxStmts != 16 || impl.MaxSites != 4 {
		t.Error("limits", impl.MaxStmts, impl.MaxSites)
	}
}

// rich has every kind of statement, blocks in blocks, Params of each size, and a function that calls itself.
func rich() impl.Prog {
	first := sized(0, 2, function(numbers(0, 1, 4, 10),
		setTo(1, num(3)),
		when(numbers(2, 3), nil),
		putOff(1),
		does(impl.StPrint, variable(0)),
		while(5, 8),
		when(numbers(6), numbers(7)),
		exit(),
		does(impl.StPanic, num(7)),
		while(9),
		do(num(1), num(2), call(2)),
		does(impl.StReturn, variable(1), call(3)),
	))
	second := flat(does(impl.StPrint, plain(impl.ExRecover)))
	third := sized(2, 6, flat(does(impl.StReturn, variable(0), variable(5), call(2))))
	fourth := sized(1, 1, flat(putOff(0), putOff(1), setTo(0, call(1), call(3))))
	return program(first, second, third, fourth)
}

func TestARichProgram(t *testing.T) {
	p := rich()
	if !impl.GoodProg(p) {
		t.Fatal("not good")
	}
	if l, ok := impl.ParamsOf(p); !ok || !slices.Equal(l, numbers(0, 0, 2, 1)) {
		t.Error("ParamsOf", l, ok)
	}
	for fn, c := range []struct {
		sites, order, calls []int
		recovers            bool
	}{
		{numbers(2), upTo(11), numbers(1, 2, 3), false},
		{nil, upTo(1), nil, true},
		{nil, upTo(1), numbers(2), false},
		{numbers(0, 1), upTo(3), numbers(0, 1, 3), false},
	} {
		if l, ok := impl.SitesOf(p.Funcs[fn]); !ok || !slices.Equal(l, c.sites) {
			t.Errorf("SitesOf %d: %v, %v", fn, l, ok)
		}
		if l, ok := impl.OrderOf(p.Funcs[fn]); !ok || !slices.Equal(l, c.order) {
			t.Errorf("OrderOf %d: %v, %v", fn, l, ok)
		}
		if l, ok := impl.CallsOf(p, fn); !ok || !slices.Equal(l, c.calls) {
			t.Errorf("CallsOf %d: %v, %v", fn, l, ok)
		}
		if is, ok := impl.MayRecover(p, fn); !ok || is != c.recovers {
			t.Errorf("MayRecover %d: %v, %v", fn, is, ok)
		}
	}
	checkProg(t, p)
}

// expectFunc holds a function against the given answer, alone and as the only one of a program.
func expectFunc(t *testing.T, name string, f impl.Func, want bool) {
	t.Helper()
	if _, ok := impl.SitesOf(f); ok != want {
		t.Errorf("%s: SitesOf tells %v", name, ok)
	}
	if _, ok := impl.OrderOf(f); ok != want {
		t.Errorf("%s: OrderOf tells %v", name, ok)
	}
	if ok := impl.GoodProg(program(flat(), f)); ok != want {
		t.Errorf("%s: GoodProg tells %v", name, ok)
	}
	checkProg(t, program(flat(), f))
	checkProg(t, program(f))
}

func TestHowManyThereMayBe(t *testing.T) {
	for _, c := range []struct {
		name string
		f    impl.Func
		want bool
	}{
		{"nothing", impl.Func{}, true},
		{"Params 0", sized(0, 0, flat(do(num(1)))), true}, {"Params 2", sized(2, 2, flat(do(num(1)))), true},
		{"Params -1", sized(-1, 0, flat(do(num(1)))), false}, {"Params 3", sized(3, 3, flat(do(num(1)))), false},
		{"Params -1, Vars -1", sized(-1, -1, flat()), false}, {"Params 3, Vars 6", sized(3, 6, flat()), false},
		{"Vars as Params", sized(1, 1, flat(setTo(0, num(1)))), true}, {"Vars below Params", sized(1, 0, flat()), false},
		{"Vars one below two", sized(2, 1, flat()), false}, {"Vars -1", sized(0, -1, flat()), false},
		{"Vars MaxVars", sized(0, 6, flat(setTo(5, variable(5)))), true}, {"Vars beyond", sized(0, 7, flat()), false},
		{"Vars beyond, Params 2", sized(2, 7, flat()), false},
		{"MaxStmts", flat(slices.Repeat([]impl.Stmt{exit()}, 16)...), true},
		{"MaxStmts and one", flat(slices.Repeat([]impl.Stmt{exit()}, 17)...), false},
		{"MaxSites", flat(slices.Repeat([]impl.Stmt{putOff(0)}, 4)...), true},
		{"MaxSites and one", flat(slices.Repeat([]impl.Stmt{putOff(0)}, 5)...), false},
		{"MaxSites and one, in blocks", function(numbers(0, 3), when(numbers(1), numbers(2)), putOff(0), putOff(0), when(numbers(4), numbers(5, 6)), putOff(0), putOff(0), putOff(0)), false},
		{"MaxSites in blocks", function(numbers(0, 3), when(numbers(1), numbers(2)), putOff(0), putOff(0), when(numbers(4), numbers(5)), putOff(0), putOff(0)), true},
	} {
		expectFunc(t, c.name, c.f, c.want)
	}
}

func TestHowManyFunctionsThereMayBe(t *testing.T) {
	for many, want := range []bool{false, true, true, true, true, true, false, false} {
		for _, f := range []impl.Func{flat(), flat(exit()), flat(do(num(1)))} {
			p := program(slices.Repeat([]impl.Func{f}, many)...)
			if ok := impl.GoodProg(p); ok != want {
				t.Errorf("%d functions: %v", many, ok)
			}
			checkProg(t, p)
		}
	}
	last := program(flat(do(num(1), num(2), call(4))), flat(), flat(putOff(4)), flat(), sized(2, 2, flat()))
	if impl.GoodProg(last) {
		t.Error("a put off function with Params")
	}
	last.Funcs[2] = flat(putOff(3), putOff(2), putOff(0))
	if l, ok := impl.ParamsOf(last); !ok || !slices.Equal(l, numbers(0, 0, 0, 0, 2)) {
		t.Error("ParamsOf", l, ok)
	}
	checkProg(t, last)
}

func TestPlacesOfStatements(t *testing.T) {
	a, b := do(num(1)), do(num(2))
	for _, c := range []struct {
		name string
		f    impl.Func
		want bool
	}{
		{"below 0", function(numbers(-1), a), false}, {"below 0, ahead", function(numbers(-1, 0), a), false},
		{"at their count", function(numbers(1), a), false}, {"at their count, behind", function(numbers(0, 1), a), false},
		{"beyond", function(numbers(0, 2), a), false}, {"far beyond", function(numbers(0, math.MaxInt), a), false},
		{"far below", function(numbers(math.MinInt, 0), a), false},
		{"of none", function(numbers(0)), false}, {"in Then, at their count", function(numbers(0), when(numbers(1), nil)), false},
		{"in Then, below 0", function(numbers(0), when(numbers(-1), nil)), false},
		{"in Else, at their count", function(numbers(0), when(nil, numbers(1))), false},
		{"in Else, below 0", function(numbers(0), when(nil, numbers(-1))), false},
		{"in Body and Then", function(numbers(0, 1), when(numbers(1), nil), a), false},
		{"in Body and Else", function(numbers(0, 1), when(nil, numbers(1)), a), false},
		{"in Then and Else", function(numbers(0), when(numbers(1), numbers(1)), a), false},
		{"in Then of two", function(numbers(0, 1), when(numbers(2), nil), when(numbers(2), nil), a), false},
		{"in none", function(nil, a), false}, {"the last in none", function(numbers(0), a, b), false},
		{"the first in none", function(numbers(1), a, b), false}, {"one within in none", function(numbers(0, 2), when(nil, nil), a, b), false},
		{"in a block of a greater one", function(numbers(1), a, when(numbers(0), nil)), false},
		{"in Else of a greater one", function(numbers(1), a, when(nil, numbers(0))), false},
		{"in its own Then", function(nil, when(numbers(0), nil)), false},
		{"in its own Then and in Body", function(numbers(0), when(numbers(0), nil)), false},
		{"in its own Else and in Body", function(numbers(0), when(nil, numbers(0))), false},
		{"in its own loop", function(numbers(0), while(0)), false},
		{"two in each other", function(nil, when(numbers(1), nil), when(numbers(0), nil)), false},
		{"two in each other and in Body", function(numbers(0), when(numbers(1), nil), when(numbers(0), nil)), false},
		{"falling", function(numbers(1, 0), a, b), false}, {"twice in Body", function(numbers(0, 0), a), false},
		{"the last twice in Body", function(numbers(0, 1, 1), a, b), false},
		{"falling Then", function(numbers(0), when(numbers(2, 1), nil), a, b), false},
		{"falling Else", function(numbers(0), when(nil, numbers(2, 1)), a, b), false},
		{"twice in Then", function(numbers(0), when(numbers(1, 1), nil), a), false},
		{"Then behind Body", function(numbers(0, 1), when(numbers(2), nil), a, b), false},
		{"Else ahead of Then", function(numbers(0), when(numbers(2), numbers(1)), a, b), false},
		{"Then crossed with Else", function(numbers(0), when(numbers(1, 3), numbers(2)), a, b, a), false},
		{"Then of two crossed", function(numbers(0, 1), when(numbers(3), nil), when(numbers(2), nil), a, b), false},
		{"Then of a later one ahead", function(numbers(0, 1), when(numbers(2), nil), while(3), a, b), false},
		{"within within, behind", function(numbers(0), when(numbers(1, 2), nil), when(numbers(3), nil), a, b), false},
		{"in order", function(numbers(0, 1), a, b), true}, {"Then", function(numbers(0, 2), when(numbers(1), nil), a, b), true},
		{"Else", function(numbers(0, 2), when(nil, numbers(1)), a, b), true},
		{"Then and Else", function(numbers(0), when(numbers(1), numbers(2)), a, b), true},
		{"within within", function(numbers(0), when(numbers(1, 3), nil), when(numbers(2), nil), a, b), true},
		{"neither Then nor Else", function(numbers(0), when(nil, nil)), true}, {"an empty loop", function(numbers(0), while()), true},
		{"empty lists", function(numbers(0), when([]int{}, []int{})), true}, {"an empty Body", function([]int{}), true},
	} {
		expectFunc(t, c.name, c.f, c.want)
	}
}

func TestFieldsOfStatements(t *testing.T) {
	one := ones(1)
	named := func(s impl.Stmt, n int) impl.Stmt { s.N = n; return s }
	for kind := -1; kind <= 11; kind++ {
		form, is := formOf(kind, 2, 5)
		s := impl.Stmt{Kind: kind}
		if form.expr {
			s.Ex = one
		}
		expectFunc(t, "a statement", sized(0, 2, flat(s)), is)
		for _, n := range numbers(-1, 1, 5, math.MaxInt, math.MinInt) {
			expected := n == 1 && (kind == impl.StSet || kind == impl.StDefer)
			expectFunc(t, "N", sized(0, 2, flat(named(s, n))), expected)
		}
		other := s
		other.Ex = one
		if form.expr {
			other.Ex = nil
		}
		expectFunc(t, "Ex", sized(0, 2, flat(other)), false)
		then, els := s, s
		then.Then, els.Else = numbers(1), numbers(1)
		expectFunc(t, "Then", sized(0, 2, function(numbers(0), then, exit())), kind == impl.StIf || kind == impl.StWhile)
		expectFunc(t, "Else", sized(0, 2, function(numbers(0), els, exit())), kind == impl.StIf)
	}
	for _, kind := range numbers(math.MinInt, math.MaxInt, 1<<32+impl.StDo) {
		expectFunc(t, "a far kind", flat(does(kind, one...)), false)
	}
}

func TestVariablesOfStatements(t *testing.T) {
	for vars := range 7 {
		expectFunc(t, "set, just not", sized(0, vars, flat(setTo(vars, num(1)))), false)
		expectFunc(t, "read, just not", sized(0, vars, flat(do(variable(vars)))), false)
		expectFunc(t, "read, just not, in a block", sized(0, vars, function(numbers(0), while(1), do(variable(vars)))), false)
		if vars > 0 {
			expectFunc(t, "set, just there", sized(0, vars, flat(setTo(vars-1, num(1)))), true)
			expectFunc(t, "read, just there", sized(0, vars, flat(do(variable(vars-1)))), true)
		}
	}
}

func TestExpressionsOfStatements(t *testing.T) {
	eleven := append(ones(6), sums(5)...)
	for _, c := range []struct {
		name string
		e    []impl.Tok
		want bool
	}{
		{"a sum", []impl.Tok{num(1), num(2), plain(impl.ExAdd)}, true}, {"a sum of one", []impl.Tok{num(1), plain(impl.ExAdd)}, false},
		{"two in the end", ones(2), false}, {"an empty list", []impl.Tok{}, false},
		{"eleven tokens", eleven, true}, {"thirteen tokens", append(ones(7), sums(6)...), false},
		{"beyond the bounds", []impl.Tok{num(greatest + 1)}, false}, {"no op", []impl.Tok{plain(12)}, false},
		{"input", []impl.Tok{plain(impl.ExInput)}, true}, {"recover", []impl.Tok{plain(impl.ExRecover)}, true},
		{"a call of itself", []impl.Tok{call(1)}, true}, {"a call of none", []impl.Tok{call(-1)}, false},
	} {
		for _, kind := range numbers(impl.StPrint, impl.StPanic, impl.StReturn, impl.StIf, impl.StWhile, impl.StDo) {
			expectFunc(t, c.name, flat(does(kind, c.e...)), c.want)
			expectFunc(t, c.name+", behind", flat(do(num(1)), does(kind, c.e...)), c.want)
		}
		expectFunc(t, c.name+", set", sized(0, 1, flat(setTo(0, c.e...))), c.want)
	}
}

func TestDeferAndLoops(t *testing.T) {
	for _, c := range []struct {
		name string
		f    impl.Func
		want bool
	}{
		{"in a loop", function(numbers(0), while(1), putOff(0)), false},
		{"behind others in a loop", function(numbers(0), while(1, 2), do(num(1)), putOff(0)), false},
		{"in Then in a loop", function(numbers(0), while(1), when(numbers(2), nil), putOff(0)), false},
		{"in Else in a loop", function(numbers(0), while(1), when(nil, numbers(2)), putOff(0)), false},
		{"in a loop in Then", function(numbers(0), when(numbers(1), nil), while(2), putOff(0)), false},
		{"in a loop in Else", function(numbers(0), when(nil, numbers(1)), while(2), putOff(0)), false},
		{"in a loop in a loop", function(numbers(0), while(1), while(2), putOff(0)), false},
		{"behind a loop in a loop", function(numbers(0), while(1, 3), while(2), exit(), putOff(0)), false},
		{"behind a StIf in a loop", function(numbers(0), while(1, 3), when(numbers(2), nil), exit(), putOff(0)), false},
		{"deep in a loop", function(numbers(0), while(1), when(numbers(2), nil), when(nil, numbers(3)), when(numbers(4), nil), putOff(0)), false},
		{"behind a loop", function(numbers(0, 2), while(1), exit(), putOff(0)), true},
		{"behind an empty loop", function(numbers(0, 1), while(), putOff(0)), true},
		{"ahead of a loop", function(numbers(0, 1), putOff(0), while(2), exit()), true},
		{"behind a loop in Then", function(numbers(0), when(numbers(1, 3), nil), while(2), exit(), putOff(0)), true},
		{"in Else behind a loop in Then", function(numbers(0), when(numbers(1), numbers(3)), while(2), exit(), putOff(0)), true},
		{"in Then and in Else", function(numbers(0), when(numbers(1), numbers(2)), putOff(0), putOff(0)), true},
	} {
		expectFunc(t, c.name, c.f, c.want)
	}
}

func TestWhatIsSaidOfOthers(t *testing.T) {
	one, two := sized(1, 1, flat()), sized(2, 2, flat())
	for _, c := range []struct {
		name        string
		p           impl.Prog
		good, alone bool
	}{
		{"a put off function with Params", program(flat(putOff(1)), one), false, true},
		{"a put off function without", program(flat(putOff(1)), flat()), true, true},
		{"a put off function that is just not there", program(flat(putOff(2)), flat()), false, true},
		{"the last that could be there put off", program(flat(putOff(4)), flat()), false, true},
		{"one beyond put off", program(flat(putOff(5)), flat()), false, false},
		{"one below put off", program(flat(putOff(-1)), flat()), false, false},
		{"function 0 with Params", program(one), false, true}, {"function 0 with two", program(two, flat()), false, true},
		{"function 0 with Params, not called", program(sized(1, 2, flat(exit())), flat()), false, true},
		{"function 0 put off by itself", program(flat(putOff(0))), true, true},
		{"a call that fits", program(flat(do(num(1), call(1))), one), true, true},
		{"a call with too few", program(flat(do(num(1), call(1))), two), false, true},
		{"a call with too many", program(flat(do(num(1), call(1))), flat()), false, true},
		{"a call of two that fits", program(flat(do(num(1), num(2), call(1))), two), true, true},
		{"a call of two with less Params", program(flat(do(num(1), num(2), call(1))), one), false, true},
		{"a call with more than any takes", program(flat(do(num(1), num(2), num(3), call(1))), two), false, false},
		{"a call that is just not there", program(flat(do(call(2))), flat()), false, true},
		{"the last that could be there called", program(flat(do(num(1), call(4)))), false, true},
		{"one beyond called", program(flat(do(call(5)))), false, false}, {"one below called", program(flat(do(call(-1)))), false, false},
		{"five calls of unlike Params", program(flat(do(call(4), call(3), num(1), call(2), call(1)))), false, true},
		{"called with one, put off", program(flat(do(num(1), call(1)), putOff(1)), one), false, true},
		{"called with none and with one", program(flat(do(call(1)), do(num(1), call(1))), one), false, false},
		{"called with none and with one, at once", program(flat(do(call(1), call(1))), one), false, false},
		{"two called, with none and with one", program(flat(do(call(2)), do(num(1), call(1))), one, flat()), true, true},
	} {
		if ok := impl.GoodProg(c.p); ok != c.good {
			t.Errorf("%s: GoodProg tells %v", c.name, ok)
		}
		if _, ok := impl.ParamsOf(c.p); ok != c.good {
			t.Errorf("%s: ParamsOf tells %v", c.name, ok)
		}
		if l, ok := impl.OrderOf(c.p.Funcs[0]); ok != c.alone || ok && len(l) != len(c.p.Funcs[0].Stmts) {
			t.Errorf("%s: OrderOf tells %v, %v", c.name, l, ok)
		}
		if _, ok := impl.SitesOf(c.p.Funcs[0]); ok != c.alone {
			t.Errorf("%s: SitesOf tells %v", c.name, ok)
		}
		checkProg(t, c.p)
	}
}

func TestCallsAndRecoversInBlocks(t *testing.T) {
	p := program(
		function(numbers(0, 4), when(numbers(1, 2), numbers(3)), putOff(3), do(call(3), call(1)), putOff(0), while(5), do(plain(impl.ExRecover), num(1), call(4))),
		sized(1, 1, flat()), flat(putOff(2), putOff(2), putOff(2)), flat(do(call(2)), do(call(0))), sized(2, 3, flat(does(impl.StReturn, num(impl.ExRecover)))),
	)
	for fn, c := range []struct {
		calls    []int
		recovers bool
	}{{numbers(0, 1, 3, 4), true}, {nil, false}, {numbers(2), false}, {numbers(0, 2), false}, {nil, false}} {
		if l, ok := impl.CallsOf(p, fn); !ok || !slices.Equal(l, c.calls) {
			t.Errorf("CallsOf %d: %v, %v", fn, l, ok)
		}
		if is, ok := impl.MayRecover(p, fn); !ok || is != c.recovers {
			t.Errorf("MayRecover %d: %v, %v", fn, is, ok)
		}
	}
	checkProg(t, p)
}

// TestOfProgramsThatAreNotGood has, of a function that would have an answer, each program that is not good.
func TestOfProgramsThatAreNotGood(t *testing.T) {
	fine := flat(putOff(0), do(plain(impl.ExRecover), call(0), plain(impl.ExAdd)))
	if l, ok := impl.CallsOf(program(fine), 0); !ok || !slices.Equal(l, numbers(0)) {
		t.Fatal("CallsOf", l, ok)
	}
	for _, p := range []impl.Prog{
		{}, program(), program(fine, fine, fine, fine, fine, fine), program(fine, sized(0, 7, flat())),
		program(fine, function(numbers(1), exit())), program(fine, flat(do(call(2)))), program(sized(1, 1, fine)),
	} {
		if impl.GoodProg(p) {
			t.Errorf("good: %v", p)
		}
		if l, ok := impl.ParamsOf(p); len(l) != 0 || ok {
			t.Errorf("ParamsOf(%v): %v, %v", p, l, ok)
		}
		if l, ok := impl.CallsOf(p, 0); len(l) != 0 || ok {
			t.Errorf("CallsOf(%v): %v, %v", p, l, ok)
		}
		if is, ok := impl.MayRecover(p, 0); is || ok {
			t.Errorf("MayRecover(%v): %v, %v", p, is, ok)
		}
		checkProg(t, p)
	}
	for _, fn := range numbers(-1, 1, 2, math.MinInt, math.MaxInt) {
		if l, ok := impl.CallsOf(program(fine), fn); len(l) != 0 || ok {
			t.Errorf("CallsOf function %d: %v, %v", fn, l, ok)
		}
		if is, ok := impl.MayRecover(program(fine), fn); is || ok {
			t.Errorf("MayRecover function %d: %v, %v", fn, is, ok)
		}
	}
}

// checkPlaces is promise 3, of a function that is good: each statement is in one block, and block by block they are in order.
func checkPlaces(t *testing.T, f impl.Func) {
	t.Helper()
	times := make([]int, len(f.Stmts))
	for _, b := range blocksOf(f) {
		for _, n := range b.numbers {
			times[n]++
		}
		if !rising(b.numbers) {
			t.Fatalf("a block of %v is %v", f, b.numbers)
		}
	}
	order, ok := impl.OrderOf(f)
	if !ok || !rising(order) || len(order) != len(f.Stmts) {
		t.Fatalf("OrderOf(%v): %v, %v", f, order, ok)
	}
	for n, many := range times {
		if many != 1 {
			t.Fatalf("statement %d of %v is in %d blocks", n, f, many)
		}
	}
}

// listsOf has all lists of at most long numbers out of some.
func listsOf(some []int, long int) [][]int {
	lists := [][]int{nil}
	if long == 0 {
		return lists
	}
	for _, n := range some {
		for _, l := range listsOf(some, long-1) {
			lists = append(lists, append(numbers(n), l...))
		}
	}
	return lists
}

func TestListsOf(t *testing.T) {
	if many := len(listsOf(upTo(3), 2)); many != 1+3+9 {
		t.Errorf("%d lists", many)
	}
}

// layings goes through all functions of that many StIf whose blocks are of those lists.
func layings(many int, lists [][]int, try func(f impl.Func)) {
	f := impl.Func{Stmts: slices.Repeat([]impl.Stmt{when(nil, nil)}, many)}
	var lay func(at int)
	lay = func(at int) {
		if at > 2*many {
			try(f)
			return
		}
		for _, l := range lists {
			switch {
			case at == 0:
				f.Body = l
			case at%2 == 1:
				f.Stmts[at/2].Then = l
			default:
				f.Stmts[at/2-1].Else = l
			}
			lay(at + 1)
		}
	}
	lay(0)
}

func TestAllBlocksOfFewStatements(t *testing.T) {
	layings(0, listsOf(numbers(-1, 0, 1), 2), func(f impl.Func) { checkFunc(t, f) })
	layings(1, listsOf(numbers(-1, 0, 1), 2), func(f impl.Func) { checkFunc(t, f) })
	layings(2, listsOf(numbers(0, 1, 2), 2), func(f impl.Func) {
		// The Params of others have no part in it, so only one list of them is tried.
		if _, ok := impl.OrderOf(f); ok != (wantShape(f) && wantStmts(f, nil)) {
			t.Fatalf("OrderOf(%v) tells %v", f, ok)
		}
	})
}

// TestAllRisingBlocks counts: the first of n statements in order has a block Then, a block Else, and a block that goes on behind it, so there are as many as trees of three branches.
func TestAllRisingBlocks(t *testing.T) {
	for many, want := range []int{1, 1, 3, 12} {
		var lists [][]int
		for set := range 1 << many {
			var l []int
			for n := range many {
				if set>>n&1 == 1 {
					l = append(l, n)
				}
			}
			lists = append(lists, l)
		}
		good := 0
		layings(many, lists, func(f impl.Func) {
			if order, ok := impl.OrderOf(f); ok && slices.Equal(order, upTo(many)) {
				good++
				checkPlaces(t, f)
			}
		})
		if good != want {
			t.Errorf("%d ways to lay %d statements, want %d", good, many, want)
		}
	}
}

// maker writes the statements of one function, block by block.
type maker struct {
	r      *rand.Rand
	vars   int
	params []int
	most   int
	sites  int
	stmts  []impl.Stmt
}

func (m *maker) expr() []impl.Tok {
	for {
		e := randomExpr(m.r, m.vars, m.params)
		if _, ok := wantTree(e, m.vars, m.params); ok {
			return e
		}
	}
}

func (m *maker) kind(inLoop bool) int {
	for {
		kind := 1 + m.r.Intn(9)
		noDefer := kind == impl.StDefer && (inLoop || m.sites == 4)
		if !noDefer && (kind != impl.StSet || m.vars > 0) {
			return kind
		}
	}
}

func (m *maker) block(inLoop bool) []int {
	var l []int
	for range m.r.Intn(5) {
		if len(m.stmts) == m.most {
			break
		}
		l = append(l, len(m.stmts))
		m.statement(inLoop)
	}
	return l
}

func (m *maker) statement(inLoop bool) {
	at := len(m.stmts)
	s := impl.Stmt{Kind: m.kind(inLoop)}
	m.stmts = append(m.stmts, s)
	form, _ := formOf(s.Kind, m.vars, len(m.params))
	if form.expr {
		s.Ex = m.expr()
	}
	if form.many > 1 {
		s.N = m.r.Intn(form.many)
	}
	if s.Kind == impl.StDefer {
		m.sites++
		for m.params[s.N] > 0 {
			s.N = m.r.Intn(form.many)
		}
	}
	if form.then {
		s.Then = m.block(inLoop || s.Kind == impl.StWhile)
	}
	if form.els {
		s.Else = m.block(inLoop)
	}
	m.stmts[at] = s
}

// randomProg is always good.
func randomProg(r *rand.Rand) impl.Prog {
	params := []int{0}
	for range r.Intn(5) {
		params = append(params, r.Intn(3))
	}
	var p impl.Prog
	for _, n := range params {
		m := &maker{r: r, vars: n + r.Intn(7-n), params: params, most: r.Intn(17)}
		body := m.block(false)
		for more := m.block(false); len(more) > 0; more = m.block(false) {
			body = append(body, more...)
		}
		p.Funcs = append(p.Funcs, impl.Func{Params: n, Vars: m.vars, Body: body, Stmts: m.stmts})
	}
	return p
}

func TestRandomPrograms(t *testing.T) {
	r := rand.New(rand.NewSource(7))
	stmts, longest, within := 0, 0, 0
	for range 4000 {
		p := randomProg(r)
		if !impl.GoodProg(p) {
			t.Fatalf("GoodProg(%v) tells false", p)
		}
		was := cloneProg(p)
		checkProg(t, p)
		for _, f := range p.Funcs {
			checkPlaces(t, f)
			stmts += len(f.Stmts)
			longest = max(longest, len(f.Stmts))
			within += len(f.Stmts) - len(f.Body)
		}
		if !reflect.DeepEqual(p, was) {
			t.Fatalf("changed: %v, was %v", p, was)
		}
	}
	if stmts < 20000 || longest != 16 || within < 5000 {
		t.Errorf("%d statements, at most %d, %d of them in blocks", stmts, longest, within)
	}
}

func cloneFunc(f impl.Func) impl.Func {
	f.Body, f.Stmts = slices.Clone(f.Body), slices.Clone(f.Stmts)
	for i, s := range f.Stmts {
		f.Stmts[i].Ex, f.Stmts[i].Then, f.Stmts[i].Else = slices.Clone(s.Ex), slices.Clone(s.Then), slices.Clone(s.Else)
	}
	return f
}

func cloneProg(p impl.Prog) impl.Prog {
	p.Funcs = slices.Clone(p.Funcs)
	for i, f := range p.Funcs {
		p.Funcs[i] = cloneFunc(f)
	}
	return p
}

// bend changes one thing somewhere in a list of numbers.
func bend(r *rand.Rand, l []int, some int) []int {
	at := r.Intn(len(l) + 1)
	switch {
	case r.Intn(2) == 0 || at == len(l):
		return slices.Insert(l, at, some)
	case r.Intn(2) == 0:
		return slices.Delete(l, at, at+1)
	}
	l[at] = some
	return l
}

// spoil changes one thing somewhere in a program, mostly to something near.
func spoil(r *rand.Rand, p *impl.Prog) {
	f := &p.Funcs[r.Intn(len(p.Funcs))]
	near := r.Intn(9) - 1
	if r.Intn(20) == 0 {
		near = someInts()[r.Intn(len(someInts()))]
	}
	if len(f.Stmts) == 0 || r.Intn(4) == 0 {
		switch r.Intn(5) {
		case 0:
			f.Params = near
		case 1:
			f.Vars = near
		case 2:
			f.Body = bend(r, f.Body, near)
		case 3:
			f.Stmts = append(f.Stmts, does(1+r.Intn(9), ones(1)...))
		case 4:
			p.Funcs = p.Funcs[:len(p.Funcs)-1]
		}
		return
	}
	s := &f.Stmts[r.Intn(len(f.Stmts))]
	switch r.Intn(5) {
	case 0:
		s.Kind = near
	case 1:
		s.N = near
	case 2:
		s.Then = bend(r, s.Then, near)
	case 3:
		s.Else = bend(r, s.Else, near)
	case 4:
		s.Ex = append(s.Ex, impl.Tok{Op: r.Intn(13), N: max(near, 0)})
		at := r.Intn(len(s.Ex))
		s.Ex[at], s.Ex[len(s.Ex)-1] = s.Ex[len(s.Ex)-1], s.Ex[at]
		s.Ex = s.Ex[:len(s.Ex)-r.Intn(2)]
	}
}

func TestSpoiledPrograms(t *testing.T) {
	r := rand.New(rand.NewSource(8))
	good, bad := 0, 0
	for range 15000 {
		p := randomProg(r)
		for range 1 + r.Intn(2) {
			if len(p.Funcs) > 0 {
				spoil(r, &p)
			}
		}
		checkProg(t, p)
		if impl.GoodProg(p) {
			good++
			for _, f := range p.Funcs {
				checkPlaces(t, f)
			}
		} else {
			bad++
		}
	}
	if good < 500 || bad < 5000 {
		t.Errorf("%d good, %d bad", good, bad)
	}
}

// TestProgramsOfAnyArguments puts each odd number in each place, and has blocks that a walk without care would not leave.
func TestProgramsOfAnyArguments(t *testing.T) {
	for _, n := range someInts() {
		for _, change := range []func(f *impl.Func){
			func(f *impl.Func) { f.Params = n }, func(f *impl.Func) { f.Vars = n },
			func(f *impl.Func) { f.Params, f.Vars = n, n }, func(f *impl.Func) { f.Body[1] = n },
			func(f *impl.Func) { f.Body = append(f.Body, n) }, func(f *impl.Func) { f.Stmts[1].Then[0] = n },
			func(f *impl.Func) { f.Stmts[1].Else = numbers(n) }, func(f *impl.Func) { f.Stmts[4].Else = numbers(n) },
			func(f *impl.Func) { f.Stmts[0].Then = numbers(n) }, func(f *impl.Func) { f.Stmts[0].N = n },
			func(f *impl.Func) { f.Stmts[2].N = n }, func(f *impl.Func) { f.Stmts[6].N = n },
			func(f *impl.Func) { f.Stmts[3].Kind = n }, func(f *impl.Func) { f.Stmts[2].Kind = n },
			func(f *impl.Func) { f.Stmts[9].Ex[2].N = n }, func(f *impl.Func) { f.Stmts[9].Ex[2].Op = n },
			func(f *impl.Func) { f.Stmts[0].Ex[0].N = n }, func(f *impl.Func) { f.Stmts[3].Ex[0].N = n },
		} {
			p := rich()
			change(&p.Funcs[0])
			checkProg(t, p)
		}
	}
	long := slices.Repeat(numbers(0), 1000000)
	knot := slices.Repeat([]impl.Stmt{when(upTo(16), upTo(16))}, 16)
	for _, f := range []impl.Func{
		function(upTo(16), knot...), function(long, knot...), function(long, exit()), function(upTo(1000000), exit()), function(long),
		function(numbers(0), when(long, long)), function(numbers(0), impl.Stmt{Kind: impl.StDo, Ex: ones(1000000)}),
		function(upTo(100000), make([]impl.Stmt, 100000)...), function(nil, make([]impl.Stmt, 3)...),
	} {
		expectFunc(t, "a knot", f, false)
	}
	checkProg(t, impl.Prog{Funcs: make([]impl.Func, 100000)})
	checkProg(t, impl.Prog{Funcs: []impl.Func{}})
}

// spare has the same members as l, and behind its length junk.
func spare[T any](l []T, junk ...T) []T {
	return append(slices.Clone(l), junk...)[:len(l)]
}

// withSpare has behind each list what would change the answers.
func withSpare(p impl.Prog) impl.Prog {
	p = cloneProg(p)
	for i := range p.Funcs {
		f := &p.Funcs[i]
		for j := range f.Stmts {
			s := &f.Stmts[j]
			s.Ex = spare(s.Ex, plain(impl.ExRecover), call(0), plain(77))
			s.Then, s.Else = spare(s.Then, len(f.Stmts), 0), spare(s.Else, len(f.Stmts), 0)
		}
		f.Body = spare(f.Body, len(f.Stmts), -1)
		f.Stmts = spare(f.Stmts, putOff(0), putOff(77))
	}
	p.Funcs = spare(p.Funcs, flat(putOff(0)), sized(9, 9, flat()))
	return p
}

// wholeOf has each list with what lies behind it.
func wholeOf(p impl.Prog) impl.Prog {
	p.Funcs = slices.Clone(p.Funcs[:cap(p.Funcs)])
	for i, f := range p.Funcs {
		f.Body, f.Stmts = slices.Clone(f.Body[:cap(f.Body)]), slices.Clone(f.Stmts[:cap(f.Stmts)])
		for j, s := range f.Stmts {
			f.Stmts[j].Ex = slices.Clone(s.Ex[:cap(s.Ex)])
			f.Stmts[j].Then, f.Stmts[j].Else = slices.Clone(s.Then[:cap(s.Then)]), slices.Clone(s.Else[:cap(s.Else)])
		}
		p.Funcs[i] = f
	}
	return p
}

func TestProgramsLeaveTheirArguments(t *testing.T) {
	r := rand.New(rand.NewSource(9))
	progs := []impl.Prog{rich(), program(flat()), program(function(numbers(0), while(0))), program(flat(putOff(5)))}
	for range 300 {
		p := randomProg(r)
		progs = append(progs, p)
		q := cloneProg(p)
		spoil(r, &q)
		progs = append(progs, q)
	}
	for _, p := range progs {
		p = withSpare(p)
		was := wholeOf(p)
		checkProg(t, p)
		if now := wholeOf(p); !reflect.DeepEqual(now, was) {
			t.Fatalf("changed: %v, was %v", now, was)
		}
	}
}

// scribble writes all over a list, and behind it.
func scribble(l []int) {
	for i := range l[:cap(l)] {
		l[:cap(l)][i] = 99
	}
}

func TestAnswersOfProgramsAreNewMemory(t *testing.T) {
	p := withSpare(rich())
	was := wholeOf(p)
	for range 2 {
		for fn, f := range p.Funcs {
			checkProg(t, p)
			params, _ := impl.ParamsOf(p)
			sites, _ := impl.SitesOf(f)
			order, _ := impl.OrderOf(f)
			calls, _ := impl.CallsOf(p, fn)
			kept := slices.Clone(order)
			scribble(params)
			scribble(sites)
			scribble(calls)
			if !slices.Equal(order, kept) {
				t.Errorf("two answers share memory: %v", order)
			}
			scribble(order)
		}
	}
	if now := wholeOf(p); !reflect.DeepEqual(now, was) {
		t.Errorf("changed: %v, was %v", now, was)
	}
}
