package tests

import (
	"math"
	"math/big"
	"math/rand"
	"regexp"
	"slices"
	"strconv"
	"strings"
	"testing"

	"loop.example/g00745/impl"
)

const least, greatest = -2147483648, 2147483647

// someInts has the bounds, the limits of the chapter, one beyond each, and the ends of int.
func someInts() []int {
	return []int{
		0, 1, 2, 3, 4, 5, 6, 7, 12, 99, 100, -1, -2, -7, 65535, 65536, 46340, 46341, -46341,
		greatest - 1, greatest, greatest + 1, least - 1, least, least + 1,
		1<<32 - 1, 1 << 32, 1<<32 + 1, -1 << 32, math.MaxInt - 1, math.MaxInt, math.MinInt, math.MinInt + 1,
	}
}

func within(n int) bool {
	return n >= least && n <= greatest
}

// wantWrap goes by what is left of a division by 2 to the 32nd.
func wantWrap(n *big.Int) int {
	rest := int(new(big.Int).Mod(n, power(32)).Int64())
	if rest > greatest {
		rest -= 1 << 32
	}
	return rest
}

func num(n int) impl.Tok       { return impl.Tok{Op: impl.ExNum, N: n} }
func variable(n int) impl.Tok  { return impl.Tok{Op: impl.ExVar, N: n} }
func call(n int) impl.Tok      { return impl.Tok{Op: impl.ExCall, N: n} }
func plain(op int) impl.Tok    { return impl.Tok{Op: op} }
func sums(many int) []impl.Tok { return slices.Repeat([]impl.Tok{plain(impl.ExAdd)}, many) }
func ones(many int) []impl.Tok { return slices.Repeat([]impl.Tok{num(1)}, many) }

func TestOpsAreAsTold(t *testing.T) {
	ops := []int{
		impl.ExNum, impl.ExVar, impl.ExAdd, impl.ExSub, impl.ExMul, impl.ExDiv,
		impl.ExLess, impl.ExSame, impl.ExInput, impl.ExRecover, impl.ExCall,
	}
	for i, op := range ops {
		if op != i+1 {
			t.Errorf("op %d is %d", i+1, op)
		}
	}
	if impl.MaxTokens != 12 || impl.MaxVars != 6 || impl.MaxFuncs != 5 {
		t.Error("limits", impl.MaxTokens, impl.MaxVars, impl.MaxFuncs)
	}
}

func TestWrapOf(t *testing.T) {
	for _, c := range []struct{ n, want int }{
		{0, 0}, {-1, -1}, {greatest, greatest}, {greatest + 1, least}, {least, least}, {least - 1, greatest},
		{1 << 32, 0}, {1<<32 - 1, -1}, {-1 << 32, 0}, {-1<<32 - 1, -1}, {1<<31 + 1<<40, least},
		{math.MaxInt, -1}, {math.MinInt, 0}, {math.MaxInt - 1, -2}, {math.MinInt + 1, 1},
	} {
		if n := impl.WrapOf(c.n); n != c.want {
			t.Errorf("WrapOf(%d): %d, want %d", c.n, n, c.want)
		}
	}
	for _, n := range append(someInts(), someSigned()...) {
		if got, want := impl.WrapOf(n), wantWrap(big.NewInt(int64(n))); got != want || !within(got) {
			t.Fatalf("WrapOf(%d): %d, want %d", n, got, want)
		}
	}
}

// wantNeeds tells how many a token takes, -1 where it is none; params are as said.
func wantNeeds(t impl.Tok, vars int, params []int) int {
	if t.Op == impl.ExNum && within(t.N) || t.Op == impl.ExVar && t.N >= 0 && t.N < vars {
		return 0
	}
	if t.Op == impl.ExCall && t.N >= 0 && t.N < len(params) {
		return params[t.N]
	}
	if t.N == 0 && slices.Contains([]int{3, 4, 5, 6, 7, 8}, t.Op) {
		return 2
	}
	if t.N == 0 && (t.Op == impl.ExInput || t.Op == impl.ExRecover) {
		return 0
	}
	return -1
}

func paramsAsSaid(params []int) bool {
	wrong := func(n int) bool { return n != 0 && n != 1 && n != 2 }
	return len(params) <= 5 && !slices.ContainsFunc(params, wrong)
}

func checkNeeds(t *testing.T, tok impl.Tok, params []int) {
	t.Helper()
	want := -1
	if paramsAsSaid(params) {
		want = wantNeeds(tok, 6, params)
	}
	n, ok := impl.NeedsOf(tok, params)
	if ok != (want >= 0) || n != max(want, 0) {
		t.Fatalf("NeedsOf(%v, %v): %d, %v; want %d", tok, params, n, ok, want)
	}
}

// someParams has good ones and some that are not.
func someParams() [][]int {
	return [][]int{
		nil, {}, {0}, {1}, {2}, {3}, {-1}, {0, 2}, {2, 1, 0}, {0, 1, 2, 1, 0}, {2, 2, 2, 2, 2},
		{0, 0, 0, 0, 0, 0}, {0, 0, 0, 0, 3}, {0, -1}, {1, math.MaxInt}, {math.MinInt, 0}, make([]int, 100),
	}
}

func TestNeedsOf(t *testing.T) {
	for _, c := range []struct {
		tok    impl.Tok
		params []int
		n      int
		ok     bool
	}{
		{num(least), nil, 0, true}, {num(greatest), nil, 0, true},
		{num(least - 1), nil, 0, false}, {num(greatest + 1), nil, 0, false},
		{variable(0), nil, 0, true}, {variable(5), nil, 0, true}, {variable(6), nil, 0, false}, {variable(-1), nil, 0, false},
		{plain(impl.ExAdd), nil, 2, true}, {plain(impl.ExSame), nil, 2, true},
		{plain(impl.ExInput), nil, 0, true}, {plain(impl.ExRecover), nil, 0, true},
		{impl.Tok{Op: impl.ExDiv, N: 1}, nil, 0, false}, {impl.Tok{Op: impl.ExInput, N: -1}, nil, 0, false},
		{impl.Tok{Op: impl.ExRecover, N: 1}, nil, 0, false},
		{call(0), nil, 0, false}, {call(0), []int{0}, 0, true}, {call(0), []int{1}, 1, true}, {call(0), []int{2}, 2, true},
		{call(1), []int{2}, 0, false}, {call(-1), []int{2}, 0, false},
		{call(4), []int{0, 0, 0, 0, 1}, 1, true}, {call(5), []int{0, 0, 0, 0, 1}, 0, false},
		{call(0), []int{3}, 0, false}, {call(0), []int{-1}, 0, false}, {call(0), []int{1, 0, 0, 0, 0, 0}, 0, false},
		{num(1), []int{3}, 0, false}, {num(1), []int{0, 0, 0, 0, 0, 0}, 0, false},
		{plain(0), nil, 0, false}, {plain(12), nil, 0, false}, {plain(-1), nil, 0, false},
	} {
		if n, ok := impl.NeedsOf(c.tok, c.params); n != c.n || ok != c.ok {
			t.Errorf("NeedsOf(%v, %v): %d, %v; want %d, %v", c.tok, c.params, n, ok, c.n, c.ok)
		}
	}
	for _, params := range someParams() {
		for _, n := range someInts() {
			for op := -2; op <= 14; op++ {
				checkNeeds(t, impl.Tok{Op: op, N: n}, params)
			}
			for _, op := range someInts() {
				checkNeeds(t, impl.Tok{Op: op, N: n}, params)
			}
		}
	}
}

// tree is an expression as what its last token takes, and so on: found from the end, not by a pile.
type tree struct {
	tok   impl.Tok
	parts []tree
}

// treeUpTo takes a tree off the end of the tokens, and tells what is left ahead of it.
func treeUpTo(e []impl.Tok, vars int, params []int) (tree, []impl.Tok, bool) {
	if len(e) == 0 {
		return tree{}, nil, false
	}
	top := tree{tok: e[len(e)-1]}
	needs := wantNeeds(top.tok, vars, params)
	rest := e[:len(e)-1]
	for range needs {
		part, ahead, ok := treeUpTo(rest, vars, params)
		if !ok {
			return tree{}, nil, false
		}
		top.parts = append([]tree{part}, top.parts...)
		rest = ahead
	}
	return top, rest, needs >= 0
}

func wantTree(e []impl.Tok, vars int, params []int) (tree, bool) {
	if len(e) > 12 || vars < 0 || vars > 6 || !paramsAsSaid(params) {
		return tree{}, false
	}
	top, rest, ok := treeUpTo(e, vars, params)
	return top, ok && len(rest) == 0
}

// high: while a part is done those ahead of it lie on the pile already.
func (x tree) high() int {
	most := 1
	for i, part := range x.parts {
		most = max(most, i+part.high())
	}
	return most
}

// value tells false where there is a division by 0.
func (x tree) value(env []int) (int, bool) {
	switch x.tok.Op {
	case impl.ExNum:
		return x.tok.N, true
	case impl.ExVar:
		return env[x.tok.N], true
	}
	left, ok := x.parts[0].value(env)
	if !ok {
		return 0, false
	}
	right, ok := x.parts[1].value(env)
	if !ok {
		return 0, false
	}
	return wantReckon(x.tok.Op, left, right)
}

func (x tree) pure() bool {
	if slices.Contains([]int{impl.ExInput, impl.ExRecover, impl.ExCall}, x.tok.Op) {
		return false
	}
	return !slices.ContainsFunc(x.parts, func(part tree) bool { return !part.pure() })
}

func wantReckon(op, left, right int) (int, bool) {
	x, y, z := big.NewInt(int64(left)), big.NewInt(int64(right)), new(big.Int)
	switch op {
	case impl.ExAdd:
		z.Add(x, y)
	case impl.ExSub:
		z.Sub(x, y)
	case impl.ExMul:
		z.Mul(x, y)
	case impl.ExDiv:
		if right == 0 {
			return 0, false
		}
		z.Quo(x, y)
	case impl.ExLess:
		if left < right {
			z.SetInt64(1)
		}
	case impl.ExSame:
		if left == right {
			z.SetInt64(1)
		}
	}
	return wantWrap(z), true
}

func checkExpr(t *testing.T, e []impl.Tok, vars int, params []int) {
	t.Helper()
	_, want := wantTree(e, vars, params)
	if ok := impl.GoodExpr(e, vars, params); ok != want {
		t.Fatalf("GoodExpr(%v, %d, %v): %v, want %v", e, vars, params, ok, want)
	}
	top, want := wantTree(e, 6, params)
	wantHigh := 0
	if want {
		wantHigh = top.high()
	}
	if high, ok := impl.HighOf(e, params); high != wantHigh || ok != want {
		t.Fatalf("HighOf(%v, %v): %d, %v; want %d, %v", e, params, high, ok, wantHigh, want)
	}
}

func envAsSaid(env []int) bool {
	return len(env) <= 6 && !slices.ContainsFunc(env, func(n int) bool { return !within(n) })
}

func checkEval(t *testing.T, e []impl.Tok, env []int) {
	t.Helper()
	top, wantOk := wantTree(e, len(env), nil)
	wantOk = wantOk && top.pure() && envAsSaid(env)
	want, wantDoes := 0, false
	if wantOk {
		want, wantDoes = top.value(env)
	}
	n, does, ok := impl.EvalPure(e, env)
	if n != want || does != wantDoes || ok != wantOk {
		t.Fatalf("EvalPure(%v, %v): %d, %v, %v; want %d, %v, %v", e, env, n, does, ok, want, wantDoes, wantOk)
	}
	if !within(n) {
		t.Fatalf("EvalPure(%v, %v): %d is beyond the bounds", e, env, n)
	}
}

func TestGoodExprLimits(t *testing.T) {
	// Six numbers and five sums are 11 tokens; each call that takes one number is one more.
	eleven := append(ones(6), sums(5)...)
	one := []int{1, 0}
	twelve := append(slices.Clone(eleven), call(0))
	thirteen := append(slices.Clone(twelve), call(0))
	for _, c := range []struct {
		name   string
		e      []impl.Tok
		vars   int
		params []int
		want   bool
	}{
		{"no token", nil, 6, nil, false}, {"no token, empty", []impl.Tok{}, 6, one, false},
		{"one", ones(1), 0, nil, true}, {"eleven", eleven, 0, nil, true},
		{"twelve", twelve, 0, one, true}, {"thirteen", thirteen, 0, one, false},
		{"vars 0", ones(1), 0, nil, true}, {"vars MaxVars", ones(1), 6, nil, true},
		{"vars below", ones(1), -1, nil, false}, {"vars beyond", ones(1), 7, nil, false},
		{"variable just there", []impl.Tok{variable(2)}, 3, nil, true},
		{"variable just not", []impl.Tok{variable(3)}, 3, nil, false},
		{"no variables", []impl.Tok{variable(0)}, 0, nil, false},
		{"the last variable", []impl.Tok{variable(5)}, 6, nil, true},
		{"a variable beyond all", []impl.Tok{variable(6)}, 7, nil, false},
		{"call just there", []impl.Tok{call(1)}, 0, one, true}, {"call just not", []impl.Tok{call(2)}, 0, one, false},
		{"MaxFuncs params", ones(1), 0, make([]int, 5), true}, {"one more", ones(1), 0, make([]int, 6), false},
		{"params of 2", ones(1), 0, []int{2}, true}, {"params of 3", ones(1), 0, []int{3}, false},
		{"params of -1", ones(1), 0, []int{-1}, false},
		{"too few for a sum", append(ones(1), sums(1)...), 0, nil, false},
		{"none for a sum", sums(1), 0, nil, false},
		{"too few, then enough in all", []impl.Tok{num(1), plain(impl.ExAdd), num(1)}, 0, nil, false},
		{"too few for a call", []impl.Tok{num(1), call(0)}, 0, []int{2}, false},
		{"enough for a call", []impl.Tok{num(1), num(1), call(0)}, 0, []int{2}, true},
		{"two in the end", ones(2), 0, nil, false},
		{"twelve in the end", ones(12), 0, nil, false},
		{"N with a sum", []impl.Tok{num(1), num(1), {Op: impl.ExAdd, N: 1}}, 0, nil, false},
		{"N with an input", []impl.Tok{{Op: impl.ExInput, N: 1}}, 0, nil, false},
		{"N with a recover", []impl.Tok{{Op: impl.ExRecover, N: -1}}, 0, nil, false},
		{"the least number", []impl.Tok{num(least)}, 0, nil, true},
		{"below it", []impl.Tok{num(least - 1)}, 0, nil, false},
		{"the greatest number", []impl.Tok{num(greatest)}, 0, nil, true},
		{"above it", []impl.Tok{num(greatest + 1)}, 0, nil, false},
		{"op 0", []impl.Tok{plain(0)}, 0, nil, false}, {"op 12", []impl.Tok{plain(12)}, 0, nil, false},
	} {
		if ok := impl.GoodExpr(c.e, c.vars, c.params); ok != c.want {
			t.Errorf("%s: %v, want %v", c.name, ok, c.want)
		}
		checkExpr(t, c.e, c.vars, c.params)
	}
}

func TestHighOf(t *testing.T) {
	left := ones(1)
	for range 5 {
		left = append(left, num(1), plain(impl.ExMul))
	}
	for _, c := range []struct {
		e      []impl.Tok
		params []int
		high   int
		ok     bool
	}{
		{ones(1), nil, 1, true}, {append(ones(2), sums(1)...), nil, 2, true}, {left, nil, 2, true},
		{append(ones(6), sums(5)...), nil, 6, true}, {append(ones(11), sums(1)...), nil, 0, false},
		{[]impl.Tok{plain(impl.ExInput), plain(impl.ExRecover), call(0)}, []int{2}, 2, true},
		{[]impl.Tok{call(0), call(0), call(1)}, []int{0, 2}, 2, true},
		{[]impl.Tok{call(0), call(1)}, []int{0, 1}, 1, true},
		{[]impl.Tok{variable(5)}, nil, 1, true}, {[]impl.Tok{variable(6)}, nil, 0, false},
		{ones(2), nil, 0, false}, {nil, nil, 0, false}, {ones(1), []int{3}, 0, false}, {ones(1), make([]int, 6), 0, false},
	} {
		if high, ok := impl.HighOf(c.e, c.params); high != c.high || ok != c.ok {
			t.Errorf("HighOf(%v, %v): %d, %v; want %d, %v", c.e, c.params, high, ok, c.high, c.ok)
		}
	}
}

// TestAllShortExpressions has every row of at most five tokens out of one of each sort.
func TestAllShortExpressions(t *testing.T) {
	sorts := []impl.Tok{
		num(-3), variable(0), variable(1), plain(impl.ExSub), plain(impl.ExDiv),
		plain(impl.ExInput), call(0), call(1), call(2), plain(0),
	}
	params := []int{1, 2, 0}
	var grow func(e []impl.Tok)
	grow = func(e []impl.Tok) {
		checkExpr(t, e, 1, params)
		checkEval(t, e, []int{0})
		checkEval(t, e, []int{7, -2})
		if len(e) == 5 {
			return
		}
		for _, tok := range sorts {
			grow(append(slices.Clone(e), tok))
		}
	}
	grow(nil)
}

// randomExpr is good where there is room for it: it puts as long as it can still take all in the end.
func randomExpr(r *rand.Rand, vars int, params []int) []impl.Tok {
	var e []impl.Tok
	long := 1 + r.Intn(impl.MaxTokens)
	height := 0
	for len(e) < long || height > 1 {
		if height >= 2 && (r.Intn(2) == 0 || len(e)+height > long) {
			e = append(e, plain(impl.ExAdd+r.Intn(6)))
			height--
			continue
		}
		fn := r.Intn(6)
		if fn < len(params) && params[fn] <= height && r.Intn(2) == 0 {
			e = append(e, call(fn))
			height += 1 - params[fn]
			continue
		}
		e = append(e, randomLeaf(r, vars, len(params) > 0))
		height++
	}
	return e
}

func randomLeaf(r *rand.Rand, vars int, outside bool) impl.Tok {
	switch k := r.Intn(4); {
	case k == 0 && outside:
		return plain(impl.ExInput + r.Intn(2))
	case k < 2 && vars > 0:
		return variable(r.Intn(vars))
	}
	return num(randomNumber(r))
}

// randomNumber is small, any, or near a bound, so that quotients, products and sums meet their edges.
func randomNumber(r *rand.Rand) int {
	switch r.Intn(4) {
	case 0:
		return r.Intn(7) - 3
	case 1:
		return least + r.Intn(3)
	case 2:
		return greatest - r.Intn(3)
	}
	return impl.WrapOf(int(r.Uint64()))
}

func TestRandomExpressions(t *testing.T) {
	r := rand.New(rand.NewSource(3))
	good := 0
	for range 20000 {
		vars := r.Intn(7)
		var params []int
		for range r.Intn(6) {
			params = append(params, r.Intn(3))
		}
		e := randomExpr(r, vars, params)
		if impl.GoodExpr(e, vars, params) {
			good++
		}
		checkExpr(t, e, vars, params)
		e[r.Intn(len(e))] = impl.Tok{Op: r.Intn(13), N: r.Intn(3)}
		checkExpr(t, e, vars, params)
		checkExpr(t, e[:r.Intn(len(e))], vars, params)
	}
	if good < 10000 {
		t.Errorf("only %d were good", good)
	}
}

func TestReckon(t *testing.T) {
	for _, c := range []struct {
		op, x, y, n int
		told        bool
	}{
		{impl.ExAdd, greatest, 1, least, true}, {impl.ExAdd, least, -1, greatest, true}, {impl.ExAdd, greatest, greatest, -2, true},
		{impl.ExAdd, least, least, 0, true}, {impl.ExAdd, 2, 3, 5, true},
		{impl.ExSub, least, 1, greatest, true}, {impl.ExSub, greatest, -1, least, true}, {impl.ExSub, 0, least, least, true},
		{impl.ExSub, 2, 3, -1, true},
		{impl.ExMul, 65536, 65536, 0, true}, {impl.ExMul, 65536, 32768, least, true}, {impl.ExMul, least, -1, least, true},
		{impl.ExMul, least, least, 0, true}, {impl.ExMul, greatest, greatest, 1, true}, {impl.ExMul, 46341, 46341, -2147479015, true},
		{impl.ExMul, -4, 3, -12, true},
		{impl.ExDiv, 7, 2, 3, true}, {impl.ExDiv, -7, 2, -3, true}, {impl.ExDiv, 7, -2, -3, true}, {impl.ExDiv, -7, -2, 3, true},
		{impl.ExDiv, 1, 2, 0, true}, {impl.ExDiv, -1, 2, 0, true}, {impl.ExDiv, 0, 5, 0, true},
		{impl.ExDiv, least, -1, least, true}, {impl.ExDiv, least, 1, least, true}, {impl.ExDiv, greatest, least, 0, true},
		{impl.ExDiv, 7, 0, 0, false}, {impl.ExDiv, 0, 0, 0, false}, {impl.ExDiv, least, 0, 0, false},
		{impl.ExLess, 1, 2, 1, true}, {impl.ExLess, 2, 2, 0, true}, {impl.ExLess, 3, 2, 0, true},
		{impl.ExLess, least, greatest, 1, true}, {impl.ExLess, greatest, least, 0, true},
		{impl.ExSame, 2, 2, 1, true}, {impl.ExSame, 2, 3, 0, true}, {impl.ExSame, least, greatest, 0, true},
	} {
		if n, told, ok := impl.Reckon(c.op, c.x, c.y); n != c.n || told != c.told || !ok {
			t.Errorf("Reckon(%d, %d, %d): %d, %v, %v; want %d, %v", c.op, c.x, c.y, n, told, ok, c.n, c.told)
		}
	}
}

func checkReckon(t *testing.T, op, x, y int) {
	t.Helper()
	want, wantTold := 0, false
	wantOk := op >= 3 && op <= 8 && within(x) && within(y)
	if wantOk {
		want, wantTold = wantReckon(op, x, y)
	}
	n, told, ok := impl.Reckon(op, x, y)
	if n != want || told != wantTold || ok != wantOk {
		t.Fatalf("Reckon(%d, %d, %d): %d, %v, %v; want %d, %v, %v", op, x, y, n, told, ok, want, wantTold, wantOk)
	}
}

func TestReckonStaysWithinBounds(t *testing.T) {
	ops := append([]int{-1, 0, 1, 2, 3, 4, 5, 6, 7, 8, 9, 10, 11, 12}, math.MinInt, math.MaxInt, 1<<32+impl.ExAdd)
	for _, op := range ops {
		for _, x := range someInts() {
			for _, y := range someInts() {
				checkReckon(t, op, x, y)
			}
		}
	}
	r := rand.New(rand.NewSource(4))
	for range 50000 {
		checkReckon(t, impl.ExAdd+r.Intn(6), randomNumber(r), randomNumber(r))
	}
}

func TestEvalPure(t *testing.T) {
	half := []impl.Tok{variable(0), variable(1), plain(impl.ExDiv)}
	for _, c := range []struct {
		e        []impl.Tok
		env      []int
		n        int
		does, ok bool
	}{
		{[]impl.Tok{num(10), num(3), plain(impl.ExSub)}, nil, 7, true, true},
		{half, []int{-7, 2}, -3, true, true}, {half, []int{7, 0}, 0, false, true}, {half, []int{least, -1}, least, true, true},
		{append(append([]impl.Tok{num(5)}, half...), plain(impl.ExAdd)), []int{1, 0}, 0, false, true},
		{half, []int{1}, 0, false, false}, {half, []int{1, greatest + 1}, 0, false, false}, {half, []int{least - 1, 1}, 0, false, false},
		{half, []int{greatest, least}, 0, true, true}, {half, []int{1, 1, 0, 0, 0, 0}, 1, true, true},
		{half, []int{1, 1, 0, 0, 0, 0, 0}, 0, false, false}, {half, []int{1, 1, math.MaxInt}, 0, false, false},
		{[]impl.Tok{variable(5)}, []int{0, 1, 2, 3, 4, 5}, 5, true, true}, {[]impl.Tok{variable(5)}, []int{0, 1, 2, 3, 4}, 0, false, false},
		{[]impl.Tok{plain(impl.ExInput)}, nil, 0, false, false}, {[]impl.Tok{plain(impl.ExRecover)}, nil, 0, false, false},
		{[]impl.Tok{call(0)}, nil, 0, false, false}, {nil, nil, 0, false, false}, {ones(2), nil, 0, false, false},
		{[]impl.Tok{num(1), num(0), plain(impl.ExDiv), plain(impl.ExInput), plain(impl.ExAdd)}, nil, 0, false, false},
		{[]impl.Tok{num(1), num(0), plain(impl.ExDiv), num(1)}, nil, 0, false, false},
		{append(ones(6), sums(5)...), nil, 6, true, true},
	} {
		if n, does, ok := impl.EvalPure(c.e, c.env); n != c.n || does != c.does || ok != c.ok {
			t.Errorf("EvalPure(%v, %v): %d, %v, %v; want %d, %v, %v", c.e, c.env, n, does, ok, c.n, c.does, c.ok)
		}
		checkEval(t, c.e, c.env)
	}
}

func TestEvalPureStaysWithinBounds(t *testing.T) {
	r := rand.New(rand.NewSource(5))
	does := 0
	for range 30000 {
		env := make([]int, r.Intn(8))
		for i := range env {
			env[i] = randomNumber(r)
		}
		e := randomExpr(r, min(len(env), 6), nil)
		checkEval(t, e, env)
		if _, did, _ := impl.EvalPure(e, env); did {
			does++
		}
		if len(env) > 0 {
			env[r.Intn(len(env))] = someInts()[r.Intn(len(someInts()))]
			checkEval(t, e, env)
		}
	}
	if does < 15000 {
		t.Errorf("only %d came to something", does)
	}
}

var oneForm = regexp.MustCompile(`^(0|-?[1-9][0-9]*|[vf](0|[1-9][0-9]?)|[-+*/<=]|in|rec)$`)

// wantTok reads a word of which oneForm has the form.
func wantTok(word string) (impl.Tok, bool) {
	if !oneForm.MatchString(word) {
		return impl.Tok{}, false
	}
	if at := slices.Index([]string{"+", "-", "*", "/", "<", "=", "in", "rec"}, word); at >= 0 {
		return plain(3 + at), true
	}
	if word[0] == 'v' || word[0] == 'f' {
		n, _ := strconv.Atoi(word[1:])
		return map[byte]impl.Tok{'v': variable(n), 'f': call(n)}[word[0]], true
	}
	n, ok := new(big.Int).SetString(word, 10)
	if !ok || !n.IsInt64() || !within(int(n.Int64())) {
		return impl.Tok{}, false
	}
	return num(int(n.Int64())), true
}

func wantTokens(s string) ([]impl.Tok, bool) {
	words := strings.Split(s, " ")
	if len(words) > 12 || len(s) > 200 {
		return nil, false
	}
	var e []impl.Tok
	for _, word := range words {
		tok, ok := wantTok(word)
		if !ok {
			return nil, false
		}
		e = append(e, tok)
	}
	return e, true
}

func checkReadExpr(t *testing.T, s string) {
	t.Helper()
	want, wantOk := wantTokens(s)
	e, ok := impl.ReadExpr(s)
	if !slices.Equal(e, want) || ok != wantOk {
		t.Fatalf("ReadExpr(%q): %v, %v; want %v, %v", s, e, ok, want, wantOk)
	}
	if !ok {
		return
	}
	if text, ok := impl.ExprText(e); text != s || !ok {
		t.Fatalf("ExprText(%v): %q, %v; read from %q", e, text, ok, s)
	}
}

func TestExprText(t *testing.T) {
	for _, c := range []struct {
		e    []impl.Tok
		text string
	}{
		{[]impl.Tok{num(0)}, "0"}, {[]impl.Tok{num(-1)}, "-1"},
		{[]impl.Tok{num(least), num(greatest)}, "-2147483648 2147483647"},
		{[]impl.Tok{variable(0), variable(6), variable(99)}, "v0 v6 v99"}, {[]impl.Tok{call(0), call(5), call(99)}, "f0 f5 f99"},
		{[]impl.Tok{plain(3), plain(4), plain(5), plain(6), plain(7), plain(8), plain(9), plain(10)}, "+ - * / < = in rec"},
		{ones(12), "1 1 1 1 1 1 1 1 1 1 1 1"}, {sums(1), "+"},
		{slices.Repeat([]impl.Tok{num(least)}, 12), strings.TrimSuffix(strings.Repeat("-2147483648 ", 12), " ")},
	} {
		if text, ok := impl.ExprText(c.e); text != c.text || !ok {
			t.Errorf("ExprText(%v): %q, %v; want %q", c.e, text, ok, c.text)
		}
		if e, ok := impl.ReadExpr(c.text); !slices.Equal(e, c.e) || !ok {
			t.Errorf("ReadExpr(%q): %v, %v; want %v", c.text, e, ok, c.e)
		}
		checkReadExpr(t, c.text)
	}
}

func TestExprTextOfOtherTokens(t *testing.T) {
	for _, e := range [][]impl.Tok{
		nil, {}, ones(13), ones(1000), {plain(0)}, {plain(12)}, {plain(-1)}, {num(least - 1)}, {num(greatest + 1)},
		{variable(100)}, {variable(-1)}, {call(100)}, {call(-1)}, {call(math.MinInt)}, {variable(math.MaxInt)},
		{{Op: impl.ExAdd, N: 1}}, {{Op: impl.ExSame, N: -1}}, {{Op: impl.ExInput, N: 1}}, {{Op: impl.ExRecover, N: 1}},
		append(ones(11), variable(100)), append([]impl.Tok{plain(0)}, ones(1)...), {plain(math.MaxInt)}, {plain(math.MinInt)},
	} {
		if text, ok := impl.ExprText(e); text != "" || ok {
			t.Errorf("ExprText(%v): %q, %v", e, text, ok)
		}
	}
	// Every single token, against the form of its word.
	for _, n := range someInts() {
		for op := -2; op <= 14; op++ {
			tok := impl.Tok{Op: op, N: n}
			named := op == impl.ExVar || op == impl.ExCall
			want := op >= 3 && op <= 10 && n == 0 || op == impl.ExNum && within(n) || named && n >= 0 && n <= 99
			text, ok := impl.ExprText([]impl.Tok{tok})
			if back, _ := wantTok(text); ok != want || ok && back != tok || !ok && text != "" {
				t.Fatalf("ExprText of %v: %q, %v; want %v", tok, text, ok, want)
			}
		}
	}
}

func TestReadExprOfOtherTexts(t *testing.T) {
	for _, s := range []string{
		"", " ", "  ", " 1", "1 ", "1  2", "1 2 ", " 1 2", "\t1", "1\n", "1\t2", "1\x00", "1,2",
		"00", "01", "-0", "-01", "+1", "+0", "--1", "- 1 ", "1-", "0x1", "1_0", "1e3", "1.0", "١", "1\u00a02",
		"2147483648", "-2147483649", "4294967296", "9223372036854775807", "9223372036854775808", "-9223372036854775809",
		"v", "f", "v00", "v01", "v100", "v-1", "v-0", "v+1", "v 1", "V0", "F0", "v0v1", "vv0", "f00", "f09", "f100", "f-1", "f+0", "f",
		"v18446744073709551616", "f4294967296", "++", "+-", "**", "==", "<=", "in0", "IN", "i", "n", "inn", "re", "recc", "rec0", "x", "\xff", "+ +  +",
		strings.TrimSuffix(strings.Repeat("1 ", 13), " "), strings.Repeat("1 ", 12), strings.Repeat(" ", 200), strings.Repeat(" ", 201),
		strings.Repeat("1", 200), strings.Repeat("1", 201), strings.Repeat("0", 199) + "1", strings.Repeat("0", 200) + "1",
		"1" + strings.Repeat(" ", 199), "1" + strings.Repeat(" ", 200), "1 " + strings.Repeat("0", 198), strings.Repeat("1 ", 99) + "1 1",
		strings.Repeat("1 ", 100) + "1", strings.Repeat("v0 ", 100000),
	} {
		if e, ok := impl.ReadExpr(s); len(e) != 0 || ok {
			t.Errorf("ReadExpr(%.40q): %v, %v", s, e, ok)
		}
		checkReadExpr(t, s)
	}
	for _, s := range []string{"-", "- -", "-1 -", "10", "v10", "f10", "2147483647", "-2147483648", "in rec in", "1 2 3 4 5 6 7 8 9 10 11 12"} {
		if _, ok := impl.ReadExpr(s); !ok {
			t.Errorf("ReadExpr(%q) tells false", s)
		}
		checkReadExpr(t, s)
	}
}

func TestReadExprOfAllShortTexts(t *testing.T) {
	signs := " -+*/<=019vfinrec\x00\n\xff"
	var grow func(s string)
	grow = func(s string) {
		checkReadExpr(t, s)
		if len(s) == 4 {
			return
		}
		for i := range len(signs) {
			grow(s + signs[i:i+1])
		}
	}
	grow("")
	for a := range 256 {
		for b := range 256 {
			checkReadExpr(t, string([]byte{byte(a), byte(b)}))
		}
	}
}

// randomTokens are as ExprText has them; the pile does not matter.
func randomTokens(r *rand.Rand) []impl.Tok {
	e := make([]impl.Tok, 1+r.Intn(12))
	for i := range e {
		switch op := 1 + r.Intn(11); op {
		case impl.ExNum:
			e[i] = num(randomNumber(r))
		case impl.ExVar, impl.ExCall:
			e[i] = impl.Tok{Op: op, N: r.Intn(100)}
		default:
			e[i] = plain(op)
		}
	}
	return e
}

func TestReadingInvertsExprText(t *testing.T) {
	r := rand.New(rand.NewSource(6))
	for range 20000 {
		e := randomTokens(r)
		text, ok := impl.ExprText(e)
		if !ok {
			t.Fatalf("ExprText(%v) tells false", e)
		}
		if back, ok := impl.ReadExpr(text); !ok || !slices.Equal(back, e) {
			t.Fatalf("ReadExpr(%q): %v, %v; want %v", text, back, ok, e)
		}
		// One byte put in, taken out or changed.
		at := r.Intn(len(text))
		sign := " -+0129vfinrec"[r.Intn(14):][:1]
		checkReadExpr(t, text[:at]+sign+text[at:])
		checkReadExpr(t, text[:at]+text[at+1:])
		checkReadExpr(t, text[:at]+sign+text[at+1:])
		checkReadExpr(t, text+sign)
	}
}

// TestExpressionsOfAnyArguments puts each odd argument beside each other one.
func TestExpressionsOfAnyArguments(t *testing.T) {
	exprs := [][]impl.Tok{nil, {}, ones(1), ones(12), ones(13), ones(1000), append(ones(6), sums(5)...), sums(3)}
	for _, op := range someInts() {
		for _, n := range someInts() {
			tok := impl.Tok{Op: op, N: n}
			exprs = append(exprs, []impl.Tok{tok}, []impl.Tok{num(2), variable(1), tok})
		}
	}
	envs := [][]int{nil, {}, {0}, {3, 0}, {least, greatest, 0, 1, 2, 3}, make([]int, 7), make([]int, 1000), {math.MaxInt}, {0, math.MinInt}}
	for _, e := range exprs {
		for _, params := range someParams() {
			for _, vars := range []int{0, 1, 2, 6, 7, -1, math.MinInt, math.MaxInt} {
				checkExpr(t, e, vars, params)
			}
		}
		for _, env := range envs {
			checkEval(t, e, env)
		}
	}
}

// TestExpressionsLeaveTheirArguments holds what lies in and behind each list against what was there.
func TestExpressionsLeaveTheirArguments(t *testing.T) {
	e := []impl.Tok{variable(0), variable(1), plain(impl.ExMul), num(4), plain(impl.ExSub), num(9), plain(77)}
	params, env := []int{1, 2, 9, -9}, []int{6, 7, math.MaxInt, math.MinInt}
	wasE, wasParams, wasEnv := slices.Clone(e), slices.Clone(params), slices.Clone(env)
	if n, does, ok := impl.EvalPure(e[:5], env[:2]); n != 38 || !does || !ok {
		t.Error("EvalPure", n, does, ok)
	}
	if !impl.GoodExpr(e[:5], 2, params[:2]) || impl.GoodExpr(e, 2, params[:2]) || impl.GoodExpr(e[:5], 2, params) {
		t.Error("GoodExpr")
	}
	if n, ok := impl.NeedsOf(call(2), params[:2]); n != 0 || ok {
		t.Error("NeedsOf", n, ok)
	}
	if high, ok := impl.HighOf(e[:5], params[:2]); high != 2 || !ok {
		t.Error("HighOf", high, ok)
	}
	if text, ok := impl.ExprText(e[:5]); text != "v0 v1 * 4 -" || !ok {
		t.Error("ExprText", text, ok)
	}
	impl.EvalPure(e, env)
	impl.HighOf(e, params)
	impl.ExprText(e)
	if !slices.Equal(e, wasE) || !slices.Equal(params, wasParams) || !slices.Equal(env, wasEnv) {
		t.Error("changed:", e, params, env)
	}
}

func TestReadExprAnswersNewMemory(t *testing.T) {
	first, _ := impl.ReadExpr("v0 1 +")
	want := slices.Clone(first)
	second, _ := impl.ReadExpr("v0 1 +")
	first[0], first[2] = num(5), num(6)
	_ = append(first[:1], num(7))
	if third, _ := impl.ReadExpr("v0 1 +"); !slices.Equal(second, want) || !slices.Equal(third, want) {
		t.Errorf("shared: %v, %v", second, third)
	}
}
