package tests

import (
	"fmt"
	"math"
	"math/rand"
	"reflect"
	"slices"
	"strconv"
	"strings"
	"testing"

	"loop.example/g00745/impl"
)

// insWords has the words in the order of the Ops, from 1 on, each with what N is, what is taken and what is put.
var insWords = []struct {
	word  string
	n     string
	takes int
	puts  int
}{
	{"", "", 0, 0},
	{"num", "number", 0, 1}, {"var", "name", 0, 1}, {"set", "name", 1, 0}, {"reckon", "op", 2, 1}, {"input", "", 0, 1}, {"recover", "", 0, 1},
	{"call", "name", -1, 1}, {"print", "", 1, 0}, {"drop", "", 1, 0}, {"jump", "name", 0, 0}, {"unless", "name", 1, 0}, {"put", "name", 0, 0},
	{"panic", "", 1, 0}, {"exit", "", 0, 0}, {"result", "", 1, 0}, {"leave", "", 0, 0}, {"off", "name", 0, 0}, {"end", "", 0, 0},
}

func ins(op, n int) impl.Ins { return impl.Ins{Op: op, N: n} }

func intsIn(text string) []int {
	var l []int
	for _, word := range strings.Fields(text) {
		n, err := strconv.Atoi(word)
		if err != nil {
			panic(err)
		}
		l = append(l, n)
	}
	return l
}

func insIn(text string) impl.Ins {
	word, rest, _ := strings.Cut(strings.TrimSpace(text), " ")
	for op, w := range insWords {
		if w.word == word {
			return ins(op, append(intsIn(rest), 0)[0])
		}
	}
	panic("no instruction: " + text)
}

func rowsIn(text string) []impl.Row {
	var rows []impl.Row
	for _, part := range strings.Split(text, ",") {
		if l := intsIn(part); len(l) == 3 {
			rows = append(rows, impl.Row{From: l[0], To: l[1], Pad: l[2]})
		}
	}
	return rows
}

// code has Params, Vars and `:` where these are not 0 and 0, instructions with `;` between, `|`, rows with `,` between, `|`, sites.
func code(text string) impl.Code {
	var c impl.Code
	if head, rest, ok := strings.Cut(text, ":"); ok {
		c.Params, c.Vars, text = intsIn(head)[0], intsIn(head)[1], rest
	}
	parts := append(strings.Split(text, "|"), "", "")
	for _, word := range strings.Split(parts[0], ";") {
		c.Ins = append(c.Ins, insIn(word))
	}
	c.Rows, c.Sites = rowsIn(parts[1]), intsIn(parts[2])
	return c
}

func image(texts ...string) impl.Image {
	var x impl.Image
	for _, text := range texts {
		x.Codes = append(x.Codes, code(text))
	}
	return x
}

func imageOf(codes ...impl.Code) impl.Image { return impl.Image{Codes: codes} }

func TestImage(t *testing.T) {
	x := image("num -7; print; leave; off 0; end | 0 3 3, 3 4 4 | 1", "1 2: reckon 3; end")
	want := imageOf(
		impl.Code{
			Sites: numbers(1), Ins: []impl.Ins{ins(impl.InNum, -7), ins(impl.InPrint, 0), ins(impl.InLeave, 0), ins(impl.InOff, 0), ins(impl.InEnd, 0)},
			Rows: []impl.Row{{From: 0, To: 3, Pad: 3}, {From: 3, To: 4, Pad: 4}},
		},
		impl.Code{Params: 1, Vars: 2, Ins: []impl.Ins{ins(impl.InReckon, impl.ExAdd), ins(impl.InEnd, 0)}},
	)
	if !reflect.DeepEqual(x, want) {
		t.Errorf("%v, want %v", x, want)
	}
}

func wantIns(i impl.Ins) bool {
	if i.Op < 1 || i.Op >= len(insWords) {
		return false
	}
	switch insWords[i.Op].n {
	case "number":
		return i.N >= least && i.N <= greatest
	case "op":
		return i.N >= 3 && i.N <= 8
	case "name":
		return i.N >= 0 && i.N <= 1000000
	}
	return i.N == 0
}

func wantSized(x impl.Image) bool {
	if len(x.Codes) == 0 || len(x.Codes) > 5 {
		return false
	}
	for _, c := range x.Codes {
		if c.Params < 0 || c.Params > 2 || c.Vars < c.Params || c.Vars > 6 || len(c.Sites) > 4 || len(c.Ins) == 0 || len(c.Ins) > 300 || len(c.Rows) > 300 {
			return false
		}
		for _, i := range c.Ins {
			if !wantIns(i) {
				return false
			}
		}
	}
	return true
}

func wantNext(i impl.Ins, at int) []int {
	switch insWords[i.Op].word {
	case "panic", "exit", "leave", "end":
		return nil
	case "jump":
		return numbers(i.N)
	case "unless":
		l := numbers(i.N, at+1)
		slices.Sort(l)
		return slices.Compact(l)
	}
	return numbers(at + 1)
}

func wantTakes(x impl.Image, i impl.Ins) int {
	if insWords[i.Op].word == "call" {
		return x.Codes[i.N].Params
	}
	return insWords[i.Op].takes
}

// statesOf has all pairs of a place and a height that ways lead to, up to heights that are too great, and whether one of them lacks numbers.
func statesOf(x impl.Image, c impl.Code) (map[[2]int]bool, bool) {
	states := map[[2]int]bool{}
	var visit func(at, height int) bool
	visit = func(at, height int) bool {
		if states[[2]int{at, height}] {
			return false
		}
		states[[2]int{at, height}] = true
		left := height - wantTakes(x, c.Ins[at])
		if left < 0 {
			return true
		}
		lacks := false
		for _, to := range wantNext(c.Ins[at], at) {
			if next := left + insWords[c.Ins[at].Op].puts; next <= 50 {
				lacks = visit(to, next) || lacks
			}
		}
		return lacks
	}
	lacks := visit(0, 0)
	for _, r := range c.Rows {
		lacks = visit(r.Pad, 0) || lacks
	}
	return states, lacks
}

// wantHeights has -1 where no state is, and tells whether there are no two of one place, none above 40 and none that lacks numbers.
func wantHeights(x impl.Image, c impl.Code) ([]int, bool) {
	states, lacks := statesOf(x, c)
	heights := slices.Repeat([]int{-1}, len(c.Ins))
	good := !lacks
	for s := range states {
		good = good && heights[s[0]] == -1 && s[1] <= 40
		heights[s[0]] = s[1]
	}
	return heights, good
}

func wantRows(rows []impl.Row, many int) bool {
	for k, r := range rows {
		if r.From < 0 || r.From >= r.To || r.To > many || r.Pad < 0 || r.Pad >= many || k > 0 && rows[k-1].To > r.From {
			return false
		}
	}
	return true
}

// named tells whether there is what the instruction names.
func named(x impl.Image, c impl.Code, i impl.Ins) bool {
	switch insWords[i.Op].word {
	case "var", "set":
		return i.N < c.Vars
	case "put", "off":
		return i.N < len(c.Sites)
	case "call":
		return i.N < len(x.Codes)
	}
	return true
}

func anyIns(c impl.Code, asks func(at int, i impl.Ins) bool) bool {
	for at, i := range c.Ins {
		if asks(at, i) {
			return true
		}
	}
	return false
}

func isOneOf(i impl.Ins, words string) bool {
	return slices.Contains(strings.Fields(words), insWords[i.Op].word)
}

// padsOf has for each place the Pad of its row, -1 where there is none.
func padsOf(c impl.Code) []int {
	pads := slices.Repeat([]int{-1}, len(c.Ins))
	for _, r := range c.Rows {
		for at := r.From; at < r.To; at++ {
			pads[at] = r.Pad
		}
	}
	return pads
}

func wantFault(x impl.Image, c impl.Code) int {
	if anyIns(c, func(at int, i impl.Ins) bool { return !named(x, c, i) }) {
		return 1
	}
	if slices.ContainsFunc(c.Sites, func(fn int) bool { return fn < 0 || fn >= len(x.Codes) || x.Codes[fn].Params > 0 }) {
		return 2
	}
	if anyIns(c, func(at int, i impl.Ins) bool { return slices.Max(append(wantNext(i, at), 0)) >= len(c.Ins) }) {
		return 3
	}
	if !wantRows(c.Rows, len(c.Ins)) {
		return 4
	}
	heights, good := wantHeights(x, c)
	if !good {
		return 5
	}
	pads := padsOf(c)
	if anyIns(c, func(at int, i impl.Ins) bool {
		return heights[at] >= 0 && isOneOf(i, "reckon call panic exit leave off") && pads[at] <= at
	}) {
		return 6
	}
	if anyIns(c, func(at int, i impl.Ins) bool { return heights[at] > 0 && isOneOf(i, "end leave exit off") }) {
		return 7
	}
	return 0
}

// checkCode holds what is told of a code against what is wanted; the fault, or -1 where there is no answer.
func checkCode(t *testing.T, x impl.Image, fn int) int {
	t.Helper()
	want, wantOk := 0, wantSized(x) && fn >= 0 && fn < len(x.Codes)
	var wantList []int
	if wantOk {
		want = wantFault(x, x.Codes[fn])
		if want == 0 {
			wantList, _ = wantHeights(x, x.Codes[fn])
		}
	}
	if n, ok := impl.GoodCode(x, fn); n != want || ok != wantOk {
		t.Errorf("GoodCode(%v, %d) = %d, %t, want %d, %t", x, fn, n, ok, want, wantOk)
	}
	if l, ok := impl.HeightsOf(x, fn); !slices.Equal(l, wantList) || ok != (wantOk && want == 0) {
		t.Errorf("HeightsOf(%v, %d) = %v, %t, want %v", x, fn, l, ok, wantList)
	}
	if !wantOk {
		return -1
	}
	return want
}

// checkImage tells whether the image is good.
func checkImage(t *testing.T, x impl.Image) bool {
	t.Helper()
	want := wantSized(x) && x.Codes[0].Params == 0
	for fn := range x.Codes {
		want = checkCode(t, x, fn) == 0 && want
	}
	checkCode(t, x, -1)
	checkCode(t, x, len(x.Codes))
	if ok := impl.GoodImage(x); ok != want {
		t.Errorf("GoodImage(%v) = %t", x, ok)
	}
	return want
}

// checkIns holds what is told of an instruction alone, and with an image, against what is wanted.
func checkIns(t *testing.T, x impl.Image, i impl.Ins, at int) {
	t.Helper()
	good := wantIns(i)
	text, takes, puts := "", 0, 0
	var next []int
	if good {
		text = insWords[i.Op].word
		if insWords[i.Op].n != "" {
			text = fmt.Sprint(text, " ", i.N)
		}
	}
	if s, ok := impl.InsText(i); s != text || ok != good {
		t.Errorf("InsText(%v) = %q, %t, want %q", i, s, ok, text)
	}
	goes := good && at >= 0 && at <= 300
	if goes {
		next = wantNext(i, at)
	}
	if l, ok := impl.NextOf(i, at); !slices.Equal(l, next) || ok != goes {
		t.Errorf("NextOf(%v, %d) = %v, %t, want %v", i, at, l, ok, next)
	}
	fits := good && wantSized(x) && (i.Op != impl.InCall || i.N < len(x.Codes))
	if fits {
		takes, puts = wantTakes(x, i), insWords[i.Op].puts
	}
	if a, b, ok := impl.TakesPuts(x, i); a != takes || b != puts || ok != fits {
		t.Errorf("TakesPuts(%v, %v) = %d, %d, %t, want %d, %d", x, i, a, b, ok, takes, puts)
	}
}

func TestInstructionsAreAsTold(t *testing.T) {
	ops := numbers(
		impl.InNum, impl.InVar, impl.InSet, impl.InReckon, impl.InInput, impl.InRecover, impl.InCall, impl.InPrint, impl.InDrop,
		impl.InJump, impl.InUnless, impl.InPut, impl.InPanic, impl.InExit, impl.InResult, impl.InLeave, impl.InOff, impl.InEnd)
	for i, op := range ops {
		if op != i+1 {
			t.Errorf("Op number %d is %d", i+1, op)
		}
	}
	if impl.MaxIns != 300 {
		t.Error("MaxIns is", impl.MaxIns)
	}
}

func TestInsText(t *testing.T) {
	for _, c := range []struct {
		i    impl.Ins
		text string
	}{
		{ins(impl.InNum, 0), "num 0"}, {ins(impl.InNum, -7), "num -7"}, {ins(impl.InNum, least), "num -2147483648"}, {ins(impl.InNum, greatest), "num 2147483647"},
		{ins(impl.InVar, 0), "var 0"}, {ins(impl.InVar, 1000000), "var 1000000"}, {ins(impl.InSet, 5), "set 5"}, {ins(impl.InSet, 1000000), "set 1000000"},
		{ins(impl.InReckon, impl.ExAdd), "reckon 3"}, {ins(impl.InReckon, impl.ExSame), "reckon 8"}, {ins(impl.InInput, 0), "input"}, {ins(impl.InRecover, 0), "recover"},
		{ins(impl.InCall, 0), "call 0"}, {ins(impl.InCall, 1000000), "call 1000000"}, {ins(impl.InPrint, 0), "print"}, {ins(impl.InDrop, 0), "drop"},
		{ins(impl.InJump, 12), "jump 12"}, {ins(impl.InJump, 1000000), "jump 1000000"}, {ins(impl.InUnless, 0), "unless 0"}, {ins(impl.InUnless, 1000000), "unless 1000000"},
		{ins(impl.InPut, 3), "put 3"}, {ins(impl.InPut, 1000000), "put 1000000"}, {ins(impl.InPanic, 0), "panic"}, {ins(impl.InExit, 0), "exit"},
		{ins(impl.InResult, 0), "result"}, {ins(impl.InLeave, 0), "leave"}, {ins(impl.InOff, 0), "off 0"}, {ins(impl.InOff, 1000000), "off 1000000"}, {ins(impl.InEnd, 0), "end"},
	} {
		if s, ok := impl.InsText(c.i); s != c.text || !ok {
			t.Errorf("InsText(%v) = %q, %t, want %q", c.i, s, ok, c.text)
		}
	}
}

// boundsOfN has for each Op the least and the greatest N.
func boundsOfN() map[int][2]int {
	bounds := map[int][2]int{impl.InNum: {least, greatest}, impl.InReckon: {impl.ExAdd, impl.ExSame}}
	for _, op := range numbers(impl.InVar, impl.InSet, impl.InCall, impl.InJump, impl.InUnless, impl.InPut, impl.InOff) {
		bounds[op] = [2]int{0, 1000000}
	}
	for op := impl.InNum; op <= impl.InEnd; op++ {
		if _, ok := bounds[op]; !ok {
			bounds[op] = [2]int{0, 0}
		}
	}
	return bounds
}

// expectIns tells all three functions of instructions, and an image that has it, whether it is one.
func expectIns(t *testing.T, i impl.Ins, want bool) {
	t.Helper()
	x := image("end")
	x.Codes[0].Ins = append(x.Codes[0].Ins, i)
	_, textOk := impl.InsText(i)
	_, nextOk := impl.NextOf(i, 0)
	_, codeOk := impl.GoodCode(x, 0)
	_, _, takesOk := impl.TakesPuts(image("end"), i)
	if i.Op == impl.InCall && i.N > 0 {
		takesOk = want
	}
	if textOk != want || nextOk != want || codeOk != want || takesOk != want {
		t.Errorf("%v: %t, %t, %t, %t, want %t", i, textOk, nextOk, codeOk, takesOk, want)
	}
	checkImage(t, x)
	for _, at := range numbers(-1, 0, 7, impl.MaxIns, impl.MaxIns+1) {
		checkIns(t, image("end"), i, at)
	}
}

func TestBoundsOfInstructions(t *testing.T) {
	for op, b := range boundsOfN() {
		expectIns(t, ins(op, b[0]), true)
		expectIns(t, ins(op, b[1]), true)
		expectIns(t, ins(op, b[0]-1), false)
		expectIns(t, ins(op, b[1]+1), false)
		expectIns(t, ins(op, math.MinInt), false)
		expectIns(t, ins(op, math.MaxInt), false)
	}
	for _, op := range numbers(math.MinInt, -1, impl.InNum-1, impl.InEnd+1, 100, math.MaxInt) {
		for _, n := range someInts() {
			expectIns(t, ins(op, n), false)
		}
	}
}

func TestNextOf(t *testing.T) {
	for _, c := range []struct {
		i    string
		at   int
		next []int
	}{
		{"jump 0", 0, numbers(0)}, {"jump 5", 4, numbers(5)}, {"jump 1000000", 3, numbers(1000000)}, {"jump 2", 300, numbers(2)},
		{"unless 0", 0, numbers(0, 1)}, {"unless 1", 0, numbers(1)}, {"unless 2", 0, numbers(1, 2)}, {"unless 1000000", 0, numbers(1, 1000000)},
		{"unless 2", 4, numbers(2, 5)}, {"unless 4", 4, numbers(4, 5)}, {"unless 5", 4, numbers(5)}, {"unless 6", 4, numbers(5, 6)}, {"unless 0", 4, numbers(0, 5)},
		{"unless 300", 300, numbers(300, 301)}, {"unless 301", 300, numbers(301)}, {"unless 302", 300, numbers(301, 302)}, {"unless 0", 300, numbers(0, 301)},
		{"panic", 0, nil}, {"exit", 1, nil}, {"leave", 300, nil}, {"end", 2, nil},
		{"num 9", 0, numbers(1)}, {"var 9", 1, numbers(2)}, {"set 9", 2, numbers(3)}, {"reckon 4", 3, numbers(4)}, {"input", 4, numbers(5)}, {"recover", 5, numbers(6)},
		{"call 9", 6, numbers(7)}, {"print", 7, numbers(8)}, {"drop", 8, numbers(9)}, {"put 9", 9, numbers(10)}, {"result", 299, numbers(300)}, {"off 9", 300, numbers(301)},
	} {
		if l, ok := impl.NextOf(insIn(c.i), c.at); !slices.Equal(l, c.next) || !ok || !rising(l) {
			t.Errorf("NextOf(%s, %d) = %v, %t, want %v", c.i, c.at, l, ok, c.next)
		}
	}
	for op := impl.InNum; op <= impl.InEnd; op++ {
		for _, at := range someInts() {
			checkIns(t, image("end"), ins(op, boundsOfN()[op][0]), at)
			checkIns(t, image("end"), ins(op, at), at-1)
		}
	}
}

func TestTakesPuts(t *testing.T) {
	// Of the codes none is good: an instruction asks for no more than a sized image.
	x := image("drop", "1 1: var 5; jump 9", "2 6: leave | 5 5 -1 | 9")
	for text, want := range map[string][2]int{
		"num 4": {0, 1}, "var 5": {0, 1}, "set 1000000": {1, 0}, "reckon 3": {2, 1}, "reckon 6": {2, 1}, "reckon 8": {2, 1}, "input": {0, 1}, "recover": {0, 1},
		"call 0": {0, 1}, "call 1": {1, 1}, "call 2": {2, 1}, "print": {1, 0}, "drop": {1, 0}, "jump 0": {0, 0}, "unless 0": {1, 0}, "put 5": {0, 0},
		"panic": {1, 0}, "exit": {0, 0}, "result": {1, 0}, "leave": {0, 0}, "off 5": {0, 0}, "end": {0, 0},
	} {
		if a, b, ok := impl.TakesPuts(x, insIn(text)); a != want[0] || b != want[1] || !ok {
			t.Errorf("TakesPuts(%s) = %d, %d, %t, want %v", text, a, b, ok, want)
		}
	}
	for _, i := range []impl.Ins{ins(impl.InCall, 3), ins(impl.InCall, 1000000), ins(impl.InCall, -1), ins(impl.InCall, 1000001), ins(0, 0), ins(19, 0), ins(impl.InDrop, 1)} {
		if a, b, ok := impl.TakesPuts(x, i); a != 0 || b != 0 || ok {
			t.Errorf("TakesPuts(%v) = %d, %d, %t", i, a, b, ok)
		}
	}
	for n, y := range notSized() {
		for op := impl.InNum; op <= impl.InEnd; op++ {
			if a, b, ok := impl.TakesPuts(y, ins(op, boundsOfN()[op][0])); a != 0 || b != 0 || ok {
				t.Errorf("TakesPuts(image %d that is not sized, %d) = %d, %d, %t", n, op, a, b, ok)
			}
		}
	}
}

func long(many int) impl.Code {
	c := impl.Code{Ins: slices.Repeat([]impl.Ins{ins(impl.InInput, 0), ins(impl.InDrop, 0)}, many/2+1)[:max(many-1, 0)]}
	if many > 0 && many%2 == 0 {
		c.Ins[many-2] = ins(impl.InJump, many-1)
	}
	if many > 0 {
		c.Ins = append(c.Ins, ins(impl.InEnd, 0))
	}
	return c
}

// manyRows has one row for each instruction as long as there are any, and beyond that rows of nothing.
func manyRows(many int) impl.Code {
	c := impl.Code{}
	for at := range impl.MaxIns - 1 {
		c.Ins = append(c.Ins, ins(impl.InJump, at+1))
	}
	c.Ins = append(c.Ins, ins(impl.InEnd, 0))
	for at := range many {
		c.Rows = append(c.Rows, impl.Row{From: at, To: at + 1, Pad: min(at, impl.MaxIns-1)})
	}
	return c
}

func sizes(params, vars int) impl.Code {
	return impl.Code{Params: params, Vars: vars, Ins: []impl.Ins{ins(impl.InEnd, 0)}}
}

func sites(many int) impl.Code {
	return impl.Code{Sites: make([]int, many), Ins: []impl.Ins{ins(impl.InEnd, 0)}}
}

// notSized has images that lack one thing each; of some of them it is not in the first code.
func notSized() []impl.Image {
	good := code("end")
	codes := []impl.Code{
		sizes(-1, 0), sizes(-1, -1), sizes(3, 3), sizes(3, 6), sizes(math.MaxInt, 6), sizes(math.MinInt, 6), sizes(0, -1), sizes(1, 0), sizes(2, 1), sizes(2, 0), sizes(0, 7), sizes(2, 7),
		sizes(0, math.MaxInt), sizes(0, math.MinInt), sites(impl.MaxSites + 1), long(0), long(impl.MaxIns + 1), manyRows(impl.MaxIns + 1),
		{Ins: []impl.Ins{{}}}, {Ins: []impl.Ins{ins(impl.InEnd, 0), ins(impl.InEnd+1, 0)}}, {Ins: []impl.Ins{ins(impl.InEnd, 1)}},
		{Ins: []impl.Ins{ins(impl.InEnd, 0), ins(impl.InReckon, 0)}},
		{Ins: []impl.Ins{ins(impl.InEnd, 0), ins(impl.InJump, -1), ins(impl.InEnd, 0)}}, {Ins: append(long(impl.MaxIns-1).Ins, ins(impl.InNum, greatest+1))},
	}
	images := []impl.Image{{}, imageOf(slices.Repeat([]impl.Code{good}, impl.MaxFuncs+1)...)}
	for _, c := range codes {
		images = append(images, imageOf(c), imageOf(good, c), imageOf(c, good), imageOf(good, good, good, good, c))
	}
	return images
}

func TestImagesThatAreNotSized(t *testing.T) {
	for n, x := range notSized() {
		if wantSized(x) {
			t.Errorf("image %d is sized: %v", n, x)
		}
		if impl.GoodImage(x) {
			t.Errorf("GoodImage of image %d", n)
		}
		for fn := -1; fn <= len(x.Codes); fn++ {
			fault, ok := impl.GoodCode(x, fn)
			l, told := impl.HeightsOf(x, fn)
			if fault != 0 || ok || len(l) != 0 || told {
				t.Errorf("code %d of image %d: %d, %t, %v, %t", fn, n, fault, ok, l, told)
			}
		}
	}
}

func TestHowManyAnImageMayHave(t *testing.T) {
	var images []impl.Image
	for many := range impl.MaxFuncs {
		images = append(images, imageOf(slices.Repeat([]impl.Code{code("end")}, many+1)...))
	}
	for params := range 3 {
		for vars := params; vars <= impl.MaxVars; vars++ {
			images = append(images, imageOf(code("end"), sizes(params, vars)))
		}
	}
	for many := range impl.MaxSites + 1 {
		images = append(images, imageOf(sites(many)))
	}
	for _, many := range numbers(1, 2, 3, impl.MaxIns-1, impl.MaxIns) {
		images = append(images, imageOf(long(many)))
	}
	for _, many := range numbers(0, 1, impl.MaxIns-1, impl.MaxIns) {
		images = append(images, imageOf(manyRows(many)))
	}
	full := imageOf(slices.Repeat([]impl.Code{manyRows(impl.MaxIns)}, impl.MaxFuncs)...)
	images = append(images, full)
	for _, x := range images {
		if !checkImage(t, x) {
			t.Errorf("not good: %v", x)
		}
	}
	if l, _ := impl.HeightsOf(imageOf(long(impl.MaxIns)), 0); len(l) != impl.MaxIns || l[1] != 1 || l[impl.MaxIns-1] != 0 {
		t.Errorf("heights of the longest code: %v", l)
	}
}

func TestNumbersOfCodes(t *testing.T) {
	x := image("end", "1 1: drop", "num 1; drop; end")
	for _, fn := range append(someInts(), 0, 1, 2, 3, -1) {
		fault, ok := impl.GoodCode(x, fn)
		l, told := impl.HeightsOf(x, fn)
		wantFault, wantList := 0, []int(nil)
		switch fn {
		case 0:
			wantList = numbers(0)
		case 1:
			wantFault = 3
		case 2:
			wantList = numbers(0, 1, 0)
		}
		if fault != wantFault || ok != (fn >= 0 && fn < 3) || !slices.Equal(l, wantList) || told != (fn == 0 || fn == 2) {
			t.Errorf("code %d: %d, %t, %v, %t", fn, fault, ok, l, told)
		}
	}
}

func TestGoodImage(t *testing.T) {
	for n, c := range []struct {
		x    impl.Image
		want bool
	}{
		{image("end"), true},
		{image("1 1: end"), false}, {image("2 2: end", "end"), false}, {image("0 1: end", "1 1: end", "2 2: end"), true},
		{image("end", "drop; end"), false}, {image("drop; end", "end"), false}, {image("end", "end", "end", "end", "leave"), false},
		{image("end", "end", "end", "end", "1 1: var 0; print; end"), true},
		// What a code may name depends on the others.
		{image("call 1; drop; end | 0 1 2", "end"), true}, {image("call 1; drop; end | 0 1 2"), false}, {image("call 1; drop; end | 0 1 2", "1 1: end"), false},
		{image("num 4; call 1; drop; end | 0 2 3", "1 1: end"), true}, {image("end | | 1", "1 1: end"), false}, {image("end | | 1", "0 1: end"), true},
		{image("call 0; drop; end | 0 1 2 | 0 0"), true},
	} {
		if impl.GoodImage(c.x) != c.want || checkImage(t, c.x) != c.want {
			t.Errorf("image %d is to be %t", n, c.want)
		}
	}
	// Whether the first code has Params is asked by GoodImage alone.
	x := image("1 1: var 0; print; end")
	if fault, ok := impl.GoodCode(x, 0); fault != 0 || !ok {
		t.Errorf("first code with Params: %d, %t", fault, ok)
	}
	if l, ok := impl.HeightsOf(x, 0); !slices.Equal(l, numbers(0, 1, 0)) || !ok {
		t.Errorf("first code with Params: %v, %t", l, ok)
	}
}

// codeCase is of the first code; the others are some to name. Heights are told just where there is no fault.
type codeCase struct {
	text    string
	fault   int
	heights []int
}

func checkCodeCases(t *testing.T, cases []codeCase) {
	t.Helper()
	for _, c := range cases {
		x := image(c.text, "0 1: end", "1 1: end", "2 2: end")
		fault, ok := impl.GoodCode(x, 0)
		l, told := impl.HeightsOf(x, 0)
		if fault != c.fault || !ok || !slices.Equal(l, c.heights) || told != (c.fault == 0) {
			t.Errorf("%s: %d, %t, %v, %t, want %d, %v", c.text, fault, ok, l, told, c.fault, c.heights)
		}
		checkImage(t, x)
	}
}

func TestNamesOfInstructions(t *testing.T) {
	checkCodeCases(t, []codeCase{
		{"0 1: var 0; drop; end", 0, numbers(0, 1, 0)}, {"0 1: var 1; drop; end", 1, nil}, {"var 0; drop; end", 1, nil},
		{"0 6: var 5; set 5; end", 0, numbers(0, 1, 0)}, {"0 6: var 6; drop; end", 1, nil}, {"0 6: num 1; set 6; end", 1, nil}, {"0 6: num 1; set 1000000; end", 1, nil},
		{"0 2: num 1; set 1; end", 0, numbers(0, 1, 0)}, {"0 2: num 1; set 2; end", 1, nil}, {"1 2: var 1; set 0; end", 0, numbers(0, 1, 0)},
		{"put 0; end | | 1", 0, numbers(0, 0)}, {"put 1; end | | 1", 1, nil}, {"put 0; end", 1, nil}, {"put 3; end | | 0 1 0 1", 0, numbers(0, 0)}, {"put 4; end | | 0 1 0 1", 1, nil},
		{"off 0; end | 0 1 1 | 1", 0, numbers(0, 0)}, {"off 1; end | 0 1 1 | 1", 1, nil}, {"off 0; end | 0 1 1", 1, nil}, {"off 1000000; end | 0 1 1 | 1", 1, nil},
		{"call 0; drop; end | 0 1 1", 5, nil}, {"call 0; drop; end | 0 1 2", 0, numbers(0, 1, 0)}, {"call 4; drop; end | 0 1 2", 1, nil}, {"call 1000000; drop; end | 0 1 2", 1, nil},
		{"num 1; num 2; call 3; drop; end | 2 3 4", 0, numbers(0, 1, 2, 1, 0)},
		// Nothing else is named by N.
		{"num 1000000; drop; end", 0, numbers(0, 1, 0)}, {"num 1; num 2; reckon 8; drop; end | 0 4 4", 0, numbers(0, 1, 2, 1, 0)},
		// At the last one only, and where no way leads.
		{"end; var 0", 1, nil}, {"end; set 0", 1, nil}, {"end; put 0", 1, nil}, {"end; off 0", 1, nil}, {"end; call 4", 1, nil}, {"0 1: end; var 0; end", 0, numbers(0, -1, -1)},
		{"end; var 0; end", 1, nil}, {"end; set 0; end", 1, nil}, {"end; put 0; end", 1, nil}, {"end; off 0; end", 1, nil}, {"end; call 4; end", 1, nil}, {"end; call 3; end", 0, numbers(0, -1, -1)},
	})
}

func TestSitesOfCodes(t *testing.T) {
	checkCodeCases(t, []codeCase{
		{"end | | 0", 0, numbers(0)}, {"end | | 1 0 1 0", 0, numbers(0)}, {"end | | 2", 2, nil}, {"end | | 3", 2, nil}, {"end | | 4", 2, nil}, {"end | | -1", 2, nil},
		{"end | | 0 0 0 2", 2, nil}, {"end | | 0 0 0 4", 2, nil}, {"end | | -1 0 0 0", 2, nil}, {"end | | 9223372036854775807", 2, nil}, {"end | | -9223372036854775808", 2, nil},
		// A code with Params may not even put itself off.
		{"1 1: end | | 0", 2, nil}, {"1 1: end | | 1", 0, numbers(0)},
	})
}

func TestWhereInstructionsGoOn(t *testing.T) {
	checkCodeCases(t, []codeCase{
		{"num 1", 3, nil}, {"put 0 | | 0", 3, nil}, {"end; drop", 3, nil}, {"jump 0", 0, numbers(0)}, {"jump 1", 3, nil}, {"jump 1; end", 0, numbers(0, 0)}, {"jump 2; end", 3, nil}, {"jump 1000000; end", 3, nil},
		{"input; unless 0; end", 0, numbers(0, 1, 0)}, {"input; unless 2; end", 0, numbers(0, 1, 0)}, {"input; unless 3; end", 3, nil}, {"input; unless 1000000; end", 3, nil},
		{"input; unless 3; end; end", 0, numbers(0, 1, 0, 0)}, {"input; unless 0", 3, nil}, {"num 1; panic | 0 1 0", 6, nil}, {"num 1; drop; jump 0", 0, numbers(0, 1, 0)},
		// Where no way leads, too.
		{"end; jump 3; end", 3, nil}, {"end; jump 2; end", 0, numbers(0, -1, -1)}, {"end; unless 3; end", 3, nil}, {"end; input", 3, nil}, {"end; off 0 | | 0", 3, nil}, {"end; leave", 0, numbers(0, -1)},
		{"end; unless 0", 3, nil}, {"end; panic", 0, numbers(0, -1)}, {"end; exit", 0, numbers(0, -1)}, {"end; end", 0, numbers(0, -1)},
	})
}

func TestRowsOfCodes(t *testing.T) {
	checkCodeCases(t, []codeCase{
		{"end; end; end | 0 1 0", 0, numbers(0, -1, -1)}, {"end; end; end | 0 3 2", 0, numbers(0, -1, 0)}, {"end; end; end | 2 3 1", 0, numbers(0, 0, -1)},
		// That touch, with a gap, that overlap, that are the same, that go back.
		{"end; end; end | 0 1 1, 1 2 2, 2 3 2", 0, numbers(0, 0, 0)}, {"end; end; end | 0 1 1, 2 3 2", 0, numbers(0, 0, 0)}, {"end; end; end | 0 2 1, 1 3 2", 4, nil}, {"end; end; end | 0 1 1, 0 1 1", 4, nil},
		{"end; end; end | 1 2 1, 0 1 1", 4, nil}, {"end; end; end | 0 1 1, 1 3 2, 2 3 2", 4, nil}, {"end; end; end | 0 3 1, 1 2 1", 4, nil},
		// That are empty, or turned round.
		{"end; end; end | 0 0 0", 4, nil}, {"end; end; end | 1 1 1", 4, nil}, {"end; end; end | 3 3 1", 4, nil}, {"end; end; end | 2 1 1", 4, nil}, {"end; end; end | 0 1 1, 1 1 1, 1 2 2", 4, nil},
		// That end at and behind the last one, or begin ahead of the first one.
		{"end; end; end | 2 3 2", 0, numbers(0, -1, 0)}, {"end; end; end | 2 4 2", 4, nil}, {"end; end; end | 0 4 2", 4, nil}, {"end; end; end | 3 4 2", 4, nil}, {"end; end; end | 0 9223372036854775807 2", 4, nil},
		{"end; end; end | -1 1 2", 4, nil}, {"end; end; end | -9223372036854775808 1 2", 4, nil}, {"end; end; end | -2 -1 2", 4, nil}, {"end; end; end | -1 0 2", 4, nil}, {"end; end; end | -1 0 2, 0 1 2", 4, nil},
		// Pads.
		{"end; end; end | 0 1 3", 4, nil}, {"end; end; end | 0 1 -1", 4, nil}, {"end; end; end | 0 1 1, 1 2 3", 4, nil}, {"end; end; end | 0 1 9223372036854775807", 4, nil}, {"end; end; end | 0 1 -9223372036854775808", 4, nil},
		// A row of places that no way leads to.
		{"end; end; end | 1 1 1", 4, nil}, {"end; end; end | 1 3 3", 4, nil}, {"end; drop; end | 1 2 2", 0, numbers(0, -1, 0)}, {"end; drop; num 3; drop; end | 1 2 2", 0, numbers(0, -1, 0, 1, 0)},
	})
}

func TestHeightsOfCodes(t *testing.T) {
	checkCodeCases(t, []codeCase{
		{"num 1; num 2; num 3; reckon 3; reckon 5; print; end | 0 6 6", 0, numbers(0, 1, 2, 3, 2, 1, 0)},
		{"input; recover; drop; result; end", 0, numbers(0, 1, 2, 1, 0)},
		{"call 1; call 2; num 5; call 3; result; end | 0 5 5", 0, numbers(0, 1, 1, 2, 1, 0)},
		// More is taken off than there is.
		{"drop; end", 5, nil}, {"print; end", 5, nil}, {"result; end", 5, nil}, {"0 1: set 0; end", 5, nil}, {"unless 1; end", 5, nil}, {"unless 0; end", 5, nil}, {"panic; end | 0 1 1", 5, nil},
		{"reckon 3; drop; end | 0 1 2", 5, nil}, {"num 1; reckon 3; drop; end | 0 2 3", 5, nil}, {"num 1; num 1; reckon 3; drop; end | 0 3 4", 0, numbers(0, 1, 2, 1, 0)},
		{"call 2; drop; end | 0 1 2", 5, nil}, {"num 1; call 3; drop; end | 0 2 3", 5, nil}, {"num 1; num 1; call 3; drop; end | 0 3 4", 0, numbers(0, 1, 2, 1, 0)},
		{"num 1; drop; drop; end", 5, nil}, {"end; drop; end | 0 1 1", 5, nil}, {"end; drop; end", 0, numbers(0, -1, -1)},
		// The last one only.
		{"input; unless 3; end; panic | 0 1 2", 5, nil}, {"input; unless 4; end; end; panic | 0 1 2", 5, nil}, {"jump 1; panic", 5, nil},
		// A place that two ways lead to.
		{"input; unless 4; num 1; jump 5; num 2; print; end", 0, numbers(0, 1, 0, 1, 0, 1, 0)}, {"input; unless 4; num 1; jump 4; end", 5, nil}, {"input; unless 3; num 1; end", 5, nil},
		{"input; unless 2; num 1; drop; end", 0, numbers(0, 1, 0, 1, 0)}, {"num 5; input; unless 4; drop; end", 5, nil}, {"num 5; input; unless 5; drop; jump 6; drop; end", 0, numbers(0, 1, 2, 1, 0, 1, 0)},
		// Ways that go back.
		{"input; unless 4; put 0; jump 0; end | | 0", 0, numbers(0, 1, 0, 0, 0)}, {"input; jump 0", 5, nil}, {"input; drop; jump 0", 0, numbers(0, 1, 0)}, {"input; input; unless 1; drop; end", 0, numbers(0, 1, 2, 1, 0)},
		{"input; input; unless 0; drop; end", 5, nil}, {"num 1; drop; jump 1", 5, nil}, {"num 1; jump 1", 0, numbers(0, 1)}, {"jump 2; end; jump 1", 0, numbers(0, 0, 0)}, {"put 0; jump 0 | | 0", 0, numbers(0, 0)},
		{"input; drop; input; unless 0; end", 0, numbers(0, 1, 0, 1, 0)}, {"num 1; num 2; drop; jump 1", 0, numbers(0, 1, 2, 1)}, {"num 1; num 2; drop; drop; jump 1", 5, nil},
		// Where no way leads.
		{"end; num 1; drop; end", 0, numbers(0, -1, -1, -1)}, {"jump 3; num 1; drop; end", 0, numbers(0, -1, -1, 0)}, {"jump 3; num 1; drop; end | 0 1 1", 0, numbers(0, 0, 1, 0)},
		{"end; jump 3; end; jump 2", 0, numbers(0, -1, -1, -1)}, {"end; reckon 3; drop; drop; drop; end", 0, numbers(0, -1, -1, -1, -1, -1)}, {"end; num 1; jump 1", 0, numbers(0, -1, -1)},
	})
}

func TestHeightsOfPads(t *testing.T) {
	checkCodeCases(t, []codeCase{
		// The height 0 at a Pad, though no way leads into its row.
		{"end; num 1; drop; end; num 2; print; end | 1 3 4", 0, numbers(0, -1, -1, -1, 0, 1, 0)}, {"end; end; drop; end | 1 2 2", 5, nil}, {"end; end; end; leave | 1 2 3", 6, nil},
		{"end; put 0; end | 2 3 1 | 0", 0, numbers(0, 0, 0)}, {"end; num 1; end | 1 2 1", 7, nil},
		// A Pad that a way with another height leads to.
		{"num 1; drop; end | 0 1 1", 5, nil}, {"num 1; drop; end | 0 1 2", 0, numbers(0, 1, 0)}, {"num 1; drop; end | 0 2 2", 0, numbers(0, 1, 0)}, {"num 1; num 2; drop; drop; end | 0 1 3", 5, nil},
		{"num 1; print; end | 0 1 0", 0, numbers(0, 1, 0)}, {"num 1; jump 0 | 0 1 0", 5, nil}, {"end; input; end | 0 1 1, 1 2 2", 5, nil},
		// The same Pad of many rows.
		{"num 1; drop; end | 0 1 2, 1 2 2, 2 3 2", 0, numbers(0, 1, 0)}, {"num 1; drop; end | 0 1 2, 1 2 2, 2 3 1", 5, nil},
	})
}

// pile has so many numbers put, ahead of what the text says, and so many taken off again behind it.
func pile(puts int, text string, drops int) string {
	return strings.Repeat("num 1; ", puts) + text + strings.Repeat("drop; ", drops) + "end"
}

func TestGreatestHeight(t *testing.T) {
	heights := append(upTo(41), 39)
	for n := 38; n >= 0; n-- {
		heights = append(heights, n)
	}
	rows := func(text string) string {
		last := strings.Count(text, ";")
		return fmt.Sprintf("%s | 0 40 %d, 40 41 %d", text, last, last)
	}
	checkCodeCases(t, []codeCase{
		{pile(40, "", 40), 0, heights}, {pile(41, "", 41), 5, nil}, {pile(39, "input; ", 40), 0, heights}, {pile(40, "input; ", 41), 5, nil}, {pile(40, "", 0), 7, nil}, {pile(41, "", 0), 5, nil},
		{pile(100, "", 100), 5, nil}, {pile(299, "", 0), 5, nil}, {pile(40, "recover; ", 41), 5, nil}, {"0 1: " + pile(40, "var 0; ", 41), 5, nil},
		{rows(pile(40, "call 0; ", 41)), 5, nil}, {rows(pile(40, "call 2; ", 40)), 0, append(upTo(41), heights[40:]...)}, {rows(pile(40, "reckon 3; ", 39)), 0, heights},
		{"input; unless 0; " + pile(40, "", 40), 0, append(numbers(0, 1), heights...)}, {"input; unless 0; " + pile(41, "", 41), 5, nil},
		// Where no way leads there is no height.
		{"end; " + pile(41, "", 41), 0, append(numbers(0), slices.Repeat(numbers(-1), 83)...)}, {"end; " + pile(41, "", 41) + " | 0 1 1", 5, nil},
		{"end; " + pile(40, "", 40) + " | 0 1 1", 0, append(numbers(0), heights...)},
	})
}

// raisers have five instructions each: the one at place 2 may raise something, the last one is `end`. Heights are with the last one as Pad.
var raisers = []struct {
	ins     string
	heights []int
	beside  int
}{
	{"num 1; num 2; reckon 3; drop; end", numbers(0, 1, 2, 1, 0), 5}, {"num 1; num 2; reckon 4; drop; end", numbers(0, 1, 2, 1, 0), 5}, {"num 1; num 2; reckon 5; drop; end", numbers(0, 1, 2, 1, 0), 5},
	{"num 1; num 2; reckon 6; drop; end", numbers(0, 1, 2, 1, 0), 5}, {"num 1; num 2; reckon 7; drop; end", numbers(0, 1, 2, 1, 0), 5}, {"num 1; num 2; reckon 8; drop; end", numbers(0, 1, 2, 1, 0), 5},
	{"num 1; num 2; call 3; drop; end", numbers(0, 1, 2, 1, 0), 5}, {"num 1; jump 2; call 2; drop; end", numbers(0, 1, 1, 1, 0), 5}, {"num 1; num 2; panic; jump 4; end", numbers(0, 1, 2, -1, 0), 0},
	{"num 1; drop; exit; jump 4; end", numbers(0, 1, 0, -1, 0), 0}, {"num 1; drop; leave; jump 4; end", numbers(0, 1, 0, -1, 0), 0}, {"num 1; drop; off 0; jump 4; end", numbers(0, 1, 0, 0, 0), 0},
}

func TestWhatMayRaiseIsInARow(t *testing.T) {
	for _, c := range raisers {
		with := func(rows string) string { return c.ins + " | " + rows + " | 0" }
		var beside []int
		if c.beside == 0 {
			beside = slices.Clone(c.heights)
			beside[3] = 0
		}
		atItself := 5
		if c.heights[2] == 0 {
			atItself = 6
		}
		checkCodeCases(t, []codeCase{
			{with(""), 6, nil}, {with("0 5 4"), 0, c.heights}, {with("2 3 4"), 0, c.heights}, {with("0 2 0, 2 5 4"), 0, c.heights}, {with("0 2 4, 2 3 4, 3 5 0"), 0, c.heights},
			{with("0 2 4"), 6, nil}, {with("3 5 4"), 6, nil}, {with("0 2 4, 3 5 4"), 6, nil},
			// The Pad ahead of it, at it and beside it.
			{with("0 5 0"), 6, nil}, {with("0 2 4, 2 3 0, 3 5 4"), 6, nil}, {with("2 3 2"), atItself, nil}, {with("2 3 3"), c.beside, beside},
		})
	}
}

func TestWhatRaisesNothingIsInAnyRow(t *testing.T) {
	heights := numbers(0, 1, 0, 1, 0, 1, 0, 1, 0, 0, 0, 1, 0)
	text := "0 1: num 1; set 0; var 0; print; input; drop; recover; result; put 0; jump 10; input; unless 12; end | "
	checkCodeCases(t, []codeCase{
		{text + "| 0", 0, heights}, {text + "0 13 0 | 0", 0, heights}, {text + "0 6 6, 7 13 8 | 0", 0, heights},
		// Where no way leads nothing is raised.
		{"end; leave", 0, numbers(0, -1)}, {"end; exit", 0, numbers(0, -1)}, {"end; panic", 0, numbers(0, -1)}, {"end; num 1; panic", 0, numbers(0, -1, -1)}, {"end; off 0; end | | 0", 0, numbers(0, -1, -1)},
		{"end; call 0; end", 0, numbers(0, -1, -1)}, {"end; reckon 6; end", 0, numbers(0, -1, -1)}, {"end; leave; end | 1 2 0", 0, numbers(0, -1, -1)},
		// A Pad is a way to it.
		{"end; leave | 0 1 1", 6, nil}, {"end; leave; end | 0 1 1", 6, nil}, {"end; leave; end | 0 1 1, 1 2 2", 0, numbers(0, 0, 0)},
		// The last one has no Pad behind it.
		{"leave", 6, nil}, {"leave | 0 1 0", 6, nil}, {"exit | 0 1 0", 6, nil}, {"num 1; panic | 0 2 0", 6, nil}, {"leave; leave | 0 2 1", 6, nil},
	})
}

func TestWhatStandsAtNothing(t *testing.T) {
	checkCodeCases(t, []codeCase{
		{"num 1; end", 7, nil}, {"num 1; leave; end | 0 2 2", 7, nil}, {"num 1; exit; end | 0 2 2", 7, nil}, {"num 1; off 0; drop; end | 0 2 3 | 0", 7, nil},
		{"num 1; drop; end", 0, numbers(0, 1, 0)}, {"num 1; drop; leave; end | 0 3 3", 0, numbers(0, 1, 0, 0)}, {"num 1; drop; exit; end | 0 3 3", 0, numbers(0, 1, 0, 0)}, {"off 0; num 1; drop; end | 0 2 3 | 0", 0, numbers(0, 0, 1, 0)},
		{"num 1; num 2; end", 7, nil}, {"input; input; unless 4; end; drop; end", 7, nil}, {"input; input; unless 5; drop; end; end", 7, nil},
		// All others may stand above.
		{"num 1; num 2; num 3; panic; end | 0 4 4", 0, numbers(0, 1, 2, 3, 0)}, {"num 1; put 0; jump 3; drop; end | | 0", 0, numbers(0, 1, 1, 1, 0)}, {"num 1; num 2; result; drop; end", 0, numbers(0, 1, 2, 1, 0)},
		// Where no way leads there is no height that is not 0.
		{"end; num 1; end", 0, numbers(0, -1, -1)}, {"end; num 1; leave", 0, numbers(0, -1, -1)}, {"end; num 1; off 0; end | | 0", 0, numbers(0, -1, -1, -1)}, {"end; num 1; end | 0 1 1", 7, nil},
	})
}

// faulty has the faults of a set, each of which changes something that the others do not.
func faulty(faults map[int]bool) impl.Image {
	pick := func(n int, with, without string) string {
		if faults[n] {
			return with
		}
		return without
	}
	text := "0 1: " + pick(1, "var 1", "var 0") + "; drop; " + pick(5, "drop", "put 0") + "; num 0; " + pick(7, "put 0", "drop") + "; leave; " + pick(3, "jump 9", "jump 8") + "; off 0; end | "
	return image(text + pick(6, "0 5 7", "0 6 7") + ", 7 8 8" + pick(4, ", 8 8 8", "") + " | " + pick(2, "1", "0"))
}

func TestFaultsInTheirOrder(t *testing.T) {
	for bits := range 1 << 7 {
		faults, want := map[int]bool{}, 0
		for n := 7; n >= 1; n-- {
			if bits>>(n-1)&1 == 1 {
				faults[n], want = true, n
			}
		}
		x := faulty(faults)
		if fault, ok := impl.GoodCode(x, 0); fault != want || !ok {
			t.Errorf("of the faults %v GoodCode tells %d, %t", faults, fault, ok)
		}
		checkImage(t, x)
	}
	// Those of which one is ahead in the code, and the other one in the order.
	checkCodeCases(t, []codeCase{
		{"drop; leave; jump 9; num 1; end; var 0; end | 5 5 5 | 9", 1, nil}, {"drop; leave; jump 9; num 1; end | 5 5 5 | 9", 2, nil}, {"drop; leave; end; jump 9 | 3 3 3", 3, nil},
		{"num 1; end; leave; drop; end | 0 1 2, 2 3 3, 3 3 3", 4, nil}, {"num 1; end; leave; drop; end | 0 1 2, 2 3 3", 5, nil}, {"num 1; end; leave; end | 0 1 2", 6, nil}, {"num 1; end; leave; end | 0 1 2, 2 3 3", 7, nil},
	})
}

// coder writes code that is good: heights are those on the way, and each statement begins at the height 0.
type coder struct {
	r      *rand.Rand
	params []int
	c      impl.Code
	begins []int
}

func (m *coder) add(op, n int) int {
	m.c.Ins = append(m.c.Ins, ins(op, n))
	return len(m.c.Ins) - 1
}

// value puts one number more.
func (m *coder) value(deep int) {
	switch n := m.r.Intn(10); {
	case n > 6 && deep > 0:
		m.value(deep - 1)
		m.value(deep - 1)
		m.add(impl.InReckon, impl.ExAdd+m.r.Intn(6))
	case n == 6 && deep > 0:
		fn := m.r.Intn(len(m.params))
		for range m.params[fn] {
			m.value(deep - 1)
		}
		m.add(impl.InCall, fn)
	case n < 4 && m.c.Vars > 0:
		m.add(impl.InVar, m.r.Intn(m.c.Vars))
	case n == 4:
		m.add(impl.InInput, 0)
	case n == 5:
		m.add(impl.InRecover, 0)
	default:
		m.add(impl.InNum, randomNumber(m.r))
	}
}

func (m *coder) takes() {
	switch n := m.r.Intn(5); {
	case n == 0 && m.c.Vars > 0:
		m.add(impl.InSet, m.r.Intn(m.c.Vars))
	case n == 1:
		m.add(impl.InPrint, 0)
	case n == 2:
		m.add(impl.InResult, 0)
	case n == 3 && m.r.Intn(3) == 0:
		m.add(impl.InPanic, 0)
	default:
		m.add(impl.InDrop, 0)
	}
}

// chooses goes one of two ways, the second of which may be back to the beginning.
func (m *coder) chooses(deep int) {
	begin := len(m.c.Ins)
	m.value(4)
	unless := m.add(impl.InUnless, 0)
	m.statements(deep - 1)
	jump := m.add(impl.InJump, begin)
	m.c.Ins[unless].N = len(m.c.Ins)
	if m.r.Intn(2) == 0 {
		m.statements(deep - 1)
		m.c.Ins[jump].N = len(m.c.Ins)
	}
}

func (m *coder) statements(deep int) {
	for range m.r.Intn(3) + 1 {
		m.begins = append(m.begins, len(m.c.Ins))
		switch n := m.r.Intn(8); {
		case n < 2 && deep > 0:
			m.chooses(deep)
		case n == 2 && len(m.c.Sites) > 0:
			m.add(impl.InPut, m.r.Intn(len(m.c.Sites)))
		case n == 3 && m.r.Intn(3) == 0:
			m.add(impl.InExit, 0)
		case n == 4 && m.r.Intn(3) == 0:
			m.add(impl.InLeave, 0)
		default:
			m.value(4)
			m.takes()
		}
	}
}

// rows cuts what is ahead of the pad into rows, some of which have the beginning of a statement behind them as Pad.
func (m *coder) rows(pad int) {
	from := 0
	for from < pad {
		to := min(from+1+m.r.Intn(20), pad)
		row := impl.Row{From: from, To: to, Pad: pad}
		behind := slices.DeleteFunc(slices.Clone(m.begins), func(at int) bool { return at < to })
		if len(behind) > 0 && m.r.Intn(3) == 0 {
			row.Pad = behind[m.r.Intn(len(behind))]
		}
		m.c.Rows = append(m.c.Rows, row)
		from = to
	}
}

func (m *coder) finish() impl.Code {
	m.statements(2)
	m.add(impl.InLeave, 0)
	pad := len(m.c.Ins)
	m.rows(pad)
	for site := len(m.c.Sites) - 1; site >= 0; site-- {
		at := m.add(impl.InOff, site)
		m.c.Rows = append(m.c.Rows, impl.Row{From: at, To: at + 1, Pad: at + 1})
	}
	m.add(impl.InEnd, 0)
	return m.c
}

func randomImage(r *rand.Rand) impl.Image {
	params := make([]int, 1+r.Intn(impl.MaxFuncs))
	plain := numbers(0)
	for fn := 1; fn < len(params); fn++ {
		params[fn] = max(r.Intn(4)-1, 0)
		if params[fn] == 0 {
			plain = append(plain, fn)
		}
	}
	var x impl.Image
	for len(x.Codes) < len(params) {
		many := params[len(x.Codes)]
		m := coder{r: r, params: params, c: impl.Code{Params: many, Vars: many + r.Intn(impl.MaxVars-many+1)}}
		for range r.Intn(impl.MaxSites + 1) {
			m.c.Sites = append(m.c.Sites, plain[r.Intn(len(plain))])
		}
		if c := m.finish(); len(c.Ins) <= impl.MaxIns {
			x.Codes = append(x.Codes, c)
		}
	}
	return x
}

// walk goes at random with a pile of its own, from a place where it is empty, and holds it against the heights.
func walk(t *testing.T, r *rand.Rand, x impl.Image, c impl.Code, heights []int, at int) {
	t.Helper()
	var pile []int
	pads := padsOf(c)
	for range 200 {
		i := c.Ins[at]
		if len(pile) != heights[at] || len(pile) > 40 {
			t.Fatalf("at %d the height is %d, not %d: %v", at, len(pile), heights[at], c)
		}
		takes, puts, ok := impl.TakesPuts(x, i)
		if !ok || takes > len(pile) {
			t.Fatalf("at %d of %d numbers %d are taken, %t: %v", at, len(pile), takes, ok, c)
		}
		next, ok := impl.NextOf(i, at)
		if !ok {
			t.Fatalf("at %d nothing is told of where it goes on: %v", at, c)
		}
		if isOneOf(i, "end leave exit off") && len(pile) > 0 {
			t.Fatalf("at %d there is something on the pile: %v", at, c)
		}
		raises := isOneOf(i, "reckon call panic exit leave off")
		if raises && pads[at] <= at {
			t.Fatalf("at %d the Pad is %d: %v", at, pads[at], c)
		}
		pile = append(pile[:len(pile)-takes], make([]int, puts)...)
		switch {
		case raises && (len(next) == 0 || r.Intn(4) == 0):
			pile, at = nil, pads[at]
		case len(next) == 0:
			return
		default:
			at = next[r.Intn(len(next))]
		}
	}
}

// walkAll goes through each code from its beginning, and from each Pad.
func walkAll(t *testing.T, r *rand.Rand, x impl.Image) {
	t.Helper()
	for fn, c := range x.Codes {
		heights, ok := impl.HeightsOf(x, fn)
		if !ok || len(heights) != len(c.Ins) {
			t.Fatalf("no heights of code %d of %v: %v", fn, x, heights)
		}
		for range 4 {
			walk(t, r, x, c, heights, 0)
		}
		for _, row := range c.Rows {
			walk(t, r, x, c, heights, row.Pad)
		}
	}
}

func TestRandomImages(t *testing.T) {
	r := rand.New(rand.NewSource(5))
	deep, dead, longest := 0, 0, 0
	for range 600 {
		x := randomImage(r)
		if !wantSized(x) {
			t.Fatalf("not sized: %v", x)
		}
		if !checkImage(t, x) {
			t.Fatalf("not good: %v", x)
		}
		walkAll(t, r, x)
		for fn, c := range x.Codes {
			heights, _ := impl.HeightsOf(x, fn)
			deep, longest = max(deep, slices.Max(heights)), max(longest, len(c.Ins))
			if slices.Contains(heights, -1) {
				dead++
			}
			for at, i := range c.Ins {
				checkIns(t, x, i, at)
			}
		}
	}
	if deep < 4 || dead < 100 || longest < 80 {
		t.Errorf("the greatest height is %d, codes with places that no way leads to: %d, the longest code: %d", deep, dead, longest)
	}
}

func cloneCode(c impl.Code) impl.Code {
	c.Sites, c.Ins, c.Rows = slices.Clone(c.Sites), slices.Clone(c.Ins), slices.Clone(c.Rows)
	return c
}

func cloneImage(x impl.Image) impl.Image {
	x.Codes = slices.Clone(x.Codes)
	for fn, c := range x.Codes {
		x.Codes[fn] = cloneCode(c)
	}
	return x
}

// spoilCode changes one thing of a code.
func spoilCode(r *rand.Rand, c *impl.Code) {
	at := r.Intn(len(c.Ins))
	near := r.Intn(5) - 2
	switch r.Intn(13) {
	case 0:
		c.Ins[at].N += near
	case 1:
		c.Ins[at] = ins(r.Intn(20), r.Intn(9))
	case 2:
		c.Ins[at].N = someInts()[r.Intn(len(someInts()))]
	case 3:
		c.Ins = slices.Delete(c.Ins, at, at+1)
	case 4:
		c.Ins = slices.Insert(c.Ins, at, ins(impl.InInput, 0))
	case 5:
		c.Ins[at] = ins([...]int{impl.InInput, impl.InDrop, impl.InLeave, impl.InEnd, impl.InExit, impl.InPanic}[r.Intn(6)], 0)
	case 6:
		c.Params += near
	case 7:
		c.Vars += near
	case 8:
		c.Sites = append(c.Sites, r.Intn(7)-1)
	case 9:
		c.Ins[at] = ins(impl.InUnless-r.Intn(2), r.Intn(len(c.Ins)+1))
	default:
		if len(c.Rows) == 0 {
			return
		}
		row := &c.Rows[r.Intn(len(c.Rows))]
		*[...]*int{&row.From, &row.To, &row.Pad}[r.Intn(3)] += near
	}
}

func TestSpoiledImages(t *testing.T) {
	r := rand.New(rand.NewSource(55))
	seen := map[int]int{}
	for range 600 {
		x := randomImage(r)
		for range 20 {
			y := cloneImage(x)
			for range 1 + r.Intn(3) {
				if c := &y.Codes[r.Intn(len(y.Codes))]; len(c.Ins) > 0 {
					spoilCode(r, c)
				}
			}
			if checkImage(t, y) {
				walkAll(t, r, y)
			}
			for fn := range y.Codes {
				seen[checkCode(t, y, fn)]++
			}
		}
	}
	for fault := -1; fault <= 7; fault++ {
		if seen[fault] < 100 {
			t.Errorf("%d is told only %d times", fault, seen[fault])
		}
	}
}

// someIns are enough for all that can happen in a code of few instructions.
func someIns() []impl.Ins {
	var l []impl.Ins
	for _, text := range strings.Split("num 1; drop; reckon 6; call 0; panic; exit; end; off 0; jump 0; jump 1; jump 2; unless 0; unless 2; var 0", ";") {
		l = append(l, insIn(text))
	}
	return l
}

func TestAllCodesOfFewInstructions(t *testing.T) {
	rows := [][]impl.Row{nil, rowsIn("0 1 1, 1 2 2"), rowsIn("0 2 2, 2 3 1"), rowsIn("0 1 2, 1 3 2"), rowsIn("0 1 0, 1 2 1, 2 3 2")}
	for from := range 3 {
		for to := range 4 {
			for pad := range 3 {
				rows = append(rows, []impl.Row{{From: from, To: to, Pad: pad}})
			}
		}
	}
	seen := map[int]int{}
	for _, a := range someIns() {
		for _, b := range someIns() {
			for _, c := range someIns() {
				for _, rs := range rows {
					x := imageOf(impl.Code{Vars: 1, Sites: numbers(0), Ins: []impl.Ins{a, b, c}, Rows: rs})
					seen[checkCode(t, x, 0)]++
				}
			}
		}
	}
	for _, fault := range numbers(0, 3, 4, 5, 6, 7) {
		if seen[fault] < 200 {
			t.Errorf("%d is told only %d times", fault, seen[fault])
		}
	}
}

func TestWildImages(t *testing.T) {
	r := rand.New(rand.NewSource(555))
	some := append(someInts(), upTo(20)...)
	pick := func() int { return some[r.Intn(len(some))] }
	for range 3000 {
		var x impl.Image
		for range r.Intn(7) {
			c := impl.Code{Params: pick(), Vars: pick()}
			if r.Intn(2) == 0 {
				c.Params, c.Vars = r.Intn(3), 3+r.Intn(4)
			}
			for range r.Intn(4) {
				c.Sites, c.Rows = append(c.Sites, pick()), append(c.Rows, impl.Row{From: pick(), To: pick(), Pad: pick()})
			}
			for range 1 + r.Intn(6) {
				c.Ins = append(c.Ins, someIns()[r.Intn(len(someIns()))])
			}
			if r.Intn(3) == 0 {
				c.Ins = append(c.Ins, ins(pick(), pick()))
			}
			x.Codes = append(x.Codes, c)
		}
		checkImage(t, x)
		checkIns(t, x, ins(r.Intn(20), pick()), pick())
		checkIns(t, x, ins(pick(), pick()), r.Intn(301))
	}
}

// spareImage has behind each list what would change the answers.
func spareImage(x impl.Image) impl.Image {
	x = cloneImage(x)
	for fn := range x.Codes {
		c := &x.Codes[fn]
		c.Sites = spare(c.Sites, 77, -1, 0, 0, 0)
		c.Ins = spare(c.Ins, ins(impl.InVar, 77), ins(99, 0))
		c.Rows = spare(c.Rows, impl.Row{From: 0, To: 0, Pad: 77}, impl.Row{From: -1, To: 1, Pad: 0})
	}
	x.Codes = spare(x.Codes, code("end"), code("drop"), sizes(9, 9), sizes(9, 9), sizes(9, 9), sizes(9, 9))
	return x
}

// wholeImage has each list with what lies behind it.
func wholeImage(x impl.Image) impl.Image {
	x.Codes = slices.Clone(x.Codes[:cap(x.Codes)])
	for fn, c := range x.Codes {
		x.Codes[fn].Sites = slices.Clone(c.Sites[:cap(c.Sites)])
		x.Codes[fn].Ins = slices.Clone(c.Ins[:cap(c.Ins)])
		x.Codes[fn].Rows = slices.Clone(c.Rows[:cap(c.Rows)])
	}
	return x
}

func TestImagesLeaveTheirArguments(t *testing.T) {
	r := rand.New(rand.NewSource(5555))
	images := []impl.Image{image("num 7; print; leave; off 0; end | 0 3 3, 3 4 4 | 0"), image("end | | 9", "1 1: drop; jump 8 | 4 2 9")}
	for range 50 {
		images = append(images, randomImage(r))
	}
	for _, x := range append(images, notSized()...) {
		x = spareImage(x)
		was := wholeImage(x)
		checkImage(t, x)
		for op := impl.InNum; op <= impl.InEnd; op++ {
			checkIns(t, x, ins(op, 0), 3)
			checkIns(t, x, ins(op, len(x.Codes)), 3)
		}
		if now := wholeImage(x); !reflect.DeepEqual(now, was) {
			t.Fatalf("%v became %v", was, now)
		}
	}
}

func TestAnswersOfImagesAreNewMemory(t *testing.T) {
	x := image("input; unless 4; put 0; jump 0; leave; off 0; end | 0 5 5, 5 6 6 | 0")
	was := wholeImage(x)
	for range 3 {
		heights, _ := impl.HeightsOf(x, 0)
		others, _ := impl.HeightsOf(x, 0)
		next, _ := impl.NextOf(x.Codes[0].Ins[1], 1)
		again, _ := impl.NextOf(x.Codes[0].Ins[1], 1)
		scribble(heights)
		scribble(next)
		if !slices.Equal(others, numbers(0, 1, 0, 0, 0, 0, 0)) || !slices.Equal(again, numbers(2, 4)) {
			t.Fatalf("%v, %v", others, again)
		}
		if now := wholeImage(x); !reflect.DeepEqual(now, was) {
			t.Fatalf("%v became %v", was, now)
		}
	}
}
