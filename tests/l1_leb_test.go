package tests

import (
	"math"
	"math/big"
	"math/rand"
	"slices"
	"strings"
	"testing"

	"loop.example/g00745/impl"
)

// number is what ReadU or ReadS should answer, the number as a big one so that both share it.
type number struct {
	value *big.Int
	end   int
	code  int
}

func power(n int) *big.Int {
	return new(big.Int).Lsh(big.NewInt(1), uint(n))
}

func fitsU(v *big.Int, bits int) bool {
	return v.Sign() >= 0 && v.Cmp(power(bits)) < 0
}

func fitsS(v *big.Int, bits int) bool {
	half := power(bits - 1)
	return v.Cmp(half) < 0 && v.Cmp(new(big.Int).Neg(half)) >= 0
}

// wantNumber follows the words of the document over big numbers, without the shortcuts by the last byte.
func wantNumber(s string, at int, signed bool) number {
	fault := func(code int) number { return number{new(big.Int), 0, code} }
	if len(s) > impl.MaxBytes || at < 0 || at > len(s) {
		return fault(1)
	}
	value := new(big.Int)
	long := 0
	for {
		if at+long == len(s) {
			return fault(2)
		}
		digit := s[at+long]
		value.Add(value, new(big.Int).Lsh(big.NewInt(int64(digit%128)), uint(7*long)))
		long++
		if digit < 128 {
			break
		}
		if long == 10 {
			return fault(3)
		}
	}
	fits := fitsU
	if signed {
		fits = fitsS
		if s[at+long-1]&64 != 0 {
			value.Sub(value, power(7*long))
		}
	}
	if !fits(value, 64) {
		return fault(3)
	}
	if long > 1 && fits(value, 7*(long-1)) {
		return fault(4)
	}
	return number{value, at + long, 0}
}

func checkReadU(t *testing.T, s string, at int) {
	t.Helper()
	want := wantNumber(s, at, false)
	n, end, code, ok := impl.ReadU(s, at)
	if n != want.value.Uint64() || end != want.end || code != want.code || ok != (code == 0) {
		t.Fatalf("ReadU(%q, %d): %d, %d, %d, %v; want %v", s, at, n, end, code, ok, want)
	}
	if ok && impl.PutU(n) != s[at:end] {
		t.Fatalf("PutU(%d) is %q, read from %q", n, impl.PutU(n), s[at:end])
	}
}

func checkReadS(t *testing.T, s string, at int) {
	t.Helper()
	want := wantNumber(s, at, true)
	n, end, code, ok := impl.ReadS(s, at)
	if int64(n) != want.value.Int64() || end != want.end || code != want.code || ok != (code == 0) {
		t.Fatalf("ReadS(%q, %d): %d, %d, %d, %v; want %v", s, at, n, end, code, ok, want)
	}
	if ok && impl.PutS(n) != s[at:end] {
		t.Fatalf("PutS(%d) is %q, read from %q", n, impl.PutS(n), s[at:end])
	}
}

func checkRead(t *testing.T, s string, at int) {
	t.Helper()
	checkReadU(t, s, at)
	checkReadS(t, s, at)
}

// someUnsigned has the numbers around each power of two, and some of any size.
func someUnsigned() []uint64 {
	l := []uint64{0, 300, 624485, math.MaxUint64}
	for k := range 64 {
		p := uint64(1) << k
		l = append(l, p-1, p, p+1, -p, p|0x5555555555555555>>(63-k))
	}
	r := rand.New(rand.NewSource(1))
	for range 2000 {
		l = append(l, r.Uint64()>>r.Intn(64))
	}
	return l
}

func someSigned() []int {
	l := []int{math.MinInt64, math.MinInt64 + 1, math.MaxInt64}
	for _, n := range someUnsigned() {
		l = append(l, int(n), -int(n))
	}
	return l
}

func TestPutULeastAndGreatest(t *testing.T) {
	for _, c := range []struct {
		n    uint64
		text string
	}{
		{0, "\x00"}, {1, "\x01"}, {63, "\x3f"}, {64, "\x40"}, {127, "\x7f"}, {128, "\x80\x01"},
		{300, "\xac\x02"}, {16383, "\xff\x7f"}, {16384, "\x80\x80\x01"}, {624485, "\xe5\x8e\x26"},
		{1<<63 - 1, "\xff\xff\xff\xff\xff\xff\xff\xff\x7f"},
		{1 << 63, "\x80\x80\x80\x80\x80\x80\x80\x80\x80\x01"},
		{math.MaxUint64, "\xff\xff\xff\xff\xff\xff\xff\xff\xff\x01"},
	} {
		if s := impl.PutU(c.n); s != c.text {
			t.Errorf("PutU(%d): %q, want %q", c.n, s, c.text)
		}
		if long := impl.LongU(c.n); long != len(c.text) {
			t.Errorf("LongU(%d): %d, want %d", c.n, long, len(c.text))
		}
		checkReadU(t, c.text, 0)
	}
}

func TestPutSLeastAndGreatest(t *testing.T) {
	for _, c := range []struct {
		n    int
		text string
	}{
		{0, "\x00"}, {1, "\x01"}, {-1, "\x7f"}, {63, "\x3f"}, {64, "\xc0\x00"}, {-64, "\x40"}, {-65, "\xbf\x7f"},
		{127, "\xff\x00"}, {128, "\x80\x01"}, {-128, "\x80\x7f"}, {8191, "\xff\x3f"}, {8192, "\x80\xc0\x00"},
		{-8192, "\x80\x40"}, {-8193, "\xff\xbf\x7f"}, {-123456, "\xc0\xbb\x78"},
		{1<<62 - 1, "\xff\xff\xff\xff\xff\xff\xff\xff\x3f"},
		{1 << 62, "\x80\x80\x80\x80\x80\x80\x80\x80\xc0\x00"},
		{-1 << 62, "\x80\x80\x80\x80\x80\x80\x80\x80\x40"},
		{-1<<62 - 1, "\xff\xff\xff\xff\xff\xff\xff\xff\xbf\x7f"},
		{math.MaxInt64, "\xff\xff\xff\xff\xff\xff\xff\xff\xff\x00"},
		{math.MinInt64, "\x80\x80\x80\x80\x80\x80\x80\x80\x80\x7f"},
	} {
		if s := impl.PutS(c.n); s != c.text {
			t.Errorf("PutS(%d): %q, want %q", c.n, s, c.text)
		}
		checkReadS(t, c.text, 0)
	}
}

func TestReadingInvertsPutU(t *testing.T) {
	for _, n := range someUnsigned() {
		s := impl.PutU(n)
		if impl.LongU(n) != len(s) {
			t.Fatalf("LongU(%d): %d, but PutU has %d bytes", n, impl.LongU(n), len(s))
		}
		for _, ahead := range []string{"", "\x80", "ab\xff"} {
			for _, behind := range []string{"", "\x00", "\xff", "\x80\x80"} {
				m, end, code, ok := impl.ReadU(ahead+s+behind, len(ahead))
				if m != n || end != len(ahead)+len(s) || code != 0 || !ok {
					t.Fatalf("ReadU of PutU(%d): %d, %d, %d, %v", n, m, end, code, ok)
				}
			}
		}
	}
}

func TestReadingInvertsPutS(t *testing.T) {
	for _, n := range someSigned() {
		s := impl.PutS(n)
		for _, ahead := range []string{"", "\x80", "ab\xff"} {
			for _, behind := range []string{"", "\x00", "\x7f", "\x80\x80"} {
				m, end, code, ok := impl.ReadS(ahead+s+behind, len(ahead))
				if m != n || end != len(ahead)+len(s) || code != 0 || !ok {
					t.Fatalf("ReadS of PutS(%d): %d, %d, %d, %v", n, m, end, code, ok)
				}
			}
		}
	}
}

func TestReadAllShortTexts(t *testing.T) {
	checkRead(t, "", 0)
	for a := range 256 {
		checkRead(t, string([]byte{byte(a)}), 0)
		for b := range 256 {
			two := []byte{byte(a), byte(b)}
			checkRead(t, string(two), 0)
			checkRead(t, string(two), 1)
			for _, c := range []byte{0, 1, 63, 64, 65, 126, 127, 128, 191, 192, 255} {
				checkRead(t, string(append(two, c)), 0)
			}
		}
	}
}

// TestReadAroundTenBytes has every last two bytes behind 6 to 10 bytes that go on.
func TestReadAroundTenBytes(t *testing.T) {
	for _, fill := range []string{"\x80", "\xff", "\xc0", "\xbf"} {
		for long := 6; long <= 10; long++ {
			head := strings.Repeat(fill, long)
			checkRead(t, head, 0)
			for a := range 256 {
				for b := range 256 {
					checkRead(t, head+string([]byte{byte(a), byte(b)}), 0)
				}
			}
		}
	}
}

func TestCodesOfReadUAndReadS(t *testing.T) {
	on := func(many int) string { return strings.Repeat("\x80", many) }
	full := func(many int) string { return strings.Repeat("\xff", many) }
	for _, c := range []struct {
		s            string
		at           int
		codeU, codeS int
	}{
		{"a", -1, 1, 1}, {"a", 2, 1, 1}, {"", 1, 1, 1}, {"", -1, 1, 1},
		{"a", math.MaxInt, 1, 1}, {"a", math.MinInt, 1, 1},
		{strings.Repeat("\x00", impl.MaxBytes+1), 0, 1, 1},
		{strings.Repeat("\x80", impl.MaxBytes+1), impl.MaxBytes + 1, 1, 1},
		{"", 0, 2, 2}, {"a", 1, 2, 2}, {"\x80", 0, 2, 2}, {"\x80", 1, 2, 2}, {on(9), 0, 2, 2}, {on(10), 1, 2, 2},
		{strings.Repeat("\x00", impl.MaxBytes), impl.MaxBytes, 2, 2},
		{on(10), 0, 3, 3}, {on(11), 0, 3, 3}, {full(10), 0, 3, 3}, {on(10) + "\x00", 0, 3, 3}, {full(10) + "\x7f", 0, 3, 3},
		{on(9) + "\x02", 0, 3, 3}, {on(9) + "\x40", 0, 3, 3}, {full(9) + "\x3f", 0, 3, 3}, {full(9) + "\x7e", 0, 3, 3},
		{on(9) + "\x01", 0, 0, 3}, {full(9) + "\x01", 0, 0, 3}, {full(9) + "\x7f", 0, 3, 4}, {on(9) + "\x7f", 0, 3, 0},
		{"\x80\x00", 0, 4, 4}, {"\xbf\x00", 0, 4, 4}, {"\xc0\x00", 0, 4, 0}, {"\xff\x00", 0, 4, 0},
		{"\xff\x7f", 0, 0, 4}, {"\xc0\x7f", 0, 0, 4}, {"\xbf\x7f", 0, 0, 0}, {"\x80\x7f", 0, 0, 0},
		{"\x80\x80\x00", 0, 4, 4}, {"\xff\xff\x7f", 0, 0, 4}, {on(9) + "\x00", 0, 4, 4}, {full(9) + "\x00", 0, 4, 0},
		{strings.Repeat("\x00", impl.MaxBytes), impl.MaxBytes - 1, 0, 0},
	} {
		if _, _, code, ok := impl.ReadU(c.s, c.at); code != c.codeU || ok != (c.codeU == 0) {
			t.Errorf("ReadU(%.20q, %d): code %d, %v; want %d", c.s, c.at, code, ok, c.codeU)
		}
		if _, _, code, ok := impl.ReadS(c.s, c.at); code != c.codeS || ok != (c.codeS == 0) {
			t.Errorf("ReadS(%.20q, %d): code %d, %v; want %d", c.s, c.at, code, ok, c.codeS)
		}
		checkRead(t, c.s, c.at)
	}
}

// somePlaces has the places in and around a text, and those that a sum with them would wrap.
func somePlaces(s string) []int {
	l := []int{math.MinInt, math.MinInt + 1, -2, -1, 0, 1, 2, math.MaxInt - 10, math.MaxInt - 1, math.MaxInt}
	for k := range 12 {
		l = append(l, len(s)-k)
	}
	return append(l, len(s)/2, len(s)+1, len(s)+2)
}

func TestEveryTextAndPlaceIsAnswered(t *testing.T) {
	texts := []string{"", "a", "\x80", "\xff\xff\xff\xff\xff\xff\xff\xff\xff\xff\xff\xff", "\u00e9\u4e16"}
	for _, long := range []int{impl.MaxBytes - 1, impl.MaxBytes, impl.MaxBytes + 1, 3 * impl.MaxBytes} {
		for _, fill := range []string{"\x00", "\x01", "\x7f", "\x80", "\xff"} {
			texts = append(texts, strings.Repeat(fill, long), strings.Repeat("\x80", long-1)+fill)
		}
	}
	r := rand.New(rand.NewSource(2))
	for range 300 {
		text := make([]byte, r.Intn(60))
		for i := range text {
			text[i] = byte(r.Intn(256)) | byte(r.Intn(2)*128)
		}
		texts = append(texts, string(text))
	}
	for _, s := range texts {
		for _, at := range somePlaces(s) {
			checkRead(t, s, at)
			checkReadListU(t, s, at)
		}
	}
}

// wantList reads a list by wantNumber, number by number.
func wantList(s string, at int) ([]uint64, int, bool) {
	many := wantNumber(s, at, false)
	if many.code != 0 || many.value.Cmp(big.NewInt(200)) > 0 {
		return nil, 0, false
	}
	var l []uint64
	end := many.end
	for range many.value.Int64() {
		n := wantNumber(s, end, false)
		if n.code != 0 {
			return nil, 0, false
		}
		l = append(l, n.value.Uint64())
		end = n.end
	}
	return l, end, true
}

func checkReadListU(t *testing.T, s string, at int) {
	t.Helper()
	want, wantEnd, wantOk := wantList(s, at)
	l, end, ok := impl.ReadListU(s, at)
	if !slices.Equal(l, want) || end != wantEnd || ok != wantOk {
		t.Fatalf("ReadListU(%.40q, %d): %v, %d, %v; want %v, %d, %v", s, at, l, end, ok, want, wantEnd, wantOk)
	}
	if !ok {
		return
	}
	if text, ok := impl.ListU(l); !ok || text != s[at:end] {
		t.Fatalf("ListU(%v): %q, %v; read from %q", l, text, ok, s[at:end])
	}
}

func checkList(t *testing.T, l []uint64) {
	t.Helper()
	want := impl.PutU(uint64(len(l)))
	for _, n := range l {
		want += impl.PutU(n)
	}
	wantOk := len(l) <= 200 && len(want) <= impl.MaxBytes
	if !wantOk {
		want = ""
	}
	s, ok := impl.ListU(l)
	if s != want || ok != wantOk {
		t.Fatalf("ListU of %d numbers: %.40q (%d bytes), %v; want %.40q (%d bytes), %v", len(l), s, len(s), ok, want, len(want), wantOk)
	}
	if !ok {
		return
	}
	if m, end, ok := impl.ReadListU(s, 0); !ok || end != len(s) || !slices.Equal(m, l) {
		t.Fatalf("ReadListU of ListU of %v: %v, %d, %v", l, m, end, ok)
	}
	ahead, behind := "\x80\xff", "\x80\x00"
	if len(s)+len(ahead)+len(behind) > impl.MaxBytes {
		return
	}
	if m, end, ok := impl.ReadListU(ahead+s+behind, len(ahead)); !ok || end != len(ahead)+len(s) || !slices.Equal(m, l) {
		t.Fatalf("ReadListU within a text: %v, %d, %v", m, end, ok)
	}
}

// repeated has many numbers, of which each takes long bytes.
func repeated(many, long int) []uint64 {
	return slices.Repeat([]uint64{1 << (7 * (long - 1))}, many)
}

func TestReadingInvertsListU(t *testing.T) {
	checkList(t, nil)
	checkList(t, []uint64{})
	checkList(t, []uint64{0})
	checkList(t, []uint64{math.MaxUint64, 0, 1, 127, 128, 300})
	some := someUnsigned()
	for many := 1; many <= 40; many++ {
		checkList(t, some[len(some)-many:])
	}
}

func TestListULimits(t *testing.T) {
	for _, many := range []int{127, 128, 199, 200, 201, 1000} {
		checkList(t, repeated(many, 1))
		checkList(t, repeated(many, 9))
		checkList(t, repeated(many, 10))
	}
	// Two bytes tell that there are 200, so the numbers may take 1998.
	checkList(t, append(repeated(199, 10), 1<<49))
	checkList(t, append(repeated(199, 10), 1<<56))
	if s, ok := impl.ListU(append(repeated(199, 10), 1<<49)); len(s) != impl.MaxBytes || !ok {
		t.Errorf("exactly MaxBytes: %d, %v", len(s), ok)
	}
	if s, ok := impl.ListU(append(repeated(199, 10), 1<<56)); s != "" || ok {
		t.Errorf("one byte more: %d, %v", len(s), ok)
	}
	if s, ok := impl.ListU(repeated(201, 1)); s != "" || ok {
		t.Errorf("201 numbers: %q, %v", s, ok)
	}
}

func TestReadListUWithoutOne(t *testing.T) {
	for _, c := range []struct {
		s  string
		at int
	}{
		{"", 0}, {"\x01", 0}, {"\x02\x01", 0}, {"\x01\x80", 0}, {"\x01\x80\x00", 0}, {"\x80\x00", 0}, {"\x81\x00\x05", 0},
		{"\x00", 1}, {"\x00", -1}, {"\x00", 2}, {"\x00", math.MaxInt}, {"\x00", math.MinInt},
		{"\xc9\x01" + strings.Repeat("\x00", 201), 0},
		{"\xc8\x01" + strings.Repeat("\x00", 199), 0},
		{impl.PutU(math.MaxUint64) + "\x00", 0},
		{impl.PutU(1<<63) + "\x00", 0},
		{"\x01" + strings.Repeat("\xff", 9) + "\x02", 0},
		{"\x00" + strings.Repeat("\x00", impl.MaxBytes), 0},
	} {
		if l, end, ok := impl.ReadListU(c.s, c.at); len(l) != 0 || end != 0 || ok {
			t.Errorf("ReadListU(%.20q, %d): %v, %d, %v", c.s, c.at, l, end, ok)
		}
		checkReadListU(t, c.s, c.at)
	}
	most := "\xc8\x01" + strings.Repeat("\x00", 200)
	if l, end, ok := impl.ReadListU(most, 0); len(l) != 200 || end != 202 || !ok {
		t.Errorf("200 numbers: %d, %d, %v", len(l), end, ok)
	}
	if l, end, ok := impl.ReadListU(strings.Repeat("\x00", impl.MaxBytes), impl.MaxBytes-1); len(l) != 0 || end != impl.MaxBytes || !ok {
		t.Errorf("the last byte: %v, %d, %v", l, end, ok)
	}
}

func TestListULeavesItsArgument(t *testing.T) {
	memory := []uint64{7, 300, math.MaxUint64, 5, 6}
	before := slices.Clone(memory)
	if s, ok := impl.ListU(memory[:2]); s != "\x02\x07\xac\x02" || !ok {
		t.Errorf("%q, %v", s, ok)
	}
	long := repeated(300, 10)
	impl.ListU(long)
	if !slices.Equal(memory, before) || !slices.Equal(long, repeated(300, 10)) {
		t.Errorf("changed: %v", memory)
	}
}

func TestReadListUAnswersNewMemory(t *testing.T) {
	text := "\x02\x01\xac\x02"
	first, _, _ := impl.ReadListU(text, 0)
	second, _, _ := impl.ReadListU(text, 0)
	first[0], first[1] = 9, 9
	_ = append(first[:1], 9)
	if !slices.Equal(second, []uint64{1, 300}) {
		t.Errorf("shared: %v", second)
	}
	if third, _, _ := impl.ReadListU(text, 0); !slices.Equal(third, []uint64{1, 300}) {
		t.Errorf("kept: %v", third)
	}
}
