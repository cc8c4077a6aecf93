package tests

import (
	"math"
	"math/big"
	"math/rand"
	"reflect"
	"slices"
	"strings"
	"testing"

	"loop.example/g00745/impl"
)

func wantGoodRows(rows []impl.Row, many int) bool {
	return many >= 1 && many <= 300 && wantRows(rows, many)
}

// wantCover paints each row's number on its places.
func wantCover(rows []impl.Row, many int) []int {
	cover := slices.Repeat([]int{-1}, many)
	for k, r := range rows {
		for at := r.From; at < r.To; at++ {
			cover[at] = k
		}
	}
	return cover
}

// wantJoin goes by places: a row ends where the next place has another Pad, or none.
func wantJoin(rows []impl.Row, many int) []impl.Row {
	var joined []impl.Row
	from, pad := 0, -1
	for at, k := range append(wantCover(rows, many), -1) {
		here := -1
		if k >= 0 {
			here = rows[k].Pad
		}
		if here == pad {
			continue
		}
		if pad >= 0 {
			joined = append(joined, impl.Row{From: from, To: at, Pad: pad})
		}
		from, pad = at, here
	}
	return joined
}

// bytesOf has numbers as RowsBytes has them: how many rows there are, and three numbers for each.
func bytesOf(l ...int) string {
	text := impl.PutU(uint64(l[0]))
	for k, n := range l[1:] {
		if k%3 == 2 {
			text += impl.PutS(n)
		} else {
			text += impl.PutU(uint64(n))
		}
	}
	return text
}

func wantRowsBytes(rows []impl.Row) string {
	l := numbers(len(rows))
	ends := []int{0}
	for k, r := range rows {
		l = append(l, r.From-ends[k], r.To-r.From, r.Pad-r.To)
		ends = append(ends, r.To)
	}
	return bytesOf(l...)
}

// numbersIn reads so many rows' numbers, and tells whether each is there, and the place behind.
func numbersIn(s string, at, many int) ([]*big.Int, int, bool) {
	var l []*big.Int
	for k := range 3 * many {
		n := wantNumber(s, at, k%3 == 2)
		if n.code != 0 {
			return nil, 0, false
		}
		l, at = append(l, n.value), n.end
	}
	return l, at, true
}

// rowsOf adds big numbers, and has rows that are not good where one of these is no int, or beyond a million.
func rowsOf(l []*big.Int) []impl.Row {
	var rows []impl.Row
	to := 0
	for k := 0; k < len(l); k += 3 {
		for _, n := range l[k : k+3] {
			if n.CmpAbs(big.NewInt(1000000)) > 0 {
				return []impl.Row{{}}
			}
		}
		from := to + int(l[k].Int64())
		to = from + int(l[k+1].Int64())
		rows = append(rows, impl.Row{From: from, To: to, Pad: to + int(l[k+2].Int64())})
	}
	return rows
}

func wantReadRows(s string, many int) ([]impl.Row, int) {
	if many < 1 || many > 300 || len(s) > 2000 {
		return nil, 1
	}
	count := wantNumber(s, 0, false)
	if count.code != 0 || count.value.Cmp(big.NewInt(300)) > 0 {
		return nil, 1
	}
	l, end, ok := numbersIn(s, count.end, int(count.value.Int64()))
	if !ok {
		return nil, 2
	}
	rows := rowsOf(l)
	if !wantRows(rows, many) {
		return nil, 3
	}
	if end < len(s) {
		return nil, 4
	}
	return rows, 0
}

// checkReadRows gives the code that is told.
func checkReadRows(t *testing.T, s string, many int) int {
	t.Helper()
	want, wantCode := wantReadRows(s, many)
	rows, code, ok := impl.ReadRows(s, many)
	if !slices.Equal(rows, want) || code != wantCode || ok != (wantCode == 0) {
		t.Fatalf("ReadRows(%.60q, %d) = %v, %d, %t, want %v, %d", s, many, rows, code, ok, want, wantCode)
	}
	if !ok {
		return code
	}
	if text, ok := impl.RowsBytes(rows, many); text != s || !ok {
		t.Fatalf("RowsBytes(%v, %d) = %q, %t, but it was read from %q", rows, many, text, ok, s)
	}
	return 0
}

// placesFor has all places of a code, those around it, and some far away.
func placesFor(many int) []int {
	l := append(someInts(), many-1, many, many+1)
	if many >= 1 && many <= 1000 {
		l = append(l, upTo(many)...)
	}
	return l
}

func checkPads(t *testing.T, rows []impl.Row, many int) {
	t.Helper()
	good := wantGoodRows(rows, many)
	var cover []int
	if good {
		cover = wantCover(rows, many)
	}
	if l, ok := impl.CoverOf(rows, many); !slices.Equal(l, cover) || ok != good {
		t.Fatalf("CoverOf(%v, %d) = %v, %t, want %v, %t", rows, many, l, ok, cover, good)
	}
	for _, at := range placesFor(many) {
		want, there := 0, at >= 0 && at < len(cover) && cover[at] >= 0
		if there {
			want = rows[cover[at]].Pad
		}
		if pad, ok := impl.PadFor(rows, many, at); pad != want || ok != there {
			t.Fatalf("PadFor(%v, %d, %d) = %d, %t, want %d, %t", rows, many, at, pad, ok, want, there)
		}
	}
}

// checkJoined asks that what is joined is good, has the same Pads, and can not be joined again.
func checkJoined(t *testing.T, rows []impl.Row, many int) {
	t.Helper()
	good := wantGoodRows(rows, many)
	var want []impl.Row
	if good {
		want = wantJoin(rows, many)
	}
	joined, ok := impl.JoinRows(rows, many)
	if !slices.Equal(joined, want) || ok != good {
		t.Fatalf("JoinRows(%v, %d) = %v, %t, want %v, %t", rows, many, joined, ok, want, good)
	}
	if !good {
		return
	}
	for at := range many {
		a, there := impl.PadFor(rows, many, at)
		b, still := impl.PadFor(joined, many, at)
		if a != b || there != still {
			t.Fatalf("%v, joined %v: at %d the Pads %d, %t and %d, %t", rows, joined, at, a, there, b, still)
		}
	}
	if again, ok := impl.JoinRows(joined, many); !slices.Equal(again, joined) || !ok {
		t.Fatalf("%v, joined again: %v, %t", joined, again, ok)
	}
}

func checkBytes(t *testing.T, rows []impl.Row, many int) {
	t.Helper()
	good, want := wantGoodRows(rows, many), ""
	if good {
		want = wantRowsBytes(rows)
	}
	s, ok := impl.RowsBytes(rows, many)
	if s != want || ok != good || len(s) > impl.MaxBytes {
		t.Fatalf("RowsBytes(%v, %d) = %q, %t, want %q, %t", rows, many, s, ok, want, good)
	}
	if !good {
		return
	}
	if l, code, ok := impl.ReadRows(s, many); !slices.Equal(l, rows) || code != 0 || !ok {
		t.Fatalf("ReadRows(%q, %d) = %v, %d, %t, want %v", s, many, l, code, ok, rows)
	}
	checkReadRows(t, s, many)
}

// checkRows holds all that is told of rows against what is wanted, and tells whether they are good.
func checkRows(t *testing.T, rows []impl.Row, many int) bool {
	t.Helper()
	good := wantGoodRows(rows, many)
	if impl.GoodRows(rows, many) != good {
		t.Fatalf("GoodRows(%v, %d) is to be %t", rows, many, good)
	}
	checkPads(t, rows, many)
	checkJoined(t, rows, many)
	checkBytes(t, rows, many)
	return good
}

func TestGoodRows(t *testing.T) {
	for _, c := range []struct {
		rows string
		many int
		want bool
	}{
		{"", 1, true}, {"", 7, true}, {"0 1 0", 1, true}, {"0 7 6", 7, true}, {"0 3 5, 3 4 5, 5 6 6", 7, true}, {"0 3 5, 3 4 5, 5 6 6", 6, false},
		// It begins where the one ahead ends, one before that, one after.
		{"1 3 0, 3 5 0", 7, true}, {"1 3 0, 2 5 0", 7, false}, {"1 3 0, 4 5 0", 7, true}, {"0 1 0, 1 2 0, 2 3 0", 3, true}, {"0 1 0, 1 2 0, 1 3 0", 3, false}, {"0 1 0, 1 2 0, 0 3 0", 3, false},
		// Going back, and the same twice.
		{"3 5 0, 1 3 0", 7, false}, {"1 3 0, 1 3 0", 7, false}, {"0 7 0, 2 4 0", 7, false},
		// To is From, below it, many, more.
		{"3 3 0", 7, false}, {"0 0 0", 7, false}, {"7 7 0", 7, false}, {"3 4 0", 7, true}, {"3 2 0", 7, false}, {"3 0 0", 7, false}, {"3 -1 0", 7, false}, {"3 7 0", 7, true}, {"3 8 0", 7, false},
		{"6 7 0", 7, true}, {"6 8 0", 7, false}, {"7 8 0", 7, false}, {"0 1 0, 1 1 0", 7, false}, {"0 1 0, 1 1 0, 1 2 0", 7, false}, {"0 9223372036854775807 0", 7, false}, {"0 -9223372036854775808 0", 7, false},
		// From below 0.
		{"-1 1 0", 7, false}, {"-1 0 0", 7, false}, {"-2 -1 0", 7, false}, {"-9223372036854775808 1 0", 7, false}, {"-1 0 0, 0 1 0", 7, false},
		// Pad -1, 0, many - 1, many.
		{"2 4 -1", 7, false}, {"2 4 0", 7, true}, {"2 4 2", 7, true}, {"2 4 6", 7, true}, {"2 4 7", 7, false}, {"2 4 9223372036854775807", 7, false}, {"2 4 -9223372036854775808", 7, false},
		{"0 1 6, 1 2 7", 7, false}, {"0 1 -1, 1 2 6", 7, false}, {"0 1 1", 1, false}, {"0 2 0", 1, false}, {"0 300 299", 300, true}, {"0 300 300", 300, false}, {"299 300 0", 300, true}, {"299 301 0", 300, false},
	} {
		if good := impl.GoodRows(rowsIn(c.rows), c.many); good != c.want {
			t.Errorf("GoodRows(%s, %d) = %t", c.rows, c.many, good)
		}
		checkRows(t, rowsIn(c.rows), c.many)
	}
}

func TestHowManyInstructions(t *testing.T) {
	for _, many := range append(someInts(), -1, 0, 1, 2, 299, 300, 301, 302) {
		good := many >= 1 && many <= impl.MaxIns
		for _, rows := range [][]impl.Row{nil, {}, rowsIn("0 1 0")} {
			if checkRows(t, rows, many) != good || impl.GoodRows(rows, many) != good {
				t.Errorf("many = %d, %v: it is to be %t", many, rows, good)
			}
		}
		checkRows(t, rowsIn("0 1 1"), many)
		checkRows(t, rowsIn("0 2 0"), many)
		checkRows(t, []impl.Row{{From: 0, To: many, Pad: many - 1}}, many)
		checkRows(t, []impl.Row{{From: many - 1, To: many, Pad: 0}}, many)
		for _, s := range []string{"", "\x00", "\x01\x00\x01\x7f", "\x00a", "\x01"} {
			if code := checkReadRows(t, s, many); !good && code != 1 {
				t.Errorf("ReadRows(%q, %d): code %d", s, many, code)
			}
		}
	}
	// One row for each instruction, and more than there can be.
	for _, many := range numbers(1, 2, 299, 300, 301, 600, 100000) {
		rows := manyRows(many).Rows
		for _, places := range numbers(299, 300) {
			if good := checkRows(t, rows, places); good != (many <= places) {
				t.Errorf("%d rows of %d places: %t", many, places, good)
			}
		}
	}
}

func TestPadFor(t *testing.T) {
	rows := rowsIn("0 3 5, 3 4 6, 6 9 0, 10 12 0")
	pads := map[int]int{0: 5, 1: 5, 2: 5, 3: 6, 6: 0, 7: 0, 8: 0, 10: 0, 11: 0}
	for _, many := range numbers(12, 13, 300) {
		for _, at := range placesFor(many) {
			want, there := pads[at]
			if pad, ok := impl.PadFor(rows, many, at); pad != want || ok != there {
				t.Errorf("PadFor(%d, %d) = %d, %t, want %d, %t", many, at, pad, ok, want, there)
			}
		}
	}
	for _, c := range []struct {
		rows     string
		many, at int
		pad      int
		ok       bool
	}{
		{"", 7, 0, 0, false}, {"", 7, 6, 0, false}, {"0 1 0", 1, 0, 0, true}, {"0 1 0", 1, 1, 0, false}, {"0 1 0", 1, -1, 0, false},
		// Ahead of a row, its first and its last place, behind it.
		{"2 5 4", 7, 1, 0, false}, {"2 5 4", 7, 2, 4, true}, {"2 5 4", 7, 4, 4, true}, {"2 5 4", 7, 5, 0, false},
		// many - 1 and many.
		{"0 7 6", 7, 6, 6, true}, {"0 7 6", 7, 7, 0, false}, {"0 7 6", 7, -1, 0, false}, {"6 7 3", 7, 6, 3, true}, {"6 7 3", 7, 7, 0, false}, {"0 6 3", 7, 6, 0, false},
		{"0 300 299", 300, 299, 299, true}, {"0 300 299", 300, 300, 0, false}, {"299 300 1", 300, 299, 1, true}, {"299 300 1", 300, 298, 0, false},
		// Rows that are not good.
		{"0 3 7", 7, 0, 0, false}, {"0 3 5, 2 4 5", 7, 0, 0, false}, {"0 3 5", 0, 0, 0, false}, {"0 3 5", 301, 0, 0, false}, {"0 3 5", -1, 0, 0, false}, {"-3 3 5", 7, 0, 0, false}, {"-3 3 5", 7, -1, 0, false},
	} {
		if pad, ok := impl.PadFor(rowsIn(c.rows), c.many, c.at); pad != c.pad || ok != c.ok {
			t.Errorf("PadFor(%s, %d, %d) = %d, %t, want %d, %t", c.rows, c.many, c.at, pad, ok, c.pad, c.ok)
		}
	}
}

func TestCoverOf(t *testing.T) {
	for _, c := range []struct {
		rows  string
		many  int
		cover []int
	}{
		{"0 3 5, 3 4 5, 5 6 6", 7, numbers(0, 0, 0, 1, -1, 2, -1)}, {"", 1, numbers(-1)}, {"", 4, numbers(-1, -1, -1, -1)}, {"0 1 0", 1, numbers(0)}, {"0 1 0", 2, numbers(0, -1)}, {"1 2 0", 2, numbers(-1, 0)},
		{"0 4 0", 4, numbers(0, 0, 0, 0)}, {"1 3 3", 4, numbers(-1, 0, 0, -1)}, {"0 1 0, 1 2 0, 2 3 0, 3 4 0", 4, numbers(0, 1, 2, 3)}, {"0 1 1, 2 3 1", 5, numbers(0, -1, 1, -1, -1)}, {"3 4 0", 4, numbers(-1, -1, -1, 0)},
	} {
		if l, ok := impl.CoverOf(rowsIn(c.rows), c.many); !slices.Equal(l, c.cover) || !ok {
			t.Errorf("CoverOf(%s, %d) = %v, %t, want %v", c.rows, c.many, l, ok, c.cover)
		}
	}
	if l, ok := impl.CoverOf(nil, 300); !slices.Equal(l, slices.Repeat(numbers(-1), 300)) || !ok {
		t.Errorf("no rows of 300: %v, %t", l, ok)
	}
	if l, ok := impl.CoverOf(manyRows(300).Rows, 300); !slices.Equal(l, upTo(300)) || !ok {
		t.Errorf("300 rows: %v, %t", l, ok)
	}
	for _, rows := range []string{"0 5 0", "0 1 4", "0 2 0, 1 3 0", "-1 1 0", "2 2 0"} {
		if l, ok := impl.CoverOf(rowsIn(rows), 4); len(l) != 0 || ok {
			t.Errorf("CoverOf(%s, 4) = %v, %t", rows, l, ok)
		}
	}
}

func TestJoinRows(t *testing.T) {
	for rows, want := range map[string]string{
		"": "", "2 5 4": "2 5 4", "0 7 6": "0 7 6",
		// That meet with the same Pad, with another Pad, that do not meet.
		"0 3 5, 3 4 5": "0 4 5", "0 3 5, 3 4 6": "0 3 5, 3 4 6", "0 3 5, 4 5 5": "0 3 5, 4 5 5", "0 3 5, 4 5 6": "0 3 5, 4 5 6", "0 3 0, 3 4 0": "0 4 0", "2 4 0, 4 7 0": "2 7 0",
		// Three in a row, of which all, two or none are one.
		"0 1 5, 1 2 5, 2 3 5": "0 3 5", "0 1 5, 1 2 5, 2 3 6": "0 2 5, 2 3 6", "0 1 6, 1 2 5, 2 3 5": "0 1 6, 1 3 5", "0 1 5, 1 2 6, 2 3 5": "0 1 5, 1 2 6, 2 3 5",
		"0 1 5, 1 2 5, 3 4 5": "0 2 5, 3 4 5", "0 1 5, 2 3 5, 3 4 5": "0 1 5, 2 4 5", "0 1 5, 2 3 5, 4 5 5": "0 1 5, 2 3 5, 4 5 5", "0 1 5, 1 2 5, 3 4 5, 4 5 5, 5 6 6, 6 7 6": "0 2 5, 3 5 5, 5 7 6",
		"0 3 5, 3 4 5, 5 6 6": "0 4 5, 5 6 6", "0 1 1, 1 2 1, 2 3 1, 3 4 1, 4 5 1, 5 6 1, 6 7 1": "0 7 1",
	} {
		if l, ok := impl.JoinRows(rowsIn(rows), 7); !slices.Equal(l, rowsIn(want)) || !ok {
			t.Errorf("JoinRows(%s) = %v, %t, want %s", rows, l, ok, want)
		}
		checkRows(t, rowsIn(rows), 7)
	}
	all := manyRows(300).Rows
	for k := range all {
		all[k].Pad = 299
	}
	if l, ok := impl.JoinRows(all, 300); !slices.Equal(l, rowsIn("0 300 299")) || !ok {
		t.Errorf("300 rows that are one: %v, %t", l, ok)
	}
	for _, rows := range []string{"0 3 5, 3 8 5", "0 3 7, 3 4 7", "0 3 5, 2 4 5", "3 4 5, 0 3 5", "0 3 5, 3 3 5", "-1 3 5"} {
		if l, ok := impl.JoinRows(rowsIn(rows), 7); len(l) != 0 || ok {
			t.Errorf("JoinRows(%s) = %v, %t", rows, l, ok)
		}
	}
}

func TestRowsBytes(t *testing.T) {
	for _, c := range []struct {
		rows string
		many int
		text string
	}{
		{"", 1, "\x00"}, {"", 300, "\x00"}, {"0 1 0", 1, "\x01\x00\x01\x7f"}, {"0 4 5, 5 6 6", 7, "\x02\x00\x04\x01\x01\x01\x00"},
		// The Pad ahead of To, at it, behind it.
		{"2 5 0", 7, "\x01\x02\x03\x7b"}, {"2 5 4", 7, "\x01\x02\x03\x7f"}, {"2 5 5", 7, "\x01\x02\x03\x00"}, {"2 5 6", 7, "\x01\x02\x03\x01"},
		// Where From begins anew from the To ahead.
		{"1 2 2, 2 4 4, 5 6 6", 7, "\x03\x01\x01\x00\x00\x02\x00\x01\x01\x00"},
		// Of one byte and of two.
		{"127 128 191", 300, "\x01\x7f\x01\x3f"}, {"128 129 193", 300, "\x01\x80\x01\x01\xc0\x00"}, {"0 127 63", 300, "\x01\x00\x7f\x40"}, {"0 128 63", 300, "\x01\x00\x80\x01\xbf\x7f"},
		{"0 300 0", 300, "\x01\x00\xac\x02\xd4\x7d"}, {"0 1 299", 300, "\x01\x00\x01\xaa\x02"}, {"299 300 299", 300, "\x01\xab\x02\x01\x7f"}, {"0 300 299", 300, "\x01\x00\xac\x02\x7f"},
	} {
		if s, ok := impl.RowsBytes(rowsIn(c.rows), c.many); s != c.text || !ok {
			t.Errorf("RowsBytes(%s, %d) = %q, %t, want %q", c.rows, c.many, s, ok, c.text)
		}
		if rows, code, ok := impl.ReadRows(c.text, c.many); !slices.Equal(rows, rowsIn(c.rows)) || code != 0 || !ok {
			t.Errorf("ReadRows(%q, %d) = %v, %d, %t, want %s", c.text, c.many, rows, code, ok, c.rows)
		}
		checkRows(t, rowsIn(c.rows), c.many)
	}
	for _, rows := range []string{"0 8 0", "0 1 7", "0 1 -1", "2 2 2", "-1 1 0", "0 2 0, 1 3 0"} {
		if s, ok := impl.RowsBytes(rowsIn(rows), 7); s != "" || ok {
			t.Errorf("RowsBytes(%s, 7) = %q, %t", rows, s, ok)
		}
	}
}

// TestLongestTable comes as near to MaxBytes as there is a way to: 300 rows, each Pad so far from To that it takes two bytes; where From or To takes two, there are 127 rows less.
func TestLongestTable(t *testing.T) {
	rows := manyRows(300).Rows
	for k := range rows {
		rows[k].Pad = (k + 150) % 300
	}
	s, ok := impl.RowsBytes(rows, 300)
	if len(s) != 2+4*300 || !ok {
		t.Errorf("%d bytes, %t", len(s), ok)
	}
	checkRows(t, rows, 300)
	if code := checkReadRows(t, s+strings.Repeat("a", impl.MaxBytes-len(s)), 300); code != 4 {
		t.Error("MaxBytes bytes: code", code)
	}
	if code := checkReadRows(t, s+strings.Repeat("a", impl.MaxBytes+1-len(s)), 300); code != 1 {
		t.Error("one byte more: code", code)
	}
}

// codeOfText is what ReadRows is to tell of a text.
type codeOfText struct {
	text string
	many int
	code int
}

func checkCodesOfTexts(t *testing.T, cases []codeOfText) {
	t.Helper()
	for _, c := range cases {
		rows, code, ok := impl.ReadRows(c.text, c.many)
		if code != c.code || ok != (c.code == 0) || c.code != 0 && len(rows) != 0 {
			t.Errorf("ReadRows(%.40q, %d) = %v, %d, %t, want code %d", c.text, c.many, rows, code, ok, c.code)
		}
		checkReadRows(t, c.text, c.many)
	}
}

// noNumber has what ReadU and ReadS do not read.
func noNumber() []string {
	return []string{"", "\x80", "\xff\xff", strings.Repeat("\x80", 9), "\x80\x00", "\x80\x80\x00", strings.Repeat("\x80", 10), strings.Repeat("\xff", 10) + "\x01", strings.Repeat("\xff", 9) + "\x02"}
}

func TestReadRowsWithoutABeginning(t *testing.T) {
	var cases []codeOfText
	for _, s := range noNumber() {
		cases = append(cases, codeOfText{s, 7, 1}, codeOfText{s, 300, 1}, codeOfText{s, 0, 1})
	}
	three := "\x00\x01\x00"
	for _, many := range append(someInts(), 0, 1, 300, 301, -1) {
		code := 1
		if many >= 1 && many <= 300 {
			code = 0
		}
		cases = append(cases, codeOfText{"\x00", many, code})
		if many != 1 {
			cases = append(cases, codeOfText{"\x01" + three, many, code})
		}
	}
	checkCodesOfTexts(t, append(cases, []codeOfText{
		// How many rows there are: MaxIns, one more, more than an int has.
		{bytesOf(301), 300, 1}, {bytesOf(301) + strings.Repeat(three, 301), 300, 1}, {impl.PutU(1 << 32), 300, 1}, {impl.PutU(1 << 63), 300, 1}, {impl.PutU(math.MaxUint64), 300, 1}, {impl.PutU(1<<64-300) + three, 300, 1},
		{bytesOf(300), 300, 2}, {bytesOf(300) + strings.Repeat(three, 299), 300, 2}, {bytesOf(300) + strings.Repeat(three, 300), 300, 3}, {bytesOf(300) + strings.Repeat("\x00\x01\x7f", 300), 300, 0},
		{bytesOf(300) + strings.Repeat("\x00\x01\x7f", 300), 299, 3}, {bytesOf(300) + strings.Repeat("\x00\x01\x7f", 300) + "\x00", 300, 4}, {bytesOf(299) + strings.Repeat("\x00\x01\x7f", 299), 299, 0},
		{bytesOf(128) + strings.Repeat("\x00\x01\x7f", 128), 128, 0},
		// How long the text is: MaxBytes, one more.
		{strings.Repeat("\x00", impl.MaxBytes), 7, 4}, {strings.Repeat("\x00", impl.MaxBytes+1), 7, 1}, {"\x02" + strings.Repeat("\x01", impl.MaxBytes-1), 7, 4}, {"\x02" + strings.Repeat("\x01", impl.MaxBytes), 7, 1},
		{"\x05" + strings.Repeat("\x01", impl.MaxBytes-1), 7, 3}, {"\x05" + strings.Repeat("\x01", impl.MaxBytes), 7, 1}, {"\x05" + strings.Repeat("\x80", impl.MaxBytes-1), 7, 2}, {"\x05" + strings.Repeat("\x80", impl.MaxBytes), 7, 1},
		{strings.Repeat("\x80", impl.MaxBytes), 7, 1}, {strings.Repeat("\x00", 1000000), 7, 1},
	}...))
}

func TestReadRowsWithoutANumber(t *testing.T) {
	var cases []codeOfText
	parts := []string{"\x00", "\x01", "\x01", "\x00", "\x02", "\x01"}
	for k := range parts {
		ahead := "\x02" + strings.Join(parts[:k], "")
		for _, s := range noNumber() {
			cases = append(cases, codeOfText{ahead + s, 7, 2})
			// What has ten bytes is no number, whatever is behind it.
			if len(s) >= 10 {
				cases = append(cases, codeOfText{ahead + s + strings.Join(parts[k:], ""), 7, 2})
			}
		}
		for _, s := range []string{"\x80\x00", "\x80\x80\x00"} {
			cases = append(cases, codeOfText{ahead + s + strings.Join(parts[k+1:], ""), 7, 2})
		}
	}
	checkCodesOfTexts(t, append(cases, []codeOfText{
		{"\x02" + strings.Join(parts, ""), 7, 0}, {"\x01", 7, 2}, {"\x01\x00", 7, 2}, {"\x01\x00\x01", 7, 2}, {"\x01\x00\x01\x01", 7, 0}, {"\x02\x00\x01\x01", 7, 2},
		// Of PutU, but not of PutS, and the other way round.
		{"\x01\xff\x00\x01\x00", 300, 2}, {"\x01\x7f\x01\x00", 300, 0}, {"\x01\x00\x40\x40", 300, 0}, {"\x01\x00\x40\xc0\x7f", 300, 2}, {"\x01\x00\x01\xc0\x00", 300, 0}, {"\x01\x00\x01\xbf\x00", 300, 2}, {"\x01\x00\xff\x7f\x00", 300, 3},
	}...))
}

func TestReadRowsThatAreNotGood(t *testing.T) {
	checkCodesOfTexts(t, []codeOfText{
		// To less From is 0, To is many, more.
		{bytesOf(1, 0, 0, 0), 7, 3}, {bytesOf(1, 3, 0, 1), 7, 3}, {bytesOf(1, 3, 4, -1), 7, 0}, {bytesOf(1, 3, 5, -2), 7, 3}, {bytesOf(1, 7, 0, -1), 7, 3}, {bytesOf(1, 7, 1, -2), 7, 3}, {bytesOf(1, 6, 1, -7), 7, 0},
		{bytesOf(2, 0, 1, 0, 0, 0, 1), 7, 3}, {bytesOf(2, 0, 3, 0, 0, 4, -1), 7, 0}, {bytesOf(2, 0, 3, 0, 0, 5, -2), 7, 3}, {bytesOf(2, 0, 3, 0, 1, 4, -2), 7, 3}, {bytesOf(2, 0, 7, -1, 0, 1, -2), 7, 3},
		// Pad -1, 0, many - 1, many.
		{bytesOf(1, 2, 2, -5), 7, 3}, {bytesOf(1, 2, 2, -4), 7, 0}, {bytesOf(1, 2, 2, 2), 7, 0}, {bytesOf(1, 2, 2, 3), 7, 3}, {bytesOf(2, 0, 1, 6, 0, 1, 0), 7, 3}, {bytesOf(2, 0, 1, 0, 0, 1, 5), 7, 3}, {bytesOf(1, 0, 1, 0), 1, 3},
		// Of a few too few places.
		{bytesOf(2, 0, 4, 1, 1, 1, 0), 7, 0}, {bytesOf(2, 0, 4, 1, 1, 1, 0), 6, 3}, {bytesOf(8, 0, 1, 0, 0, 1, 0, 0, 1, 0, 0, 1, 0, 0, 1, 0, 0, 1, 0, 0, 1, 0, 0, 1, 0), 7, 3},
	})
}

// TestReadRowsOfGreatNumbers has numbers around a million, and those with which a sum would wrap round to a good one.
func TestReadRowsOfGreatNumbers(t *testing.T) {
	var cases []codeOfText
	great := []uint64{999999, 1000000, 1000001, greatest, 1 << 32, 1<<32 + 1, math.MaxInt64 - 1, math.MaxInt64, 1 << 63, 1<<63 + 1, 1<<64 - 1000001, 1<<64 - 1000000, 1<<64 - 300}
	for n := range uint64(12) {
		great = append(great, -n-1)
	}
	first := bytesOf(2, 0, 3, 1)
	for _, n := range great {
		for _, many := range numbers(7, 300) {
			cases = append(cases, codeOfText{"\x01" + impl.PutU(n) + "\x01\x01", many, 3}, codeOfText{"\x01\x03" + impl.PutU(n) + "\x00", many, 3}, codeOfText{first + impl.PutU(n) + "\x01\x01", many, 3})
			cases = append(cases, codeOfText{first + "\x00" + impl.PutU(n) + "\x01", many, 3}, codeOfText{first + impl.PutU(n) + impl.PutU(-n) + "\x00", many, 3}, codeOfText{"\x01" + impl.PutU(n) + impl.PutU(3-n) + "\x00", many, 3})
			// The same wrapped round as From, as To, and with the Pad set right.
			cases = append(cases, codeOfText{"\x01\x05" + impl.PutU(n) + impl.PutS(-int(n)), many, 3}, codeOfText{"\x01" + impl.PutU(n) + "\x01" + impl.PutS(-int(n)), many, 3})
			for _, jump := range []int{int(n), -int(n)} {
				if jump > 300 || jump < -300 {
					cases = append(cases, codeOfText{"\x01\x00\x05" + impl.PutS(jump), many, 3}, codeOfText{first + "\x00\x02" + impl.PutS(jump), many, 3}, codeOfText{first + "\x00\x02" + impl.PutS(jump) + "a", many, 3})
					cases = append(cases, codeOfText{first + "\x00\x02" + impl.PutS(jump)[:1], many, 2})
				}
			}
		}
	}
	for _, jump := range []int{math.MinInt, math.MinInt + 1, math.MaxInt, -1000000, -1000001} {
		cases = append(cases, codeOfText{"\x01\x00\x05" + impl.PutS(jump), 7, 3}, codeOfText{"\x02\x00\x01" + impl.PutS(jump) + "\x00\x01\x00", 7, 3}, codeOfText{"\x02\x00\x01" + impl.PutS(jump) + "\x00\x01", 7, 2})
	}
	checkCodesOfTexts(t, cases)
}

// TestReadRowsFaultsInTheirOrder has every set of faults; where two hold the one with the lesser code counts, wherever it stands.
func TestReadRowsFaultsInTheirOrder(t *testing.T) {
	for bits := range 1 << 6 {
		has := func(k int) bool { return bits>>k&1 == 1 }
		many, count, first, second, want := 7, "\x02", "\x00\x03\x01", "\x00\x02\x01", 0
		if has(0) {
			second, want = second+"\x00", 4
		}
		if has(1) {
			second, want = "\x00\x00"+second[2:], 3
		}
		if has(2) {
			first, want = impl.PutU(1000001)+first[1:], 3
		}
		if has(3) {
			second, want = second[:1]+"\x80\x00", 2
		}
		if has(4) {
			count, want = "\x80\x00", 1
		}
		if has(5) {
			many, want = 301, 1
		}
		checkCodesOfTexts(t, []codeOfText{{count + first + second, many, want}})
	}
	checkCodesOfTexts(t, []codeOfText{
		// Rows that are not good ahead of a number that is not read, and of more behind.
		{bytesOf(2, 9, 1, 0), 7, 2}, {bytesOf(2, 0, 0, 0, 0), 7, 2}, {bytesOf(2, 0, 0, 0, 0, 1), 7, 2}, {bytesOf(2, 0, 0, 0) + "\x00\x80\x00\x00", 7, 2}, {bytesOf(1, 0, 0, 0) + "a", 7, 3}, {bytesOf(1, 0, 1, 0) + "a", 7, 4},
		{bytesOf(1, 0, 1, 0) + "\x80", 7, 4}, {bytesOf(1, 0, 1, 0, 0, 1, 0), 7, 4}, {bytesOf(0, 0), 7, 4}, {bytesOf(0) + strings.Repeat("\xff", 30), 7, 4}, {"\x00\x80\x00", 1, 4}, {bytesOf(301), 301, 1},
	})
}

// goodLists has all lists of good rows of so many places.
func goodLists(many, from int) [][]impl.Row {
	lists := [][]impl.Row{nil}
	for begin := from; begin < many; begin++ {
		for to := begin + 1; to <= many; to++ {
			rest := goodLists(many, to)
			for pad := range many {
				for _, l := range rest {
					lists = append(lists, append([]impl.Row{{From: begin, To: to, Pad: pad}}, l...))
				}
			}
		}
	}
	return lists
}

func TestAllListsOfGoodRows(t *testing.T) {
	for many, want := range map[int]int{1: 2, 2: 11, 3: 91, 4: 985, 5: 13201} {
		lists, texts := goodLists(many, 0), map[string]bool{}
		for _, rows := range lists {
			if !checkRows(t, rows, many) {
				t.Fatalf("not good: %v", rows)
			}
			s, _ := impl.RowsBytes(rows, many)
			texts[s] = true
		}
		if len(lists) != want || len(texts) != want {
			t.Errorf("many = %d: %d lists, %d texts, want %d", many, len(lists), len(texts), want)
		}
	}
}

func TestAllListsOfTwoRows(t *testing.T) {
	var all []impl.Row
	for from := -1; from <= 4; from++ {
		for to := -1; to <= 4; to++ {
			for pad := -1; pad <= 3; pad++ {
				all = append(all, impl.Row{From: from, To: to, Pad: pad})
			}
		}
	}
	good := 0
	for _, a := range all {
		checkRows(t, []impl.Row{a}, 3)
		checkRows(t, []impl.Row{a}, 1)
		for _, b := range all {
			if rows := []impl.Row{a, b}; impl.GoodRows(rows, 3) != wantGoodRows(rows, 3) {
				t.Fatalf("GoodRows(%v, 3)", rows)
			} else if wantGoodRows(rows, 3) {
				good++
				checkRows(t, rows, 3)
			}
		}
	}
	if good != 5*9 {
		t.Errorf("%d good lists of two rows", good)
	}
}

// textsOf has all texts of so many bytes out of some.
func textsOf(some string, many int) []string {
	texts := []string{""}
	for range many {
		var longer []string
		for _, s := range texts {
			for k := range len(some) {
				longer = append(longer, s+some[k:k+1])
			}
		}
		texts = longer
	}
	return texts
}

func TestReadRowsOfAllShortTexts(t *testing.T) {
	seen := map[int]int{}
	var every []byte
	for b := range 256 {
		every = append(every, byte(b))
	}
	for _, many := range numbers(1, 3) {
		for long := range 6 {
			for _, s := range textsOf("\x00\x01\x02\x7f\x80\xff", long) {
				seen[checkReadRows(t, s, many)]++
			}
		}
		for _, s := range textsOf("\x00\x01\x02\x7e", 7) {
			seen[checkReadRows(t, s, many)]++
		}
		for _, s := range textsOf(string(every), 2) {
			seen[checkReadRows(t, s, many)]++
			seen[checkReadRows(t, "\x01\x00"+s, many)]++
		}
	}
	for code, least := range []int{30, 1000, 1000, 1000, 1000} {
		if seen[code] < least {
			t.Errorf("code %d is told only %d times", code, seen[code])
		}
	}
}

// randomRows is of rows that touch or do not, with Pads that are often the same.
func randomRows(r *rand.Rand, many int) []impl.Row {
	var rows []impl.Row
	wide := 1 + r.Intn(1+r.Intn(many))
	pads := numbers(r.Intn(many), r.Intn(many))
	for from := r.Intn(many); from < many; {
		to := min(from+1+r.Intn(wide), many)
		pad := pads[r.Intn(2)]
		if r.Intn(4) == 0 {
			pad = r.Intn(many)
		}
		rows = append(rows, impl.Row{From: from, To: to, Pad: pad})
		from = to + r.Intn(3)*r.Intn(wide)
	}
	return rows
}

func randomMany(r *rand.Rand) int {
	if r.Intn(3) == 0 {
		return 300 - r.Intn(3)
	}
	return 1 + r.Intn(1+r.Intn(300))
}

func TestRandomRows(t *testing.T) {
	r := rand.New(rand.NewSource(71))
	most, joins := 0, 0
	for range 1500 {
		many := randomMany(r)
		rows := randomRows(r, many)
		if !checkRows(t, rows, many) {
			t.Fatalf("not good: %v of %d", rows, many)
		}
		joined, _ := impl.JoinRows(rows, many)
		most, joins = max(most, len(rows)), joins+len(rows)-len(joined)
	}
	if most < 200 || joins < 1000 {
		t.Errorf("at most %d rows, %d were joined", most, joins)
	}
}

func TestSpoiledRows(t *testing.T) {
	r := rand.New(rand.NewSource(72))
	good, bad := 0, 0
	for range 4000 {
		many := randomMany(r)
		rows := randomRows(r, many)
		for range 1 + r.Intn(2) {
			k := r.Intn(len(rows))
			field := [...]*int{&rows[k].From, &rows[k].To, &rows[k].Pad}[r.Intn(3)]
			switch r.Intn(6) {
			case 0:
				rows = slices.Insert(rows, k, rows[r.Intn(len(rows))])
			case 1:
				*field = someInts()[r.Intn(len(someInts()))]
			case 2:
				*field = many + r.Intn(3) - 1
			default:
				*field += r.Intn(5) - 2
			}
		}
		if checkRows(t, rows, many) {
			good++
		} else {
			bad++
		}
	}
	if good < 500 || bad < 2000 {
		t.Errorf("%d good, %d bad", good, bad)
	}
}

// spoilText changes, leaves out or adds a byte, or cuts the text.
func spoilText(r *rand.Rand, s string) string {
	at := r.Intn(len(s) + 1)
	some := string([]byte{[]byte{0, 1, 2, 63, 64, 127, 128, 255, byte(r.Intn(256))}[r.Intn(9)]})
	behind := min(at+1, len(s))
	switch r.Intn(6) {
	case 0:
		return s[:at]
	case 1:
		return s[:at] + s[behind:]
	case 2:
		return s[:at] + some + s[at:]
	case 3:
		return s + some
	}
	return s[:at] + some + s[behind:]
}

func TestReadRowsOfSpoiledTexts(t *testing.T) {
	r := rand.New(rand.NewSource(73))
	seen := map[int]int{}
	for range 3000 {
		many := randomMany(r)
		s, _ := impl.RowsBytes(randomRows(r, many), many)
		for range 10 {
			text := s
			for range 1 + r.Intn(2) {
				text = spoilText(r, text)
			}
			seen[checkReadRows(t, text, many)]++
		}
		checkReadRows(t, s, many+r.Intn(5)-2)
	}
	for code := range 5 {
		if seen[code] < 200 {
			t.Errorf("code %d is told only %d times", code, seen[code])
		}
	}
}

func TestReadRowsOfWildTexts(t *testing.T) {
	r := rand.New(rand.NewSource(74))
	for range 20000 {
		text := make([]byte, r.Intn(40))
		for k := range text {
			text[k] = byte(r.Intn(256)) & byte(r.Intn(256))
		}
		if len(text) > 0 && r.Intn(2) == 0 {
			text[0] = byte(r.Intn(5))
		}
		checkReadRows(t, string(text), r.Intn(303)-1)
		checkReadRows(t, string(text), someInts()[r.Intn(len(someInts()))])
	}
}

func TestWildRows(t *testing.T) {
	r := rand.New(rand.NewSource(75))
	some := append(someInts(), upTo(20)...)
	pick := func() int { return some[r.Intn(len(some))] }
	for range 5000 {
		var rows []impl.Row
		for range r.Intn(4) {
			rows = append(rows, impl.Row{From: pick(), To: pick(), Pad: pick()})
		}
		checkRows(t, rows, pick())
	}
	far := slices.Repeat(rowsIn("0 1 0"), 1000000)
	for _, many := range numbers(1, 7, 300) {
		checkRows(t, far, many)
		checkRows(t, make([]impl.Row, 1000000), many)
	}
}

// TestRowsOfImages holds the rows of codes against the fault 4 of chapter 5, and those of lowered programs against the pads that chapter 6 tells.
func TestRowsOfImages(t *testing.T) {
	r := rand.New(rand.NewSource(76))
	for range 200 {
		x := randomImage(r)
		for _, c := range x.Codes {
			if !checkRows(t, c.Rows, len(c.Ins)) {
				t.Fatalf("not good: %v", c)
			}
		}
		c := x.Codes[0]
		ends := slices.Repeat([]impl.Ins{ins(impl.InEnd, 0)}, len(c.Ins))
		for range 20 {
			rows := slices.Clone(c.Rows)
			row := &rows[r.Intn(len(rows))]
			*[...]*int{&row.From, &row.To, &row.Pad}[r.Intn(3)] += r.Intn(5) - 2
			fault, _ := impl.GoodCode(imageOf(impl.Code{Ins: ends, Rows: rows}), 0)
			if good := impl.GoodRows(rows, len(ends)); good != (fault == 0) || !good && fault != 4 {
				t.Fatalf("%v of %d: %t, but the fault %d", rows, len(ends), good, fault)
			}
		}
	}
	for range 300 {
		x, _ := impl.LowerProg(livelyProg(r))
		for _, c := range x.Codes {
			pad, _ := impl.PadOf(c)
			for at := range c.Ins {
				want := max(pad, at+1)
				if at == len(c.Ins)-1 {
					want = 0
				}
				if n, ok := impl.PadFor(c.Rows, len(c.Ins), at); n != want || ok != (want > 0) {
					t.Fatalf("at %d of %v: %d, %t, want %d", at, c, n, ok, want)
				}
			}
		}
	}
}

func TestRowsLeaveTheirArguments(t *testing.T) {
	r := rand.New(rand.NewSource(77))
	for round := range 300 {
		many := randomMany(r)
		rows := randomRows(r, many)
		if round%3 == 0 {
			rows[r.Intn(len(rows))].Pad = many
		}
		last := rows[len(rows)-1]
		// Behind the length is what would be joined, and what is not good.
		for _, junk := range [][]impl.Row{{{From: last.To, To: last.To + 1, Pad: last.Pad}, last}, {{From: -1, To: -1, Pad: -1}}} {
			l := spare(rows, junk...)
			was := slices.Clone(l[:cap(l)])
			checkRows(t, l, many)
			checkRows(t, l[:0], many)
			checkRows(t, l[:len(l)/2], many)
			if now := l[:cap(l)]; !reflect.DeepEqual(now, was) {
				t.Fatalf("%v became %v", was, now)
			}
		}
	}
}

// scribbleRows writes all over a list of rows, and behind it.
func scribbleRows(rows []impl.Row) {
	for k := range rows[:cap(rows)] {
		rows[:cap(rows)][k] = impl.Row{From: 99, To: 99, Pad: 99}
	}
}

func TestAnswersOfTablesAreNewMemory(t *testing.T) {
	for _, text := range []string{"", "2 5 4", "0 3 5, 3 4 5, 5 6 6", "0 1 1, 2 3 2", "0 1 5, 1 2 5, 2 3 5"} {
		rows := spare(rowsIn(text), impl.Row{From: 6, To: 7, Pad: 6})
		was := slices.Clone(rows[:cap(rows)])
		s, _ := impl.RowsBytes(rows, 7)
		for range 3 {
			joined, _ := impl.JoinRows(rows, 7)
			other, _ := impl.JoinRows(rows, 7)
			read, _, _ := impl.ReadRows(s, 7)
			again, _, _ := impl.ReadRows(s, 7)
			cover, _ := impl.CoverOf(rows, 7)
			covered, _ := impl.CoverOf(rows, 7)
			scribbleRows(joined)
			scribbleRows(read)
			scribble(cover)
			if !slices.Equal(other, wantJoin(rowsIn(text), 7)) || !slices.Equal(again, rowsIn(text)) || !slices.Equal(covered, wantCover(rowsIn(text), 7)) {
				t.Fatalf("%s: %v, %v, %v", text, other, again, covered)
			}
			if now := rows[:cap(rows)]; !slices.Equal(now, was) {
				t.Fatalf("%v became %v", was, now)
			}
			checkRows(t, rows, 7)
		}
	}
}
