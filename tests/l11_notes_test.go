package tests

import (
	"fmt"
	"math"
	"math/rand"
	"reflect"
	"slices"
	"sort"
	"strconv"
	"strings"
	"testing"

	"loop.example/g00745/impl"
)

func put(id, site int) impl.Note { return impl.Note{Kind: impl.NtPut, Id: id, Site: site} }
func off(id, site int) impl.Note { return impl.Note{Kind: impl.NtOff, Id: id, Site: site} }
func ends(id int) impl.Note      { return impl.Note{Kind: impl.NtEnd, Id: id} }

// noted reads notes in their text: "+0/1 -0/1 .0".
func noted(text string) []impl.Note {
	var l []impl.Note
	for _, word := range strings.Fields(text) {
		id, site, _ := strings.Cut(word[1:], "/")
		n := impl.Note{Kind: strings.IndexByte(" +-.", word[0])}
		n.Id, _ = strconv.Atoi(id)
		n.Site, _ = strconv.Atoi(site)
		l = append(l, n)
	}
	return l
}

// notesFit has the bounds by number, as the document has them.
func notesFit(l []impl.Note) bool {
	if len(l) > 3000 {
		return false
	}
	for _, n := range l {
		most, known := map[int]int{1: 3, 2: 3, 3: 0}[n.Kind]
		if !known || n.Id < 0 || n.Id > 1000000 || n.Site < 0 || n.Site > most {
			return false
		}
	}
	return true
}

// hasNote looks through all notes for one.
func hasNote(l []impl.Note, n impl.Note) bool {
	for _, m := range l {
		if m == n {
			return true
		}
	}
	return false
}

// faultOf looks through the notes ahead anew for each of the codes.
func faultOf(ahead []impl.Note, n impl.Note) int {
	last, waiting, offs := -1, 0, false
	for _, m := range ahead {
		if m.Id != n.Id {
			continue
		}
		if m.Kind == impl.NtPut && !hasNote(ahead, off(m.Id, m.Site)) {
			last = m.Site
			waiting++
		}
		offs = offs || m.Kind == impl.NtOff
	}
	switch {
	case hasNote(ahead, ends(n.Id)):
		return 1
	case n.Kind == impl.NtPut && hasNote(ahead, n):
		return 2
	case n.Kind == impl.NtOff && n.Site != last:
		return 3
	case n.Kind == impl.NtPut && offs:
		return 4
	case n.Kind == impl.NtEnd && waiting > 0:
		return 5
	}
	return 0
}

func wantCheck(l []impl.Note) (int, int) {
	for k, n := range l {
		if fault := faultOf(l[:k], n); fault > 0 {
			return fault, k
		}
	}
	return 0, len(l)
}

// wantOpen asks of each pair by itself, in rising order.
func wantOpen(l []impl.Note) [][]int {
	var ids []int
	for _, n := range l {
		ids = append(ids, n.Id)
	}
	sort.Ints(ids)
	var pairs [][]int
	for _, id := range slices.Compact(ids) {
		for site := range 4 {
			if hasNote(l, put(id, site)) && !hasNote(l, off(id, site)) {
				pairs = append(pairs, []int{id, site})
			}
		}
	}
	return pairs
}

func wantNoted(l []impl.Note, kind, id int) []int {
	var sites []int
	for _, n := range l {
		if n.Kind == kind && n.Id == id {
			sites = append(sites, n.Site)
		}
	}
	return sites
}

func wantEnds(l []impl.Note) []int {
	var ids []int
	for _, n := range l {
		if n.Kind == impl.NtEnd {
			ids = append(ids, n.Id)
		}
	}
	return ids
}

func samePairs(a, b [][]int) bool {
	return slices.EqualFunc(a, b, slices.Equal[[]int])
}

func someNotes(l []impl.Note) string {
	return fmt.Sprintf("%d notes, %v", len(l), l[:min(len(l), 12)])
}

func expectCheck(t *testing.T, l []impl.Note, want, at int, there bool) {
	t.Helper()
	if code, k, ok := impl.CheckNotes(l); code != want || k != at || ok != there {
		t.Fatalf("CheckNotes(%s): %d, %d, %t; want %d, %d, %t", someNotes(l), code, k, ok, want, at, there)
	}
}

func expectOpen(t *testing.T, l []impl.Note, want [][]int, there bool) {
	t.Helper()
	if pairs, ok := impl.OpenIn(l); !samePairs(pairs, want) || ok != there {
		t.Fatalf("OpenIn(%s): %v, %t; want %v, %t", someNotes(l), pairs, ok, want, there)
	}
}

func expectSites(t *testing.T, l []impl.Note, id int, puts, starts []int, there bool) {
	t.Helper()
	if sites, ok := impl.PutsOf(l, id); !slices.Equal(sites, puts) || ok != there {
		t.Fatalf("PutsOf(%s, %d): %v, %t; want %v, %t", someNotes(l), id, sites, ok, puts, there)
	}
	if sites, ok := impl.StartsOf(l, id); !slices.Equal(sites, starts) || ok != there {
		t.Fatalf("StartsOf(%s, %d): %v, %t; want %v, %t", someNotes(l), id, sites, ok, starts, there)
	}
}

func expectEnds(t *testing.T, l []impl.Note, want []int, there bool) {
	t.Helper()
	if ids, ok := impl.EndsIn(l); !slices.Equal(ids, want) || ok != there {
		t.Fatalf("EndsIn(%s): %v, %t; want %v, %t", someNotes(l), ids, ok, want, there)
	}
}

func expectText(t *testing.T, l []impl.Note, want string, there bool) {
	t.Helper()
	if text, ok := impl.NotesText(l); text != want || ok != there {
		t.Fatalf("NotesText(%s): %q, %t; want %q, %t", someNotes(l), text, ok, want, there)
	}
}

// checkNotes asks everything of notes, and of some Ids, and tells which fault they have.
func checkNotes(t *testing.T, l []impl.Note, ids ...int) int {
	t.Helper()
	if !notesFit(l) {
		expectNoAnswer(t, l, ids...)
		return -1
	}
	fault, at := wantCheck(l)
	expectCheck(t, l, fault, at, true)
	expectOpen(t, l, wantOpen(l), true)
	expectEnds(t, l, wantEnds(l), true)
	expectText(t, l, notesText(l), true)
	for _, id := range ids {
		expectSites(t, l, id, wantNoted(l, impl.NtPut, id), wantNoted(l, impl.NtOff, id), id >= 0 && id <= 1000000)
	}
	return fault
}

func expectNoAnswer(t *testing.T, l []impl.Note, ids ...int) {
	t.Helper()
	expectCheck(t, l, 0, 0, false)
	expectOpen(t, l, nil, false)
	expectEnds(t, l, nil, false)
	expectText(t, l, "", false)
	for _, id := range ids {
		expectSites(t, l, id, nil, nil, false)
	}
}

// someIds are Ids around their bounds, and around those of all numbers.
func someIds() []int {
	return append(someInts(), -1, 0, 1, 2, 999999, 1000000, 1000001)
}

func TestBoundsOfNotes(t *testing.T) {
	ids := someIds()
	sites := append(someInts(), -1, 0, 1, 2, 3, 4, 5)
	ahead := noted("+7/0 +7/1 -7/1")
	behind := noted("-7/0 .7")
	for kind := -1; kind <= 5; kind++ {
		for _, id := range ids {
			for _, site := range sites {
				n := impl.Note{Kind: kind, Id: id, Site: site}
				fits := kind >= 1 && kind <= 3 && id >= 0 && id <= 1000000 && site >= 0 && site <= 3 && (kind != 3 || site == 0)
				for _, l := range [][]impl.Note{{n}, slices.Concat(ahead, []impl.Note{n}, behind), slices.Concat(ahead, behind, []impl.Note{n}), {n, n}} {
					if is := checkNotes(t, l, id, 7) >= 0; is != fits {
						t.Fatalf("%v: %t", l, is)
					}
				}
			}
		}
	}
	for _, n := range append(someInts(), math.MinInt, math.MaxInt) {
		checkNotes(t, []impl.Note{{Kind: n}}, 0)
	}
	for _, n := range oddNotes() {
		checkNotes(t, []impl.Note{n}, 0, n.Id)
	}
	if impl.MaxSites != 4 || impl.NtPut != 1 || impl.NtOff != 2 || impl.NtEnd != 3 {
		t.Error("the bounds of notes are others")
	}
}

// runNotes are notes without a fault of so many frames: each puts off four calls and does them.
func runNotes(frames, from int) []impl.Note {
	var l []impl.Note
	for id := from; id < from+frames; id++ {
		for site := range 4 {
			l = append(l, put(id, site))
		}
		for site := range 4 {
			l = append(l, off(id, 3-site))
		}
		l = append(l, ends(id))
	}
	return l
}

func TestHowManyNotes(t *testing.T) {
	for _, many := range numbers(0, 1, 2, 2998, 2999, 3000, 3001, 3002, 6000, 9000) {
		for _, l := range [][]impl.Note{
			runNotes(1000, 0)[:many], slices.Repeat([]impl.Note{put(0, 0)}, many), slices.Repeat([]impl.Note{off(1000000, 3)}, many), slices.Repeat([]impl.Note{ends(4)}, many),
		} {
			if len(l) != many {
				t.Fatal(len(l))
			}
			fits := checkNotes(t, l, 0, 1, 4, 332, 333, 334, 1000000) >= 0
			if fits != (many <= 3000) {
				t.Fatalf("%d notes: %t", many, fits)
			}
		}
	}
	expectCheck(t, nil, 0, 0, true)
	expectCheck(t, []impl.Note{}, 0, 0, true)
	expectCheck(t, runNotes(334, 0)[:3000], 0, 3000, true)
	expectNoAnswer(t, runNotes(334, 0)[:3001], 0)
	expectNoAnswer(t, make([]impl.Note, 1000000), 0)
	expectNoAnswer(t, slices.Repeat([]impl.Note{put(0, 0)}, 1000000), 0)
}

// TestFaultsOfNotes has each code at the first place where it can be, in the middle and at the last place.
func TestFaultsOfNotes(t *testing.T) {
	for _, c := range []struct {
		name string
		text string
		code int
		at   int
	}{
		{"none", "", 0, 0},
		{"a call is put off", "+0/0", 0, 1},
		{"and is made", "+0/0 -0/0", 0, 2},
		{"and its frame ends", "+0/0 -0/0 .0", 0, 3},
		{"an end without any other note", ".5", 0, 1},
		{"ends of many", ".5 .4 .6 .0 .1000000", 0, 5},
		{"four calls, in reverse order", "+0/0 +0/1 +0/2 +0/3 -0/3 -0/2 -0/1 -0/0 .0", 0, 9},
		{"put off in another order", "+0/2 +0/0 +0/3 -0/3 -0/0 -0/2 .0", 0, 7},
		{"two frames, one within the other", "+0/0 +0/1 -0/1 +1/0 +1/1 -1/1 -1/0 .1 -0/0 .0", 0, 10},
		{"two frames, mixed", "+0/0 +1/3 +0/1 +1/1 -0/1 -1/1 -1/3 -0/0 .1 .0", 0, 10},
		{"one frame's ended while the other one's are open", "+3/1 +2/1 -3/1 .3 -2/1 .2", 0, 6},
		{"a put of one behind an off of the other", "+0/0 -0/0 +1/0", 0, 3},
		{"a put of one behind the end of the other", "+0/0 -0/0 .0 +1/0 -1/0 .1", 0, 6},

		{"1: an end twice", ".0 .0", 1, 1},
		{"1: an end twice, not side by side", "+1/0 .0 -1/0 .0 .1", 1, 3},
		{"1: an end twice, at last", "+0/0 -0/0 .0 .0", 1, 3},
		{"1: a put behind the end", ".0 +0/0 .1", 1, 1},
		{"1: a put of a site that had one", "+0/0 -0/0 .0 +0/0", 1, 3},
		{"1: an off behind the end", ".0 -0/0", 1, 1},
		{"1: an off of a site that had one", "+0/0 -0/0 .0 -0/0 .1", 1, 3},
		{"1: the greatest Id", ".1000000 +1000000/3", 1, 1},

		{"2: twice", "+0/0 +0/0", 2, 1},
		{"2: twice, with another one between", "+0/0 +0/1 +0/0 -0/0", 2, 2},
		{"2: twice, the last one", "+0/3 +0/1 +1/1 +0/1", 2, 3},
		{"2: had its off", "+0/0 -0/0 +0/0", 2, 2},
		{"2: had its off, another one is open", "+0/2 +0/1 -0/1 +0/1 .1", 2, 3},

		{"3: the first of all", "-0/0", 3, 0},
		{"3: the first of all, more behind", "-1000000/3 +0/0 .0", 3, 0},
		{"3: never put", "+0/0 -0/1", 3, 1},
		{"3: put by another one", "+0/0 -1/0 -0/0", 3, 1},
		{"3: below the last one that is open", "+0/0 +0/1 -0/0 -0/1", 3, 2},
		{"3: the lowest of three", "+0/0 +0/1 +0/2 -0/2 -0/0 -0/1 .0", 3, 4},
		{"3: the last put is not the greatest site", "+0/1 +0/0 -0/1", 3, 2},
		{"3: off twice", "+0/0 -0/0 -0/0", 3, 2},
		{"3: off twice, another one is open", "+0/0 +0/1 -0/1 -0/1 -0/0", 3, 3},
		{"3: put only later", "-0/0 +0/0", 3, 0},

		{"4: behind an off", "+0/0 -0/0 +0/1", 4, 2},
		{"4: behind an off, another one is open", "+0/0 +0/1 -0/1 +0/2 -0/2", 4, 3},
		{"4: behind an off of long ago", "+0/0 +0/1 +0/2 -0/2 -0/1 +1/0 -1/0 .1 -0/0 +0/3 .0", 4, 9},

		{"5: one is open", "+0/0 .0", 5, 1},
		{"5: one is still open", "+0/0 +0/1 -0/1 .0 -0/0", 5, 3},
		{"5: all four are open", "+0/0 +0/1 +0/2 +0/3 .0", 5, 4},
		{"5: the other one's are not", "+1/0 +0/0 -1/0 .1 .0", 5, 4},
		{"5: in the middle", "+1/0 +0/0 .0 -1/0 .1", 5, 2},

		{"1 and 2", "+0/0 -0/0 .0 +0/0 .0", 1, 3},
		{"1 and 3", "+0/0 -0/0 .0 -0/1", 1, 3},
		{"1 and 4", "+0/0 -0/0 .0 +0/1", 1, 3},
		{"2 and 4", "+0/1 +0/0 -0/0 +0/0", 2, 3},
		{"5 ahead of 1", "+0/0 .0 .0", 5, 1},
		{"3 ahead of 2", "+0/0 -0/1 +0/0", 3, 1},
		{"4 ahead of 1", "+0/0 -0/0 +0/1 .0 .0", 4, 2},
		{"5 ahead of 1, of unlike Ids", "+7/2 .3 .7 .3", 5, 2},
		{"2 ahead of 3, of unlike Ids", "+0/0 +0/0 -1/0", 2, 1},
	} {
		t.Run(c.name, func(t *testing.T) {
			l := noted(c.text)
			expectCheck(t, l, c.code, c.at, true)
			expectText(t, l, c.text, true)
			checkNotes(t, l, 0, 1, 2, 3, 4, 5, 6, 7, 1000000)
			// All that is ahead of a fault is right, and what is behind does not count.
			for many := range c.at + 1 {
				expectCheck(t, l[:many], 0, many, true)
			}
			if c.code != 0 {
				for _, n := range oneOfEach(0) {
					expectCheck(t, append(slices.Clone(l), n), c.code, c.at, true)
				}
			}
			// Notes of other Ids change the number, and not the code.
			others := runNotes(20, 500)
			expectCheck(t, append(slices.Clone(others), l...), c.code, c.at+len(others), true)
			if c.code == 0 {
				c.at += len(others)
			}
			expectCheck(t, append(slices.Clone(l), others...), c.code, c.at, true)
		})
	}
}

// oneOfEach has all notes that there can be of an Id.
func oneOfEach(id int) []impl.Note {
	l := []impl.Note{ends(id)}
	for site := range 4 {
		l = append(l, put(id, site), off(id, site))
	}
	return l
}

// TestNotesOfManyFrames has a fault in one of many frames whose notes are mixed.
func TestNotesOfManyFrames(t *testing.T) {
	const frames = 300
	var l []impl.Note
	for _, n := range runNotes(1, 0) {
		for id := range frames {
			n.Id = id * 3000
			l = append(l, n)
		}
	}
	expectCheck(t, l, 0, 9*frames, true)
	expectOpen(t, l, nil, true)
	for k, n := range l {
		if k%61 != 0 {
			continue
		}
		m := slices.Clone(l)
		for _, m[k] = range oneOfEach(n.Id) {
			checkNotes(t, m, n.Id, 0, 3000)
		}
	}
}

func TestOpenInNotes(t *testing.T) {
	for _, c := range []struct {
		text string
		want [][]int
	}{
		{"", nil},
		{".0 .1", nil},
		{"+0/0", [][]int{{0, 0}}},
		{"+0/0 -0/0", nil},
		{"+0/0 +0/1 -0/1 +1/0", [][]int{{0, 0}, {1, 0}}},
		{"+9/3 +10/1 +2/2 +1000000/0 +0/3", [][]int{{0, 3}, {2, 2}, {9, 3}, {10, 1}, {1000000, 0}}},
		{"+0/3 +0/1 +0/2 +0/0", [][]int{{0, 0}, {0, 1}, {0, 2}, {0, 3}}},
		{"+5/3 +4/0 +5/0 +4/3", [][]int{{4, 0}, {4, 3}, {5, 0}, {5, 3}}},
		{"+5/3 +4/0 +5/0 +4/3 -4/3 -5/0", [][]int{{4, 0}, {5, 3}}},
		{"+0/0 .0", [][]int{{0, 0}}},
		{"+0/0 +0/1 .0 .0 +0/2", [][]int{{0, 0}, {0, 1}, {0, 2}}},
		{"+0/0 .0 -0/0", nil},
		{"+0/0 +0/0", [][]int{{0, 0}}},
		{"+0/0 +0/0 -0/0", nil},
		{"+0/0 -0/0 +0/0", nil},
		{"-0/0 +0/0", nil},
		{"-0/0 +0/0 +0/1", [][]int{{0, 1}}},
		{"-0/1 -1/0 +0/0", [][]int{{0, 0}}},
		{"+0/0 +0/1 -0/0", [][]int{{0, 1}}},
		{"-0/0 -0/1", nil},
	} {
		l := noted(c.text)
		expectOpen(t, l, c.want, true)
		checkNotes(t, l, 0, 1)
	}
	// All that can be open, put off in an order far from rising.
	var l []impl.Note
	var want [][]int
	for k := range 3000 {
		l = append(l, put(k*7%750*1333, (k/750+k%3)%4))
		want = append(want, []int{k / 4 * 1333, k % 4})
	}
	expectOpen(t, l, want, true)
}

func TestSitesOfAnId(t *testing.T) {
	l := noted("+3/1 +4/2 +3/0 -3/0 +3/1 -4/2 -3/3 -3/3 .4 +1000000/3 +0/2 -3/1 .3 .3")
	for _, c := range []struct {
		id           int
		puts, starts []int
	}{
		{3, numbers(1, 0, 1), numbers(0, 3, 3, 1)}, {4, numbers(2), numbers(2)}, {0, numbers(2), nil}, {1000000, numbers(3), nil}, {1, nil, nil}, {999999, nil, nil},
	} {
		expectSites(t, l, c.id, c.puts, c.starts, true)
		expectSites(t, nil, c.id, nil, nil, true)
	}
	for _, id := range someIds() {
		checkNotes(t, l, id)
		checkNotes(t, nil, id)
	}
	// A number that is no Id has no answer, whatever the notes are.
	for _, id := range numbers(-1, 1000001, least, greatest, math.MinInt, math.MaxInt) {
		expectSites(t, l, id, nil, nil, false)
		expectSites(t, nil, id, nil, nil, false)
		expectSites(t, []impl.Note{{Kind: 1, Id: id}}, id, nil, nil, false)
	}
	expectEnds(t, l, numbers(4, 3, 3), true)
	expectEnds(t, l[:8], nil, true)
	expectEnds(t, noted(".1000000 .0 .7 .0"), numbers(1000000, 0, 7, 0), true)
	expectEnds(t, nil, nil, true)
}

func TestTextsOfNotes(t *testing.T) {
	for _, c := range []struct {
		l    []impl.Note
		want string
	}{
		{nil, ""}, {[]impl.Note{}, ""},
		{[]impl.Note{put(0, 0)}, "+0/0"}, {[]impl.Note{off(0, 3)}, "-0/3"}, {[]impl.Note{ends(0)}, ".0"},
		{[]impl.Note{put(1000000, 3)}, "+1000000/3"}, {[]impl.Note{off(1000000, 0)}, "-1000000/0"}, {[]impl.Note{ends(1000000)}, ".1000000"},
		{[]impl.Note{put(10, 2), off(909, 1), ends(100)}, "+10/2 -909/1 .100"},
		{[]impl.Note{ends(7), ends(7), off(7, 1), put(7, 1), put(7, 1)}, ".7 .7 -7/1 +7/1 +7/1"},
	} {
		expectText(t, c.l, c.want, true)
	}
	longest := slices.Repeat([]impl.Note{put(1000000, 3)}, 3000)
	expectText(t, longest, strings.Repeat(" +1000000/3", 3000)[1:], true)
	for id := range 2000 {
		l := []impl.Note{put(id, id%4), ends(id * 499), off(1000000-id, 0)}
		expectText(t, l, fmt.Sprintf("+%d/%d .%d -%d/0", id, id%4, id*499, 1000000-id), true)
	}
}

// TestAllShortNotes has all lists of notes of two frames with two sites each, and of one with three sites.
func TestAllShortNotes(t *testing.T) {
	var two, three []impl.Note
	for _, n := range append(oneOfEach(0), oneOfEach(1)...) {
		if n.Site < 2 {
			two = append(two, n)
		}
	}
	for _, n := range oneOfEach(1) {
		if n.Site < 3 {
			three = append(three, n)
		}
	}
	faults := map[int]int{}
	var grow func(l, some []impl.Note, more int)
	grow = func(l, some []impl.Note, more int) {
		faults[checkNotes(t, l, 0, 1)]++
		if more == 0 {
			return
		}
		for _, n := range some {
			grow(append(slices.Clone(l), n), some, more-1)
		}
	}
	grow(nil, two, 5)
	grow(nil, three, 6)
	for fault := range 6 {
		if faults[fault] < 100 {
			t.Errorf("by fault: %v", faults)
		}
	}
}

// randomNotes are right but for what is spoiled: frames whose notes are mixed.
func randomNotes(r *rand.Rand) []impl.Note {
	var ahead [][]impl.Note
	for range 1 + r.Intn(6) {
		id, sites := r.Intn(12), r.Perm(4)[:r.Intn(5)]
		if r.Intn(4) == 0 {
			id = r.Intn(1000001)
		}
		var l []impl.Note
		for _, site := range sites {
			l = append(l, put(id, site))
		}
		for k := range sites {
			l = append(l, off(id, sites[len(sites)-1-k]))
		}
		l = append(l, ends(id))
		ahead = append(ahead, l[:len(l)-r.Intn(len(l)+1)*r.Intn(2)])
	}
	var l []impl.Note
	for len(ahead) > 0 {
		k := r.Intn(len(ahead))
		if len(ahead[k]) == 0 {
			ahead = slices.Delete(ahead, k, k+1)
			continue
		}
		l = append(l, ahead[k][0])
		ahead[k] = ahead[k][1:]
	}
	return l
}

func spoilNotes(r *rand.Rand, l []impl.Note) []impl.Note {
	if len(l) == 0 {
		return []impl.Note{randomNote(r)}
	}
	k, n := r.Intn(len(l)), r.Intn(len(l))
	switch r.Intn(6) {
	case 0:
		l[k], l[n] = l[n], l[k]
	case 1:
		return slices.Delete(l, k, k+1)
	case 2:
		return slices.Insert(l, k, l[n])
	case 3:
		l[k] = randomNote(r)
	case 4:
		l[k].Site = r.Intn(6) - 1
	default:
		l[k].Kind = r.Intn(6) - 1
	}
	return l
}

func TestRandomNotes(t *testing.T) {
	r := rand.New(rand.NewSource(111))
	faults := map[int]int{}
	for range 20000 {
		l := randomNotes(r)
		for range r.Intn(3) {
			l = spoilNotes(r, l)
		}
		ids := numbers(r.Intn(14)-1, randomNumber(r))
		for _, n := range l {
			ids = append(ids, n.Id)
		}
		faults[checkNotes(t, l, ids...)]++
	}
	for fault := -1; fault < 6; fault++ {
		if faults[fault] < 200 {
			t.Errorf("by fault: %v", faults)
		}
	}
}

// TestNotesTellTheSameAgain asks again and again, of notes of many Ids, as a map's order is another one each time.
func TestNotesTellTheSameAgain(t *testing.T) {
	r := rand.New(rand.NewSource(112))
	for range 20 {
		var l []impl.Note
		for range 300 {
			l = append(l, oneOfEach(r.Intn(60) * 16000)[r.Intn(9)])
		}
		pairs := wantOpen(l)
		if len(pairs) < 10 {
			t.Fatal("too few to tell")
		}
		fault, at := wantCheck(l)
		for range 50 {
			expectOpen(t, l, pairs, true)
			expectCheck(t, l, fault, at, true)
			// What others ask does not change it.
			impl.OpenIn(randomNotes(r))
			impl.CheckNotes(randomNotes(r))
		}
	}
}

// flagged tells of each frame which of its flags are set.
func flagged(v impl.Vm) [][]int {
	var pairs [][]int
	for _, f := range v.Frames {
		for site, set := range f.Flags {
			if set {
				pairs = append(pairs, []int{f.Id, site})
			}
		}
	}
	return pairs
}

// followed is what was seen of a run, step by step.
type followed struct {
	// putOff has for each frame the functions that it put off, and called those that were called, both in order.
	putOff, called map[int][]int
	ended          []int
}

// look compares a machine with the one a step ahead: which flags were set or are no more set, which frame began, which is gone.
func (s *followed) look(x impl.Image, was, v impl.Vm) {
	top := was.Frames[len(was.Frames)-1]
	code := x.Codes[top.Fn]
	switch i := code.Ins[top.At]; {
	case i.Op == impl.InPut:
		s.putOff[top.Id] = append(s.putOff[top.Id], code.Sites[i.N])
	case i.Op == impl.InOff && len(v.Frames) > len(was.Frames):
		s.called[top.Id] = append(s.called[top.Id], v.Frames[len(v.Frames)-1].Fn)
	case i.Op == impl.InEnd:
		s.ended = append(s.ended, top.Id)
	}
}

// follow is promise 11 of one run: it looks at each step, and at the notes.
func follow(t *testing.T, p impl.Prog, inputs []int, most, ticks int) impl.Vm {
	t.Helper()
	x, _ := impl.LowerProg(p)
	v, _ := impl.NewVm(x)
	s := followed{putOff: map[int][]int{}, called: map[int][]int{}}
	for range ticks {
		if v.Code != 0 || len(v.Notes) > 2990 {
			break
		}
		was := v
		v, _ = impl.StepVm(x, inputs, most, v)
		s.look(x, was, v)
		if len(v.Notes) != len(was.Notes) || v.Code != 0 {
			expectCheck(t, v.Notes, 0, len(v.Notes), true)
			expectOpen(t, v.Notes, flagged(v), true)
			expectEnds(t, v.Notes, s.ended, true)
		}
	}
	if ended := v.Code == impl.OcDone || v.Code == impl.OcPanic || v.Code == impl.OcExit; ended {
		expectOpen(t, v.Notes, nil, true)
		if len(s.ended) != v.Made {
			t.Fatalf("%v: %d frames made, ended %v", p, v.Made, s.ended)
		}
	}
	for _, id := range s.ended {
		puts, _ := impl.PutsOf(v.Notes, id)
		starts, _ := impl.StartsOf(v.Notes, id)
		slices.Reverse(starts)
		called := slices.Clone(s.called[id])
		slices.Reverse(called)
		if !slices.Equal(puts, starts) || !slices.Equal(called, s.putOff[id]) {
			t.Fatalf("%v: frame %d put off %v, called %v; noted %v, %v", p, id, s.putOff[id], called, puts, starts)
		}
	}
	checkNotes(t, v.Notes, s.ended...)
	return v
}

// TestDeferredCallsOfEachEnd has programs in which what is put off prints a number of its own.
func TestDeferredCallsOfEachEnd(t *testing.T) {
	for _, c := range []struct {
		name  string
		p     impl.Prog
		text  string
		notes string
	}{
		{"nothing put off", written("return 1"), "done 1:", ".0"},
		{"by return", written("defer 1; defer 2; defer 3; defer 2; return 9", "print 1", "print 2", "print 3"), "done 9: 2 3 2 1", "+0/0 +0/1 +0/2 +0/3 -0/3 .1 -0/2 .2 -0/1 .3 -0/0 .4 .0"},
		{"at the end of the Body", written("defer 1; defer 2", "print 1", "print 2"), "done 0: 2 1", "+0/0 +0/1 -0/1 .1 -0/0 .2 .0"},
		{"return ahead of what would be put off", written("defer 1; return 4; defer 2", "print 1", "print 2"), "done 4: 1", "+0/0 -0/0 .1 .0"},
		{"by a panic", written("defer 1; defer 2; panic 9", "print 1", "print 2"), "panic 9: 2 1", "+0/0 +0/1 -0/1 .1 -0/0 .2 .0"},
		{"by a division", written("defer 1; print 4 0 /; defer 2", "print 1", "print 2"), "panic -1: 1", "+0/0 -0/0 .1 .0"},
		{"by exit", written("defer 1; defer 2; exit", "print 1", "print 2"), "exit 0: 2 1", "+0/0 +0/1 -0/1 .1 -0/0 .2 .0"},
		{"a panic that is recovered", written("defer 1; defer 2; panic 9", "print 1", "print rec"), "done 0: 9 1", "+0/0 +0/1 -0/1 .1 -0/0 .2 .0"},
		{"a panic by what is put off", written("defer 1; defer 2; return 5", "print 1", "panic 2"), "panic 2: 1", "+0/0 +0/1 -0/1 .1 -0/0 .2 .0"},
		{"panics by all that is put off", written("defer 1; defer 2; defer 1; panic 5", "panic 1", "panic 2"), "panic 1:", "+0/0 +0/1 +0/2 -0/2 .1 -0/1 .2 -0/0 .3 .0"},
		{"an exit by what is put off", written("defer 1; defer 2; return 5", "print 1", "exit"), "exit 0: 1", "+0/0 +0/1 -0/1 .1 -0/0 .2 .0"},
		{"an exit by what is put off, behind a panic", written("defer 1; defer 2; panic 5", "print 1", "print 3; exit"), "exit 0: 3 1", "+0/0 +0/1 -0/1 .1 -0/0 .2 .0"},
		{"a panic through frames that put off", written("defer 1; do f2", "print 1", "defer 3; panic 7", "print 3"), "panic 7: 3 1", "+0/0 +1/0 -1/0 .2 .1 -0/0 .3 .0"},
		{"an exit through frames that put off", written("defer 1; do f2", "print 1", "defer 3; exit", "print 3"), "exit 0: 3 1", "+0/0 +1/0 -1/0 .2 .1 -0/0 .3 .0"},
		{"put off by what is put off", written("defer 1", "print 1; defer 2; defer 2", "print 2"), "done 0: 1 2 2", "+0/0 -0/0 +1/0 +1/1 -1/1 .2 -1/0 .3 .1 .0"},
		{"in a block that is done", written("if 1 { defer 1 } else { defer 2 }; defer 3", "print 1", "print 2", "print 3"), "done 0: 3 1", "+0/0 +0/2 -0/2 .1 -0/0 .2 .0"},
		{"in a block that is not", written("if 0 { defer 1 } else { defer 2 }; defer 3", "print 1", "print 2", "print 3"), "done 0: 3 2", "+0/1 +0/2 -0/2 .1 -0/1 .2 .0"},
		{"within a loop of calls", written("0 1: set 0 2; while v0 { do f1; set 0 v0 1 - }", "defer 2; print 1", "print 2"), "done 0: 1 2 1 2", "+1/0 -1/0 .2 .1 +3/0 -3/0 .4 .3 .0"},
		{"too deep, with calls that are left", written("defer 1; do f0", "print 1"), "deep 0:", "+0/0 +1/0 +2/0"},
		{"too deep by a call put off", written("do f1", "do f2", "defer 3; print 2", "print 3"), "deep 0: 2", "+2/0"},
	} {
		v := follow(t, c.p, nil, 3, 60000)
		o, _ := impl.EndOf(v)
		if text, notes := wantText(o), notesText(v.Notes); text != c.text || notes != c.notes {
			t.Errorf("%s: %q, %q; want %q, %q", c.name, text, notes, c.text, c.notes)
		}
		for _, most := range upTo(13)[1:] {
			follow(t, c.p, nil, most, 60000)
		}
	}
}

// TestOpenWhereItIsTooDeep has machines that stand still with calls that are not made.
func TestOpenWhereItIsTooDeep(t *testing.T) {
	p := written("defer 1; defer 1; do f0", "print 1")
	for most := 1; most <= 12; most++ {
		v := follow(t, p, nil, most, 60000)
		var want [][]int
		for id := range most {
			want = append(want, []int{id, 0}, []int{id, 1})
		}
		if v.Code != impl.OcDeep {
			t.Fatalf("%d: %v", most, v)
		}
		expectOpen(t, v.Notes, want, true)
		expectEnds(t, v.Notes, nil, true)
	}
}

func TestNotesOfRandomPrograms(t *testing.T) {
	r := rand.New(rand.NewSource(113))
	codes, puts := map[int]int{}, 0
	for round := range 3000 {
		p := livelyProg(r)
		if round%6 == 0 {
			p = randomProg(r)
		}
		v := follow(t, p, randomInputs(r), min(12, 1+r.Intn(20)), 500)
		codes[v.Code]++
		for _, n := range v.Notes {
			if n.Kind == impl.NtPut {
				puts++
			}
		}
	}
	for code := range 5 {
		if codes[code] < 60 || puts < 4000 {
			t.Errorf("%d put off, ends by code: %v", puts, codes)
		}
	}
}

// TestNotesOfLongRuns has runs that make as many notes as there may be here, and more.
func TestNotesOfLongRuns(t *testing.T) {
	p := written("while 1 { do f1 }", "defer 2; defer 2", "")
	x, _ := impl.LowerProg(p)
	for _, ticks := range upTo(60) {
		v, _ := impl.RunVm(x, nil, 12, 60000-ticks*900)
		fault := checkNotes(t, v.Notes, 0, 1, 2, 3, 4)
		if many := len(v.Notes); (fault == 0) != (many <= 3000) || fault > 0 {
			t.Errorf("%d notes: %d", many, fault)
		}
	}
	v, _ := impl.RunVm(x, nil, 12, 60000)
	for many := 2990; many < 3010; many++ {
		if fault := checkNotes(t, v.Notes[:many], 0, 1, 2); (fault == 0) != (many <= 3000) {
			t.Errorf("%d notes: %d", many, fault)
		}
	}
}

func TestNotesLeaveTheirArguments(t *testing.T) {
	r := rand.New(rand.NewSource(114))
	for range 1000 {
		l := randomNotes(r)
		if r.Intn(3) == 0 {
			l = spoilNotes(r, l)
		}
		// What is behind would change each answer.
		l = spare(l, put(3, 1), off(0, 0), ends(0), impl.Note{Kind: 9})
		was := slices.Clone(l[:cap(l)])
		checkNotes(t, l, -1, 0, 1, 2, 3)
		if now := l[:cap(l)]; !reflect.DeepEqual(now, was) {
			t.Fatalf("changed: %v, was %v", now, was)
		}
	}
}

func TestAnswersOfNotesAreNewMemory(t *testing.T) {
	l := noted("+5/1 +5/3 -5/3 +2/0 +2/3 -2/3 .7 -5/0 .5 .1 +9/1")
	open := [][]int{{2, 0}, {5, 1}, {9, 1}}
	for range 3 {
		pairs, _ := impl.OpenIn(l)
		again, _ := impl.OpenIn(l)
		for k := range pairs {
			if !samePairs(pairs[k:], open[k:]) {
				t.Fatalf("two lists of one answer share memory: %v", pairs)
			}
			scribble(pairs[k])
		}
		if !samePairs(again, open) {
			t.Fatalf("two answers share memory: %v", again)
		}
		for _, pair := range again {
			pair = append(pair, 77)
			scribble(pair)
		}
		for _, ask := range []func() ([]int, bool){
			func() ([]int, bool) { return impl.PutsOf(l, 5) }, func() ([]int, bool) { return impl.StartsOf(l, 5) }, func() ([]int, bool) { return impl.EndsIn(l) },
		} {
			first, _ := ask()
			second, _ := ask()
			was := slices.Clone(second)
			if behind := first[len(first):cap(first)]; slices.ContainsFunc(behind, func(n int) bool { return n != 0 }) {
				t.Errorf("handed out: %v", behind)
			}
			scribble(first)
			if !slices.Equal(second, was) {
				t.Fatalf("two answers share memory: %v", second)
			}
		}
		if s := notesText(l); s != "+5/1 +5/3 -5/3 +2/0 +2/3 -2/3 .7 -5/0 .5 .1 +9/1" {
			t.Fatalf("an answer shares memory with an argument: %s", s)
		}
		checkNotes(t, l, 1, 2, 5, 7, 9)
	}
}
