package tests

import (
	"fmt"
	"math"
	"slices"
	"strings"
	"testing"

	"loop.example/g01364/impl"
)

func toldTurns(last string, at int64, ok bool) string {
	return outcome(fmt.Sprintf("%q %d", last, at), last == "" && at == 0, ok)
}

// aRun has runs, what they begin with, and the bits they make.
type aRun struct {
	first bool
	runs  []int64
	bits  string
}

func someRuns() []aRun {
	return []aRun{
		{false, integers(2, 3, 1, 1), "0011101"}, {true, integers(2, 1), "110"}, {false, integers(1), "0"}, {true, integers(1), "1"}, {true, integers(1, 1, 1, 1), "1010"}, {false, integers(1, 2, 3), "011000"},
		{false, integers(512), zeros(512)}, {true, integers(512), ones(512)}, {false, integers(511, 1), zeros(511) + "1"}, {true, integers(1, 511), "1" + zeros(511)},
		{true, slices.Repeat(integers(1), 512), strings.Repeat("10", 256)}, {false, slices.Repeat(integers(1), 511), strings.Repeat("01", 255) + "0"}, {false, slices.Repeat(integers(2), 256), strings.Repeat("0011", 128)},
	}
}

func TestPromise5RunsOf(t *testing.T) {
	for _, c := range someRuns() {
		wantText(t, "RunsOf "+c.bits, toldList(impl.RunsOf(c.bits)), fmt.Sprint(c.runs))
	}
	wantText(t, "RunsOf no bits", toldList(impl.RunsOf("")), "[]")
	for _, bad := range badBits() {
		wantText(t, "RunsOf "+bad, toldList(impl.RunsOf(bad)), "no")
	}
}

func TestPromise5BitsOfRuns(t *testing.T) {
	for _, c := range someRuns() {
		wantText(t, fmt.Sprint("BitsOfRuns ", c.first, c.runs), toldText(impl.BitsOfRuns(c.first, c.runs)), `"`+c.bits+`"`)
	}
	for _, first := range []bool{false, true} {
		wantText(t, "BitsOfRuns of no runs", toldText(impl.BitsOfRuns(first, nil)), `""`)
		for _, bad := range [][]int64{
			{0}, {-1}, {513}, {512, 1}, {1, 512}, {256, 257}, {1, 0, 1}, {0, 1}, {5, -1}, {2, -1, 511}, {512, 0}, {512, -1}, {math.MaxInt64}, {1, math.MaxInt64}, {math.MinInt64}, {math.MinInt64, math.MinInt64},
			slices.Repeat(integers(1), 513), slices.Repeat(integers(2), 257), slices.Repeat(integers(1), 100000),
		} {
			wantText(t, fmt.Sprint("BitsOfRuns ", first, bad), toldText(impl.BitsOfRuns(first, bad)), "no")
		}
	}
}

func TestPromise5RunsLeadBack(t *testing.T) {
	d := &drawn{41}
	for range 500 {
		var runs []int64
		rest, most := 512, 1+d.below(40)
		for rest > 0 && d.below(60) > 0 {
			run := 1 + d.below(min(rest, most))
			runs, rest = append(runs, int64(run)), rest-run
		}
		bits, ok := impl.BitsOfRuns(d.below(2) == 0, runs)
		wantBool(t, fmt.Sprint("BitsOfRuns ", runs), ok, true)
		wantText(t, "RunsOf "+bits, toldList(impl.RunsOf(bits)), fmt.Sprint(runs))
	}
}

func TestPromise5FrontOf(t *testing.T) {
	cases := []struct {
		letters []int64
		n       int64
		places  []int64
	}{
		{integers(2, 2, 0), 3, integers(2, 0, 1)}, {integers(0), 1, integers(0)}, {integers(0, 0, 0), 1, integers(0, 0, 0)}, {nil, 1, nil}, {nil, 16, nil}, {integers(1), 2, integers(1)}, {integers(1, 0, 1, 0), 2, integers(1, 1, 1, 1)},
		{integers(3, 1, 3, 0, 2, 2, 1), 4, integers(3, 2, 1, 2, 3, 0, 3)}, {integers(15, 0, 15, 14, 7), 16, integers(15, 1, 1, 15, 9)}, {integers(0, 1, 2, 3, 4), 5, integers(0, 1, 2, 3, 4)}, {integers(4, 3, 2, 1, 0), 5, integers(4, 4, 4, 4, 4)},
		{slices.Repeat(integers(15), 512), 16, append(integers(15), make([]int64, 511)...)}, {slices.Repeat(integers(0, 1), 256), 2, append(integers(0), slices.Repeat(integers(1), 511)...)},
	}
	for _, c := range cases {
		wantText(t, fmt.Sprint("FrontOf ", c.letters, c.n), toldList(impl.FrontOf(c.letters, c.n)), fmt.Sprint(c.places))
		wantText(t, fmt.Sprint("BackOfFront ", c.places, c.n), toldList(impl.BackOfFront(c.places, c.n)), fmt.Sprint(c.letters))
	}
	fails := []struct {
		list []int64
		n    int64
	}{
		{integers(0), 0}, {nil, 0}, {nil, -1}, {nil, 17}, {integers(0), 17}, {integers(0), -1}, {integers(16), 17}, {integers(0), math.MaxInt64}, {integers(0), math.MinInt64}, {nil, math.MaxInt64},
		{integers(1), 1}, {integers(-1), 1}, {integers(3), 3}, {integers(0, 3), 3}, {integers(3, 0), 3}, {integers(0, -1, 0), 3}, {integers(16), 16}, {integers(math.MaxInt64), 16}, {integers(math.MinInt64), 16},
		{make([]int64, 513), 16}, {make([]int64, 513), 1}, {make([]int64, 100000), 2},
	}
	for _, c := range fails {
		wantText(t, fmt.Sprint("FrontOf ", c.list, c.n), toldList(impl.FrontOf(c.list, c.n)), "no")
		wantText(t, fmt.Sprint("BackOfFront ", c.list, c.n), toldList(impl.BackOfFront(c.list, c.n)), "no")
	}
}

func TestPromise5FrontsLeadBack(t *testing.T) {
	d := &drawn{42}
	for range 500 {
		n := 1 + d.below(16)
		var list []int64
		for range d.below(513) {
			list = append(list, int64(d.below(n)))
		}
		places, _ := impl.FrontOf(list, int64(n))
		wantText(t, fmt.Sprint("BackOfFront ", places, n), toldList(impl.BackOfFront(places, int64(n))), fmt.Sprint(list))
		letters, _ := impl.BackOfFront(list, int64(n))
		wantText(t, fmt.Sprint("FrontOf ", letters, n), toldList(impl.FrontOf(letters, int64(n))), fmt.Sprint(list))
	}
}

// turning is a text, the last bytes of its turns, and its place among them.
type turning struct {
	text, last string
	at         int64
}

func someTurnings() []turning {
	return []turning{
		{"abab", "bbaa", 0}, {"baba", "bbaa", 2}, {"a", "a", 0}, {"\x00", "\x00", 0}, {"\xff", "\xff", 0}, {"aaaa", "aaaa", 0}, {"banana", "nnbaaa", 3}, {"ab", "ba", 0}, {"ba", "ba", 1},
		{"abcabcabc", "cccaaabbb", 0}, {"cabcabcab", "cccaaabbb", 6}, {"mississippi", "pssmipissii", 4}, {"the turns of a text, in order, tell it", "f,lsn,aetr rhtdtot  leir  eounx  ti te", 33},
		// Bytes that are no letters, and parts of letters.
		{"\xff\x00\x80", "\xff\x00\x80", 2}, {"a\xffa\x00a", "a\xff\x00aa", 3}, {"hölle", "lel\xb6\xc3h", 1},
		// Texts of 64 bytes.
		{zeros(63) + "1", "1" + zeros(63), 0}, {"1" + zeros(63), "1" + zeros(63), 63}, {strings.Repeat("ab", 32), strings.Repeat("b", 32) + strings.Repeat("a", 32), 0},
		{strings.Repeat("ba", 32), strings.Repeat("b", 32) + strings.Repeat("a", 32), 32}, {strings.Repeat("a", 64), strings.Repeat("a", 64), 0},
	}
}

func TestPromise5TurnsOf(t *testing.T) {
	for _, c := range someTurnings() {
		wantText(t, fmt.Sprintf("TurnsOf %q", c.text), toldTurns(impl.TurnsOf(c.text)), fmt.Sprintf("%q %d", c.last, c.at))
	}
	for _, bad := range []string{"", zeros(65), strings.Repeat("ab", 33), strings.Repeat("\x00", 100000)} {
		wantText(t, "TurnsOf "+bad, toldTurns(impl.TurnsOf(bad)), "no")
	}
}

func TestPromise5BackOfTurns(t *testing.T) {
	for _, c := range someTurnings() {
		wantText(t, fmt.Sprintf("BackOfTurns %q, %d", c.last, c.at), toldText(impl.BackOfTurns(c.last, c.at)), fmt.Sprintf("%q", c.text))
		for _, at := range integers(-1, int64(len(c.last)), int64(len(c.last))+1, 256, math.MaxInt64, math.MinInt64) {
			wantText(t, fmt.Sprintf("BackOfTurns %q, %d", c.last, at), toldText(impl.BackOfTurns(c.last, at)), "no")
		}
	}
	fails := []struct {
		last string
		at   int64
	}{
		// Of equal turns, the first one is the text itself.
		{"bbaa", 1}, {"bbaa", 3}, {"aaaa", 1}, {"aaaa", 3}, {"cccaaabbb", 1}, {"cccaaabbb", 2}, {"cccaaabbb", 8}, {strings.Repeat("a", 64), 63},
		// These are the last bytes of no turns.
		{"ab", 0}, {"ab", 1}, {"aab", 0}, {"aab", 2}, {"abab", 0}, {"abab", 2}, {"nnbaaab", 3}, {"pssmipissi", 4}, {zeros(63) + "1", 0},
		{"", 0}, {"", 1}, {"", -1}, {strings.Repeat("a", 65), 0}, {"1" + zeros(64), 64}, {strings.Repeat("ba", 50000), 0},
	}
	for _, c := range fails {
		wantText(t, fmt.Sprintf("BackOfTurns %q, %d", c.last, c.at), toldText(impl.BackOfTurns(c.last, c.at)), "no")
	}
}

// isTurn reports whether a text is a turn of another one.
func isTurn(a, b string) bool { return len(a) == len(b) && strings.Contains(b+b, a) }

func TestPromise5TurnsLeadBack(t *testing.T) {
	d := &drawn{43}
	for range 800 {
		letters := []string{"a", "ab", "abc", "\x00\x7f\x80\xff"}[d.below(4)]
		part := ""
		for range 1 + d.below([]int{4, 64}[d.below(2)]) {
			part += letters[d.below(len(letters)):][:1]
		}
		text := strings.Repeat(part, 1+d.below(64/len(part)))
		last, at, ok := impl.TurnsOf(text)
		wantBool(t, fmt.Sprintf("TurnsOf %q", text), ok, true)
		wantText(t, fmt.Sprintf("BackOfTurns %q, %d", last, at), toldText(impl.BackOfTurns(last, at)), fmt.Sprintf("%q", text))
		// Every place leads to a turn of the text, or to none.
		found := 0
		for place := range int64(len(last)) {
			other, ok := impl.BackOfTurns(last, place)
			wantBool(t, fmt.Sprintf("BackOfTurns %q, %d", last, place), !ok || isTurn(other, text), true)
			if ok {
				found++
			}
		}
		different := strings.Index((text + text)[1:], text) + 1
		wantInt(t, fmt.Sprintf("turns of %q that are led back to", text), int64(found), int64(different))
	}
}

func TestPromise5NoTurnsWithoutText(t *testing.T) {
	d := &drawn{44}
	fails := 0
	for range 3000 {
		var last strings.Builder
		for range 1 + d.below(7) {
			last.WriteByte("abc"[d.below(3)])
		}
		at := int64(d.below(last.Len()))
		text, ok := impl.BackOfTurns(last.String(), at)
		if !ok {
			fails++
			continue
		}
		wantText(t, fmt.Sprintf("TurnsOf %q", text), toldTurns(impl.TurnsOf(text)), fmt.Sprintf("%q %d", last.String(), at))
	}
	wantBool(t, "many last bytes lead to no text", fails > 500, true)
}
