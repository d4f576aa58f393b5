package tests

import (
	"fmt"
	"math"
	"slices"
	"testing"

	"loop.example/g01364/impl"
)

// counts returns counts with as many letters as numbers.
func counts(list ...int64) impl.Counts {
	return impl.Counts{Letters: int64(len(list)), Counts: list}
}

func toldCounts(c impl.Counts, ok bool) string {
	return outcome(fmt.Sprint(c.Letters, c.Counts), c.Letters == 0 && len(c.Counts) == 0, ok)
}

// badSigns are numbers of letters that no text can have.
func badSigns() []int64 {
	return integers(1, 0, 17, -1, 18, -2, math.MaxInt64, math.MinInt64)
}

// badTexts are no texts of letters from 0 to letters - 1.
func badTexts(letters int64) [][]int64 {
	return [][]int64{
		{letters}, {-1}, {0, letters}, {letters, 0}, {0, -1, 0}, {1, 0, letters, 1}, {math.MaxInt64}, {math.MinInt64}, {0, math.MaxInt64},
		make([]int64, 65), append(make([]int64, 64), letters-1), make([]int64, 100000), append(make([]int64, 63), letters), append(make([]int64, 63), -1),
	}
}

// someCounts are valid counts, even ones, ones of rare letters, and ones at limits.
func someCounts() []impl.Counts {
	return []impl.Counts{
		counts(1, 1), counts(3, 2), counts(1, 2, 1), counts(5, 1, 10, 3), counts(16383, 1), counts(1, 16383), counts(8192, 8192), counts(5461, 5462, 5461), counts(1, 16382, 1),
		counts(sixteen(1)...), counts(sixteen(1024)...), counts(append(slices.Repeat(integers(1), 15), 16369)...), counts(append(integers(16369), slices.Repeat(integers(1), 15)...)...), counts(1, 2, 3, 4, 5, 6, 7),
	}
}

// strangeCounts are no valid counts.
func strangeCounts() []impl.Counts {
	ofLetters := func(letters int64, list ...int64) impl.Counts { return impl.Counts{Letters: letters, Counts: list} }
	return []impl.Counts{
		{}, counts(1), counts(16384), counts(slices.Repeat(integers(1), 17)...), counts(slices.Repeat(integers(1), 100000)...),
		ofLetters(2), ofLetters(2, 1), ofLetters(2, 1, 1, 1), ofLetters(3, 1, 1), ofLetters(0, 1, 1), ofLetters(-2, 1, 1), ofLetters(1, 1, 1), ofLetters(16, 1, 1), ofLetters(math.MaxInt64, 1, 1), ofLetters(math.MinInt64, 1, 1),
		counts(0, 1), counts(1, 0), counts(0, 0), counts(-1, 5), counts(5, -1), counts(1, 2, 0), counts(math.MinInt64, 1),
		counts(16384, 1), counts(1, 16384), counts(8192, 8193), counts(16383, 2), counts(16384, 0), counts(16385, -1), counts(append(slices.Repeat(integers(1024), 15), 1025)...),
		// The sums of these are in limits if they overflow.
		counts(math.MaxInt64, math.MaxInt64, 3), counts(math.MaxInt64, math.MaxInt64), counts(1<<62, 1<<62, 1<<62, 1<<62, 2), counts(1, math.MaxInt64), counts(4294967297, 1),
	}
}

func TestPromise6IsText(t *testing.T) {
	good := []struct {
		text    []int64
		letters int64
	}{
		{nil, 2}, {nil, 16}, {integers(0), 2}, {integers(1), 2}, {integers(15, 0, 15), 16}, {integers(2, 1, 0), 3}, {make([]int64, 64), 2}, {slices.Repeat(integers(15), 64), 16}, {make([]int64, 63), 7},
	}
	for _, c := range good {
		wantBool(t, fmt.Sprint("IsText ", c.text, c.letters), impl.IsText(c.text, c.letters), true)
		for _, letters := range badSigns() {
			wantBool(t, fmt.Sprint("IsText ", c.text, letters), impl.IsText(c.text, letters), false)
		}
	}
	for _, letters := range integers(2, 3, 15, 16) {
		for _, bad := range badTexts(letters) {
			wantBool(t, fmt.Sprint("IsText ", bad, letters), impl.IsText(bad, letters), false)
		}
	}
}

func TestPromise6ValidCounts(t *testing.T) {
	for _, c := range someCounts() {
		wantBool(t, fmt.Sprint("ValidCounts ", c), impl.ValidCounts(c), true)
	}
	for _, c := range strangeCounts() {
		wantBool(t, fmt.Sprint("ValidCounts ", c.Letters, len(c.Counts)), impl.ValidCounts(c), false)
	}
}

func TestPromise6SameCounts(t *testing.T) {
	all := append(someCounts(), strangeCounts()...)
	for i, a := range all {
		for k, b := range all {
			b.Counts = slices.Clone(b.Counts)
			wantBool(t, fmt.Sprint("SameCounts of ", i, " and ", k), impl.SameCounts(a, b), i == k)
		}
	}
	wantBool(t, "SameCounts of nil and no counts", impl.SameCounts(impl.Counts{Letters: 3}, impl.Counts{Letters: 3, Counts: integers()}), true)
	wantBool(t, "SameCounts of counts in another order", impl.SameCounts(counts(1, 2), counts(2, 1)), false)
}

func TestPromise6EvenCounts(t *testing.T) {
	for letters := int64(2); letters <= 16; letters++ {
		want := fmt.Sprint(letters, slices.Repeat(integers(1), int(letters)))
		wantText(t, fmt.Sprint("EvenCounts ", letters), toldCounts(impl.EvenCounts(letters)), want)
	}
	for _, letters := range badSigns() {
		wantText(t, fmt.Sprint("EvenCounts ", letters), toldCounts(impl.EvenCounts(letters)), "no")
	}
}

func TestPromise6CountsOf(t *testing.T) {
	cases := []struct {
		text    []int64
		letters int64
		want    string
	}{
		{nil, 2, "2 [1 1]"}, {nil, 5, "5 [1 1 1 1 1]"}, {integers(0, 0, 1), 2, "2 [3 2]"}, {integers(0, 0, 1), 3, "3 [3 2 1]"}, {integers(2, 2, 0, 2), 3, "3 [2 1 4]"},
		{make([]int64, 64), 2, "2 [65 1]"}, {slices.Repeat(integers(1, 0), 32), 2, "2 [33 33]"}, {slices.Repeat(integers(15), 64), 16, "16 [1 1 1 1 1 1 1 1 1 1 1 1 1 1 1 65]"},
	}
	for _, c := range cases {
		wantText(t, fmt.Sprint("CountsOf ", c.text, c.letters), toldCounts(impl.CountsOf(c.text, c.letters)), c.want)
		for _, letters := range badSigns() {
			wantText(t, fmt.Sprint("CountsOf ", c.text, letters), toldCounts(impl.CountsOf(c.text, letters)), "no")
		}
	}
	for _, letters := range integers(2, 16) {
		for _, bad := range badTexts(letters) {
			wantText(t, fmt.Sprint("CountsOf ", bad, letters), toldCounts(impl.CountsOf(bad, letters)), "no")
		}
	}
}

func TestPromise6PutCount(t *testing.T) {
	cases := []struct {
		c          impl.Counts
		letter, by int64
		want       string
	}{
		{counts(1, 1), 1, 3, "2 [1 4]"}, {counts(1, 1), 0, 3, "2 [4 1]"}, {counts(1, 1), 0, 0, "2 [1 1]"}, {counts(5, 1, 10, 3), 2, 7, "4 [5 1 17 3]"}, {counts(1, 2, 3), 0, 16, "3 [17 2 3]"},
		// The total is MaxTotal, and one more.
		{counts(1, 1), 0, 16382, "2 [16383 1]"}, {counts(1, 1), 0, 16383, "no"}, {counts(1, 1), 1, 16384, "no"}, {counts(16383, 1), 1, 0, "2 [16383 1]"}, {counts(16383, 1), 1, 1, "no"}, {counts(16383, 1), 0, 1, "no"},
		{counts(sixteen(1024)...), 15, 0, fmt.Sprint(16, sixteen(1024))}, {counts(sixteen(1024)...), 15, 1, "no"}, {counts(sixteen(1)...), 15, 16368, "16 [1 1 1 1 1 1 1 1 1 1 1 1 1 1 1 16369]"},
	}
	for _, c := range cases {
		wantText(t, fmt.Sprint("PutCount ", c.c, c.letter, c.by), toldCounts(impl.PutCount(c.c, c.letter, c.by)), c.want)
	}
	for _, c := range someCounts() {
		for _, letter := range integers(-1, c.Letters, c.Letters+1, math.MaxInt64, math.MinInt64) {
			wantText(t, fmt.Sprint("PutCount ", c, letter), toldCounts(impl.PutCount(c, letter, 0)), "no")
		}
		for _, by := range integers(-1, 16385, math.MaxInt64, math.MinInt64) {
			wantText(t, fmt.Sprint("PutCount ", c, 0, by), toldCounts(impl.PutCount(c, 0, by)), "no")
		}
	}
	wantText(t, "PutCount that would leave 1", toldCounts(impl.PutCount(counts(2, 2), 0, -1)), "no")
	for _, c := range strangeCounts() {
		wantText(t, fmt.Sprint("PutCount ", c.Letters), toldCounts(impl.PutCount(c, 0, 0)), "no")
	}
}

func TestPromise6HalveCounts(t *testing.T) {
	cases := []struct {
		c    impl.Counts
		want string
	}{
		{counts(1, 4), "2 [1 2]"}, {counts(1, 1), "2 [1 1]"}, {counts(1, 2, 3, 4, 5, 6, 7), "7 [1 1 2 2 3 3 4]"}, {counts(16383, 1), "2 [8192 1]"}, {counts(1, 16382, 1), "3 [1 8191 1]"}, {counts(sixteen(1024)...), fmt.Sprint(16, sixteen(512))},
	}
	for _, c := range cases {
		wantText(t, fmt.Sprint("HalveCounts ", c.c), toldCounts(impl.HalveCounts(c.c)), c.want)
	}
	for _, c := range strangeCounts() {
		wantText(t, fmt.Sprint("HalveCounts ", c.Letters), toldCounts(impl.HalveCounts(c)), "no")
	}
}
