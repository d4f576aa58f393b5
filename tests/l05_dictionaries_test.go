package tests

import (
	"fmt"
	"math"
	"slices"
	"testing"

	"loop.example/g01364/impl"
)

// growingText is a text, and the pairs that it grows.
type growingText struct {
	letters     int64
	text, pairs []int64
}

func someGrowing() []growingText {
	return []growingText{
		{2, nil, nil}, {16, nil, nil}, {2, integers(0), integers(0, 0)}, {2, integers(1), integers(0, 1)}, {16, integers(15), integers(0, 15)}, {2, integers(0, 0, 0, 0), integers(0, 0, 1, 0, 1, -1)},
		{2, repeated(2, 0), integers(0, 0, 1, -1)}, {2, repeated(3, 0), integers(0, 0, 1, 0)}, {2, repeated(5, 0), integers(0, 0, 1, 0, 2, -1)}, {2, repeated(6, 0), integers(0, 0, 1, 0, 2, 0)}, {2, repeated(7, 0), integers(0, 0, 1, 0, 2, 0, 1, -1)},
		{2, repeated(2, 0, 1), integers(0, 0, 0, 1, 1, 1)}, {2, repeated(5, 0, 1), integers(0, 0, 0, 1, 1, 1, 3, 0, 2, 0, 2, -1)}, {2, repeated(3, 0, 1, 1), integers(0, 0, 0, 1, 2, 0, 2, 1, 1, 1, 2, -1)}, {3, integers(2, 0, 2, 1, 0, 2, 0, 2, 1, 1), integers(0, 2, 0, 0, 1, 1, 2, 2, 4, 1, 0, 1)},
		{2, repeated(64, 0), integers(0, 0, 1, 0, 2, 0, 3, 0, 4, 0, 5, 0, 6, 0, 7, 0, 8, 0, 9, 0, 9, -1)}, {2, repeated(32, 1, 0), integers(0, 1, 0, 0, 1, 0, 3, 1, 2, 1, 5, 0, 4, 0, 7, 1, 6, 1, 9, 0, 8, 0, 11, 1, 10, 1, 13, 0, 12, 0)},
		{16, repeated(4, 15, 14), integers(0, 15, 0, 14, 1, 14, 3, 15, 2, -1)}, {2, integers(0, 1, 0, 0, 1, 0, 1, 1, 1), integers(0, 0, 0, 1, 1, 0, 2, 0, 2, 1, 2, -1)},
	}
}

func TestPromise6GrowPairs(t *testing.T) {
	for _, c := range someGrowing() {
		wantText(t, fmt.Sprint("GrowPairs ", c.text, c.letters), toldList(impl.GrowPairs(c.text, c.letters)), fmt.Sprint(c.pairs))
		for _, letters := range badSigns() {
			wantText(t, fmt.Sprint("GrowPairs ", c.text, letters), toldList(impl.GrowPairs(c.text, letters)), "no")
		}
	}
	for _, letters := range integers(2, 3, 16) {
		for _, bad := range badTexts(letters) {
			wantText(t, fmt.Sprint("GrowPairs ", bad, letters), toldList(impl.GrowPairs(bad, letters)), "no")
		}
	}
}

func TestPromise6GrownText(t *testing.T) {
	for _, c := range someGrowing() {
		wantText(t, fmt.Sprint("GrownText ", c.pairs, c.letters), toldList(impl.GrownText(c.pairs, c.letters)), fmt.Sprint(c.text))
		for _, letters := range badSigns() {
			wantText(t, fmt.Sprint("GrownText ", c.pairs, letters), toldList(impl.GrownText(c.pairs, letters)), "no")
		}
	}
	for _, bad := range [][]int64{
		// No pairs, or numbers and letters that are not there.
		{0}, {0, 0, 1}, {0, 0, 0, 1, 1}, {1, 0}, {-1, 0}, {0, 2}, {0, -2}, {0, 0, 2, 1}, {0, 0, 1, 0, 3, 0}, {0, 0, -1, 0}, {0, 0, 1, 2}, {0, 0, 1, -2}, {math.MaxInt64, 0}, {math.MinInt64, 0}, {0, math.MaxInt64}, {0, math.MinInt64}, {0, 0, math.MinInt64, -1},
		// Texts that the dictionary has already.
		{0, 0, 0, 0}, {0, 1, 0, 1}, {0, 0, 1, 0, 1, 0}, {0, 0, 0, 1, 1, 1, 1, 1}, {0, 0, 1, 1, 0, 0}, {0, 0, 0, 1, 1, 0, 0, 1},
		// -1 without a text, not at last, or twice.
		{0, -1}, {0, 0, 0, -1}, {0, 0, 1, -1, 0, 1}, {0, 0, 1, -1, 1, -1}, {0, 0, 1, -1, 1, 0}, {0, 0, 1, -1, 2, 0}, {0, -1, 0, 0}, {0, -1, 0, -1}, {1, -1}, {0, 0, 2, -1},
		// Texts that are too long.
		{0, 0, 1, 0, 2, 0, 3, 0, 4, 0, 5, 0, 6, 0, 7, 0, 8, 0, 9, 0, 10, -1}, {0, 0, 1, 0, 2, 0, 3, 0, 4, 0, 5, 0, 6, 0, 7, 0, 8, 0, 9, 0, 10, 0}, repeated(64, 0, -1), repeated(65, 0, -1), repeated(65, 0, 0), make([]int64, 100000), repeated(50000, 0, -1),
	} {
		wantText(t, fmt.Sprint("GrownText ", bad), toldList(impl.GrownText(bad, 2)), "no")
	}
}

// nextList makes of a list the next one whose numbers are from least to less than end, and reports whether there is one.
func nextList(list []int64, least, end int64) bool {
	for i := range list {
		list[i]++
		if list[i] < end {
			return true
		}
		list[i] = least
	}
	return false
}

// Pairs have a text if, and only if, this text grows them.
func TestPromise6OnlyGrownPairsHaveTexts(t *testing.T) {
	grown := map[string]string{}
	for _, text := range allTexts(2, 8) {
		pairs, _ := impl.GrowPairs(text, 2)
		grown[fmt.Sprint(pairs)] = fmt.Sprint(text)
	}
	for _, length := range []int{2, 4, 6} {
		list := slices.Repeat(integers(-1), length)
		for more := true; more; more = nextList(list, -1, 4) {
			want, found := grown[fmt.Sprint(list)]
			if !found {
				want = "no"
			}
			wantText(t, fmt.Sprint("GrownText ", list), toldList(impl.GrownText(list, 2)), want)
		}
	}
}

// slidingText is a text, a window, and the triples for these.
type slidingText struct {
	text    []int64
	window  int64
	triples []int64
}

func someSliding() []slidingText {
	abcabd := integers(0, 1, 2, 0, 1, 3, 0, 1, 2, 0, 1, 2)
	far := slices.Concat(integers(0, 1), repeated(60, 2), integers(0, 1))
	return []slidingText{
		{nil, 1, nil}, {nil, 64, nil}, {integers(0), 1, integers(0, 0, 0)}, {integers(1), 64, integers(0, 0, 1)}, {integers(0, 0), 1, integers(0, 0, 0, 0, 0, 0)}, {integers(0, 1, 0), 64, integers(0, 0, 0, 0, 0, 1, 0, 0, 0)}, {integers(0, 1, 0, 0, 1, 0, 1, 1, 1), 64, integers(0, 0, 0, 0, 0, 1, 2, 1, 0, 3, 2, 1, 1, 1, 1)},
		// Texts that go on beyond the place.
		{repeated(4, 0), 1, integers(0, 0, 0, 1, 2, 0)}, {repeated(64, 0), 1, integers(0, 0, 0, 1, 62, 0)}, {repeated(64, 0), 64, integers(0, 0, 0, 1, 62, 0)}, {integers(0, 0, 0, 1), 4, integers(0, 0, 0, 1, 2, 1)}, {repeated(32, 0, 1), 64, integers(0, 0, 0, 0, 0, 1, 2, 61, 1)}, {repeated(3, 0, 1), 2, integers(0, 0, 0, 0, 0, 1, 2, 3, 1)},
		{append(append(integers(1), make([]int64, 62)...), 1), 64, integers(0, 0, 1, 0, 0, 0, 1, 61, 1)}, {append(append(integers(0), repeated(62, 2)...), 0), 62, integers(0, 0, 0, 0, 0, 2, 1, 61, 0)},
		// Windows that end before what would be there.
		{repeated(3, 0, 1), 1, repeated(3, 0, 0, 0, 0, 0, 1)}, {repeated(32, 0, 1), 1, repeated(32, 0, 0, 0, 0, 0, 1)}, {abcabd, 6, integers(0, 0, 0, 0, 0, 1, 0, 0, 2, 3, 2, 3, 6, 5, 2)}, {abcabd, 5, integers(0, 0, 0, 0, 0, 1, 0, 0, 2, 3, 2, 3, 3, 2, 2, 3, 2, 2)},
		{abcabd, 64, integers(0, 0, 0, 0, 0, 1, 0, 0, 2, 3, 2, 3, 6, 5, 2)}, {abcabd, 3, integers(0, 0, 0, 0, 0, 1, 0, 0, 2, 3, 2, 3, 3, 2, 2, 3, 2, 2)}, {integers(0, 1, 1, 0, 1, 0, 0), 3, integers(0, 0, 0, 0, 0, 1, 1, 1, 0, 2, 2, 0)},
		{far, 61, integers(0, 0, 0, 0, 0, 1, 0, 0, 2, 1, 59, 0, 0, 0, 1)}, {far, 62, integers(0, 0, 0, 0, 0, 1, 0, 0, 2, 1, 59, 0, 0, 0, 1)},
		// The longest one, and the nearest one of several.
		{integers(0, 1, 0, 2, 0, 1, 0, 3), 64, integers(0, 0, 0, 0, 0, 1, 2, 1, 2, 4, 3, 3)}, {integers(1, 1, 1, 0, 1, 1, 1, 1, 0), 64, integers(0, 0, 1, 1, 2, 0, 4, 3, 1, 0, 0, 0)}, {integers(0, 0, 1, 0, 0, 2, 0, 0, 1, 0, 0), 64, integers(0, 0, 0, 1, 1, 1, 3, 2, 2, 6, 4, 0)},
	}
}

func TestPromise6SlidePairs(t *testing.T) {
	for _, c := range someSliding() {
		for _, letters := range integers(4, 16) {
			wantText(t, fmt.Sprint("SlidePairs ", c.text, letters, c.window), toldList(impl.SlidePairs(c.text, letters, c.window)), fmt.Sprint(c.triples))
		}
		for _, letters := range badSigns() {
			wantText(t, fmt.Sprint("SlidePairs ", c.text, letters), toldList(impl.SlidePairs(c.text, letters, c.window)), "no")
		}
		for _, window := range integers(0, -1, 65, 66, math.MaxInt64, math.MinInt64) {
			wantText(t, fmt.Sprint("SlidePairs ", c.text, " by ", window), toldList(impl.SlidePairs(c.text, 16, window)), "no")
		}
	}
	for _, letters := range integers(2, 3, 16) {
		for _, bad := range badTexts(letters) {
			wantText(t, fmt.Sprint("SlidePairs ", bad, letters), toldList(impl.SlidePairs(bad, letters, 64)), "no")
		}
	}
}

func TestPromise6SlidText(t *testing.T) {
	for _, c := range someSliding() {
		wantText(t, fmt.Sprint("SlidText ", c.triples), toldList(impl.SlidText(c.triples, 4)), fmt.Sprint(c.text))
		for _, letters := range badSigns() {
			wantText(t, fmt.Sprint("SlidText ", c.triples, letters), toldList(impl.SlidText(c.triples, letters)), "no")
		}
	}
	// Triples need not be those that SlidePairs returns.
	for _, c := range []struct{ triples, text []int64 }{
		{repeated(3, 0, 0, 0), repeated(3, 0)}, {repeated(64, 0, 0, 1), repeated(64, 1)}, {integers(0, 0, 1, 1, 1, 0, 3, 3, 1), integers(1, 1, 0, 1, 1, 0, 1)}, {integers(0, 0, 1, 0, 0, 0, 2, 1, 0), integers(1, 0, 1, 0)}, {integers(0, 0, 0, 1, 62, 1), append(repeated(63, 0), 1)}, {integers(0, 0, 1, 0, 0, 0, 2, 5, 0), integers(1, 0, 1, 0, 1, 0, 1, 0)},
	} {
		wantText(t, fmt.Sprint("SlidText ", c.triples), toldList(impl.SlidText(c.triples, 2)), fmt.Sprint(c.text))
	}
	for _, bad := range [][]int64{
		{0}, {0, 0}, {0, 0, 0, 0}, {0, 0, 0, 0, 0}, {0, 0, 2}, {0, 0, -1}, {0, 0, math.MaxInt64}, {0, 0, math.MinInt64}, {0, 0, 0, 1, 1, 2}, {0, 0, 0, 1, 1, -1},
		// Nothing is so far back, or a length of 0 is not 0 back.
		{1, 1, 0}, {1, 0, 0}, {0, 1, 0}, {-1, 0, 0}, {0, 0, 0, 2, 1, 0}, {0, 0, 0, 1, 0, 0}, {0, 0, 0, 0, 1, 0}, {0, 0, 0, -1, 1, 0}, {0, 0, 0, -1, 0, 0}, {0, 0, 0, 1, 1, 0, 4, 1, 0}, {0, 0, 0, math.MaxInt64, 1, 0}, {0, 0, 0, math.MinInt64, 1, 0}, {math.MaxInt64, 0, 0}, {0, 0, 0, 4294967297, 1, 0},
		{0, 0, 0, 1, -1, 0}, {0, -1, 0}, {0, 0, 0, 0, -1, 0}, {0, 0, 0, 1, math.MinInt64, 0}, {0, math.MinInt64, 0},
		// Texts that are too long.
		{0, 0, 0, 1, 63, 0}, {0, 0, 0, 1, 64, 0}, {0, 0, 0, 1, 65, 0}, {0, 0, 0, 1, 1 << 40, 0}, {0, 0, 0, 1, math.MaxInt64, 0}, {0, 0, 0, 1, 31, 0, 1, 31, 0}, repeated(65, 0, 0, 0), append(integers(0, 0, 0), repeated(40, 1, 64, 0)...), make([]int64, 300000), append(integers(0, 0, 0), repeated(50000, 1, 64, 0)...),
	} {
		wantText(t, fmt.Sprint("SlidText ", bad), toldList(impl.SlidText(bad, 2)), "no")
	}
}

func toldMerged(text, rules []int64, ok bool) string {
	return outcome(fmt.Sprint(text, rules), len(text) == 0 && len(rules) == 0, ok)
}

// mergedText is a text, how often it is merged, and the text and the rules then.
type mergedText struct {
	letters            int64
	text               []int64
	times              int64
	merged, rulesAfter []int64
}

func someMerging() []mergedText {
	return []mergedText{
		{2, nil, 8, nil, nil}, {2, integers(0), 8, integers(0), nil}, {2, integers(0, 1), 8, integers(0, 1), nil}, {2, integers(0, 1, 0), 8, integers(0, 1, 0), nil}, {2, integers(0, 1, 0, 1), 0, integers(0, 1, 0, 1), nil}, {2, integers(0, 1, 0, 1), 1, integers(2, 2), integers(0, 1)}, {2, integers(0, 1, 0, 1), 3, integers(2, 2), integers(0, 1)},
		// Pairs that overlap.
		{2, integers(0, 0), 1, integers(0, 0), nil}, {2, repeated(3, 0), 8, repeated(3, 0), nil}, {2, repeated(4, 0), 8, integers(2, 2), integers(0, 0)}, {2, repeated(5, 0), 8, integers(2, 2, 0), integers(0, 0)}, {2, repeated(64, 0), 8, integers(6, 6), integers(0, 0, 2, 2, 3, 3, 4, 4, 5, 5)}, {16, repeated(64, 0), 3, repeated(8, 18), integers(0, 0, 16, 16, 17, 17)},
		{2, integers(1, 0, 0, 0, 1, 0, 0, 0), 8, integers(4, 4), integers(0, 0, 1, 2, 3, 0)}, {2, integers(0, 0, 0, 1, 1, 0, 0, 0, 1, 1), 2, integers(2, 3, 1, 2, 3, 1), integers(0, 0, 0, 1)}, {2, integers(1, 1, 1, 0, 0, 0, 1, 1, 1, 0, 0, 0), 8, integers(6, 6), integers(0, 0, 1, 1, 1, 2, 3, 4, 5, 0)}, {2, integers(0, 0, 1, 0, 0, 1, 0, 0, 1, 0, 0), 8, integers(2, 3, 3, 3), integers(0, 0, 1, 2)},
		// The least one of several.
		{2, integers(1, 0, 1, 0), 8, integers(2, 2), integers(1, 0)}, {2, integers(1, 0, 1, 0, 1), 8, integers(1, 2, 2), integers(0, 1)}, {3, integers(2, 1, 2, 1, 0, 1, 0, 1), 1, integers(2, 1, 2, 1, 3, 3), integers(0, 1)}, {3, integers(2, 1, 2, 1, 0, 1, 0, 1), 8, integers(4, 4, 3, 3), integers(0, 1, 2, 1)}, {3, integers(0, 2, 0, 1, 0, 2, 0, 1), 1, integers(0, 2, 3, 0, 2, 3), integers(0, 1)},
		{16, integers(15, 14, 15, 14, 15), 8, integers(15, 16, 16), integers(14, 15)}, {2, repeated(32, 0, 1), 8, integers(6, 6), integers(0, 1, 2, 2, 3, 3, 4, 4, 5, 5)}, {4, repeated(3, 0, 1, 2, 3), 8, repeated(3, 6), integers(0, 1, 2, 3, 4, 5)},
		{4, integers(3, 3, 2, 2, 3, 3, 2, 2, 1, 1, 0, 0, 1, 1, 0, 0), 8, integers(9, 9, 8, 8), integers(0, 0, 1, 1, 2, 2, 3, 3, 5, 4, 7, 6)}, {2, repeated(8, 0, 1, 1, 0, 1, 0, 0, 1), 8, integers(8, 8), integers(0, 1, 0, 2, 1, 2, 2, 4, 5, 3, 6, 6, 7, 7)},
	}
}

func TestPromise6MergeText(t *testing.T) {
	for _, c := range someMerging() {
		wantText(t, fmt.Sprint("MergeText ", c.text, c.letters, c.times), toldMerged(impl.MergeText(c.text, c.letters, c.times)), fmt.Sprint(c.merged, c.rulesAfter))
		for _, letters := range badSigns() {
			wantText(t, fmt.Sprint("MergeText ", c.text, letters), toldMerged(impl.MergeText(c.text, letters, c.times)), "no")
		}
		for _, times := range integers(-1, 9, 10, math.MaxInt64, math.MinInt64) {
			wantText(t, fmt.Sprint("MergeText ", c.text, " times ", times), toldMerged(impl.MergeText(c.text, 16, times)), "no")
		}
	}
	for _, letters := range integers(2, 3, 16) {
		for _, bad := range badTexts(letters) {
			wantText(t, fmt.Sprint("MergeText ", bad, letters), toldMerged(impl.MergeText(bad, letters, 8)), "no")
		}
	}
	long, rules, ok := impl.MergeText(integers(0, 1, 0, 0, 1, 1, 0, 1, 0, 1, 1, 1, 0, 0, 0, 1, 0, 0, 1, 1, 0, 1, 0, 1, 1, 1, 0, 0, 1, 1, 1, 0, 0, 0, 1, 0, 1, 1, 0, 0), 2, 8)
	wantBool(t, fmt.Sprint("MergeText 8 times ", long, rules), ok && len(rules) == 16 && len(long) < 40, true)
}

func TestPromise6UnmergeText(t *testing.T) {
	for _, c := range someMerging() {
		wantText(t, fmt.Sprint("UnmergeText ", c.merged, c.rulesAfter), toldList(impl.UnmergeText(c.merged, c.rulesAfter, c.letters)), fmt.Sprint(c.text))
		for _, letters := range badSigns() {
			wantText(t, fmt.Sprint("UnmergeText ", c.merged, c.rulesAfter, letters), toldList(impl.UnmergeText(c.merged, c.rulesAfter, letters)), "no")
		}
	}
	eight := integers(0, 0, 2, 2, 3, 3, 4, 4, 5, 5, 6, 6, 7, 7, 8, 8)
	cases := []struct{ text, rules, want []int64 }{
		// It is not asked whether MergeText would choose these pairs.
		{integers(2), integers(0, 1), integers(0, 1)}, {integers(0, 1), integers(0, 1), integers(0, 1)}, {nil, integers(1, 1), nil}, {integers(2, 2), integers(1, 0), integers(1, 0, 1, 0)}, {integers(3, 0, 3), integers(0, 0, 2, 1), integers(0, 0, 1, 0, 0, 0, 1)}, {integers(3, 2), integers(0, 1, 0, 1), integers(0, 1, 0, 1)},
		{integers(7), eight, repeated(64, 0)}, {integers(6, 6), eight, repeated(64, 0)}, {integers(0, 1, 2, 3, 4, 1), eight, append(append(integers(0, 1), repeated(14, 0)...), 1)}, {integers(9), append(repeated(7, 0, 1), 8, 8), integers(0, 1, 0, 1)}, {repeated(32, 2), integers(0, 1), repeated(32, 0, 1)}, {repeated(64, 1), integers(0, 1), repeated(64, 1)},
	}
	for _, c := range cases {
		wantText(t, fmt.Sprint("UnmergeText ", c.text, c.rules), toldList(impl.UnmergeText(c.text, c.rules, 2)), fmt.Sprint(c.want))
	}
	fails := []struct{ text, rules []int64 }{
		// Letters that are not there then.
		{integers(3), integers(0, 1)}, {integers(2), nil}, {integers(-1), nil}, {integers(0, -1), integers(0, 1)}, {integers(2, 3), integers(0, 1)}, {nil, integers(2, 0)}, {nil, integers(0, 2)}, {nil, integers(-1, 0)}, {nil, integers(0, -1)}, {nil, integers(0, 1, 3, 0)}, {nil, integers(0, 1, 0, 3)}, {nil, integers(0, 1, 2, -1)}, {integers(10), eight},
		{integers(0), integers(math.MaxInt64, 0)}, {integers(0), integers(0, math.MinInt64)}, {integers(math.MaxInt64), integers(0, 1)}, {integers(math.MinInt64), integers(0, 1)}, {nil, append(repeated(7, 0, 1), 9, 0)},
		// Half a rule, and more than 8 rules.
		{integers(0), integers(0)}, {nil, integers(0)}, {integers(0), integers(0, 1, 1)}, {integers(0), repeated(17, 0)}, {integers(0), repeated(9, 0, 1)}, {nil, repeated(9, 0, 0)}, {nil, make([]int64, 100000)},
		// Texts that are too long.
		{integers(8), eight}, {integers(9), eight}, {integers(7, 0), eight}, {repeated(64, 9), eight}, {repeated(33, 2), integers(0, 1)}, {repeated(65, 0), nil}, {repeated(65, 0), integers(0, 1)}, {make([]int64, 100000), nil}, {repeated(100000, 9), eight},
	}
	for _, c := range fails {
		wantText(t, fmt.Sprint("UnmergeText ", c.text, c.rules), toldList(impl.UnmergeText(c.text, c.rules, 2)), "no")
	}
}

// timesOf returns how often a pair is in a text, from the left without overlaps.
func timesOf(text []int64, former, latter int64) int {
	times := 0
	for i := 0; i+1 < len(text); i++ {
		if text[i] == former && text[i+1] == latter {
			times++
			i++
		}
	}
	return times
}

// wantDictionariesBack tells that a text comes back from pairs, triples and merged letters.
func wantDictionariesBack(t *testing.T, text []int64, letters, window, times int64) {
	t.Helper()
	want := fmt.Sprint(text)
	pairs, one := impl.GrowPairs(text, letters)
	triples, two := impl.SlidePairs(text, letters, window)
	merged, rules, three := impl.MergeText(text, letters, times)
	if !one || !two || !three {
		t.Errorf("%v of %d letters: %v %v %v", text, letters, one, two, three)
	}
	wantText(t, fmt.Sprint("GrownText ", pairs), toldList(impl.GrownText(pairs, letters)), want)
	wantText(t, fmt.Sprint("SlidText ", triples), toldList(impl.SlidText(triples, letters)), want)
	wantText(t, fmt.Sprint("UnmergeText ", merged, rules), toldList(impl.UnmergeText(merged, rules, letters)), want)
	if int64(len(rules)) == 2*times {
		return
	}
	for i := 1; i < len(merged); i++ {
		wantBool(t, fmt.Sprint("MergeText ends with ", merged), timesOf(merged, merged[i-1], merged[i]) < 2, true)
	}
}

func TestPromise6AllTextsComeBackFromDictionaries(t *testing.T) {
	for i, text := range allTexts(2, 11) {
		wantDictionariesBack(t, text, 2, int64(1+i%64), int64(i%9))
	}
	for i, text := range allTexts(3, 7) {
		wantDictionariesBack(t, text, 3, int64(1+i%7), 8)
	}
}

func TestPromise6LongTextsComeBackFromDictionaries(t *testing.T) {
	d := &drawn{60}
	for range 3000 {
		letters := 2 + d.below(15)
		text := d.text(letters, d.below(65))
		if d.below(3) == 0 {
			text = slices.Repeat(d.text(letters, 1+d.below(9)), 64)[:d.below(65)]
		}
		wantDictionariesBack(t, text, int64(letters), int64(1+d.below(64)), int64(d.below(9)))
	}
}

// Each triple has the longest text in the window, and the nearest one.
func TestPromise6TriplesAreLongestAndNearest(t *testing.T) {
	d := &drawn{61}
	for range 1000 {
		letters := 2 + d.below(3)
		text, window := d.text(letters, d.below(65)), 1+d.below(64)
		triples, _ := impl.SlidePairs(text, int64(letters), int64(window))
		place := 0
		for triple := range slices.Chunk(triples, 3) {
			far, long := 0, 0
			for back := min(window, place); back >= 1; back-- {
				length := 0
				for place+length+1 < len(text) && text[place+length] == text[place+length-back] {
					length++
				}
				if length > 0 && length >= long {
					far, long = back, length
				}
			}
			wantText(t, fmt.Sprint("SlidePairs ", text, window, " at ", place), fmt.Sprint(triple[:2]), fmt.Sprint([]int{far, long}))
			place += int(triple[1]) + 1
		}
		wantInt(t, "where triples end", int64(place), int64(len(text)))
	}
}
