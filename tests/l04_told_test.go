package tests

import (
	"fmt"
	"slices"
	"strings"
	"testing"

	"loop.example/g01364/impl"
)

func TestPromise5WordsOf(t *testing.T) {
	cases := []struct {
		c    impl.Code
		want string
	}{
		{code(2, 2, 1), "10 11 0"}, {code(1), "0"}, {code(32), strings.Repeat("0", 32)}, {code(1, 1), "0 1"}, {code(1, 2, 2), "0 10 11"}, {code(2, 2), "00 01"}, {code(3, 1, 3), "100 0 101"},
		{code(1, 32), "0 1" + strings.Repeat("0", 31)}, {code(32, 1), "1" + strings.Repeat("0", 31) + " 0"}, {code(2, 3, 3, 1), "10 110 111 0"}, {code(5, 1, 4, 3), "10110 0 1010 100"},
		{code(3, 2, 5, 2, 5, 4), "100 00 10110 01 10111 1010"}, {code(sixteen(4)...), "0000 0001 0010 0011 0100 0101 0110 0111 1000 1001 1010 1011 1100 1101 1110 1111"},
		{code(31, 32, 31), strings.Repeat("0", 31) + " " + strings.Repeat("0", 29) + "100 " + strings.Repeat("0", 30) + "1"},
		{ladder(), "0 10 110 1110 11110 111110 1111110 11111110 111111110 1111111110 11111111110 111111111110 1111111111110 11111111111110 111111111111110 111111111111111"},
	}
	for _, c := range cases {
		wantText(t, fmt.Sprint("WordsOf ", c.c), toldTexts(impl.WordsOf(c.c)), fmt.Sprintf("%q", strings.Split(c.want, " ")))
	}
	for _, c := range goodCodes() {
		words, ok := impl.WordsOf(c)
		free, _ := impl.IsPrefixFree(words)
		wantBool(t, fmt.Sprint("words of ", c, " are free"), ok && free, true)
		for letter, word := range words {
			wantInt(t, fmt.Sprint("WordsOf ", c, letter), int64(len(word)), c.Longs[letter])
		}
	}
	for _, bad := range badCodes() {
		wantText(t, fmt.Sprint("WordsOf ", bad), toldTexts(impl.WordsOf(bad)), "no")
	}
}

func TestPromise5MeanLong(t *testing.T) {
	cases := []struct {
		c    impl.Code
		row  []float32
		want string
	}{
		{code(2, 2, 1), chances(0.25, 0.25, 0.5), "3fc00000"}, {code(1), chances(1), "3f800000"}, {code(32), chances(1), "42000000"}, {code(1), chances(highest()), "3f8020c4"},
		{code(1, 2, 2), chances(0.1, 0.2, 0.7), "3ff33333"}, {code(3, 2, 5, 2, 5, 4), chances(0.1, 0.2, 0.3, 0.05, 0.15, 0.2), "40766666"}, {code(3, 3, 3, 3, 3, 3), chances(0.1, 0.1, 0.1, 0.2, 0.2, 0.3), "40400000"},
		{code(1, 1), chances(1, 0), "3f800000"}, {code(1, 32), chances(num(minusZero), 1), "42000000"}, {code(sixteen(7)...), repeatedNumbers(0.0625, 16), "40e00000"},
		// The order of the terms decides how their sum is rounded.
		{code(16, 1, 16), chances(0x1p-24, 1, 0x1p-24), "3f800010"}, {code(1, 16, 16), chances(1, 0x1p-28, 0x1p-28), "3f800000"}, {code(16, 16, 1), chances(0x1p-28, 0x1p-28, 1), "3f800001"},
	}
	for _, c := range cases {
		wantText(t, fmt.Sprint("MeanLong ", c.c, c.row), toldNumber(impl.MeanLong(c.c, c.row)), c.want)
	}
	for _, bad := range badCodes() {
		n := max(1, min(32, len(bad.Longs)))
		wantText(t, fmt.Sprint("MeanLong ", bad), toldNumber(impl.MeanLong(bad, repeatedNumbers(1/float32(n), n))), "no")
	}
	for _, bad := range badRows() {
		longs := slices.Repeat(integers(32), len(bad))
		wantText(t, "MeanLong of "+hex(bad...), toldNumber(impl.MeanLong(code(longs...), bad)), "no")
	}
	for _, row := range [][]float32{nil, chances(1), chances(0.5, 0.25, 0.25), chances(0.5, 0.5, 0)} {
		wantText(t, "MeanLong of two words and "+hex(row...), toldNumber(impl.MeanLong(code(1, 1), row)), "no")
	}
}

// The float sum of each term is exact before it is rounded, so a product that is not rounded on its own shows here.
func TestPromise5MeanLongRoundsProducts(t *testing.T) {
	d := &drawn{11}
	for range 2000 {
		n := 1 + d.below(16)
		row, longs, want := d.row(n), []int64{}, float32(0)
		for _, chance := range row {
			long := 4 + d.below(29)
			longs = append(longs, int64(long))
			product := float32(float64(chance) * float64(long))
			want = float32(float64(want) + float64(product))
		}
		wantText(t, fmt.Sprint("MeanLong ", longs, row), toldNumber(impl.MeanLong(code(longs...), row)), hex(want))
	}
}

func TestPromise5TotalLong(t *testing.T) {
	cases := []struct {
		c       impl.Code
		weights []int64
		want    string
	}{
		{code(2, 2, 1), integers(1, 1, 2), "6"}, {code(1), integers(0), "0"}, {code(1), integers(1000000), "1000000"}, {code(3, 1, 3), integers(5, 7, 0), "22"}, {code(32, 1), integers(1000000, 3), "32000003"},
		{code(sixteen(32)...), sixteen(1000000), "512000000"}, {ladder(), growing(), "36178"},
		{code(1, 1), nil, "no"}, {code(1, 1), integers(1), "no"}, {code(1, 1), integers(1, 1, 1), "no"}, {code(1), integers(-1), "no"}, {code(1), integers(1000001), "no"}, {code(1, 1), integers(1000000, -1), "no"},
	}
	for _, c := range cases {
		wantText(t, fmt.Sprint("TotalLong ", c.c, c.weights), toldInt(impl.TotalLong(c.c, c.weights)), c.want)
	}
	for _, bad := range badCodes() {
		wantText(t, fmt.Sprint("TotalLong ", bad), toldInt(impl.TotalLong(bad, slices.Repeat(integers(1), len(bad.Longs)))), "no")
	}
	for _, bad := range badWeights() {
		longs := slices.Repeat(integers(32), len(bad))
		wantText(t, fmt.Sprint("TotalLong of ", bad), toldInt(impl.TotalLong(code(longs...), bad)), "no")
	}
}

func TestPromise5KraftOf(t *testing.T) {
	cases := []struct {
		c    impl.Code
		want string
	}{
		{code(2, 2, 1), "4294967296"}, {code(1), "2147483648"}, {code(32), "1"}, {code(2), "1073741824"}, {code(1, 32), "2147483649"}, {code(32, 32), "2"}, {code(1, 1), "4294967296"}, {ladder(), "4294967296"},
		{code(sixteen(32)...), "16"}, {code(sixteen(4)...), "4294967296"}, {code(3, 2, 5, 2, 5, 4), "3221225472"},
	}
	for _, c := range cases {
		wantText(t, fmt.Sprint("KraftOf ", c.c), toldInt(impl.KraftOf(c.c)), c.want)
	}
	for _, bad := range badCodes() {
		wantText(t, fmt.Sprint("KraftOf ", bad), toldInt(impl.KraftOf(bad)), "no")
	}
}

// orderedLongs returns, for n letters, the Longs of all trees whose leaves are the letters in order.
func orderedLongs(n int) [][]int64 {
	if n == 1 {
		return [][]int64{{0}}
	}
	var all [][]int64
	for first := 1; first < n; first++ {
		for _, left := range orderedLongs(first) {
			for _, right := range orderedLongs(n - first) {
				longs := slices.Concat(left, right)
				for i := range longs {
					longs[i]++
				}
				all = append(all, longs)
			}
		}
	}
	return all
}

// leastTotals returns the least TotalLong of all trees in order, and of those in any order with Longs of at most most.
func leastTotals(weights []int64, trees [][]int64, most int64) (int64, int64) {
	ascending := slices.Sorted(slices.Values(weights))
	inOrder, inAny := int64(-1), int64(-1)
	for _, longs := range trees {
		descending := slices.Sorted(slices.Values(longs))
		slices.Reverse(descending)
		one, two := int64(0), int64(0)
		for i, long := range longs {
			one += long * weights[i]
			two += descending[i] * ascending[i]
		}
		if inOrder < 0 || one < inOrder {
			inOrder = one
		}
		if descending[0] <= most && (inAny < 0 || two < inAny) {
			inAny = two
		}
	}
	return inOrder, inAny
}

// total returns the TotalLong of a code that was made of weights, or -1 if there is none.
func total(weights []int64, c impl.Code, ok bool) int64 {
	sum, told := impl.TotalLong(c, weights)
	if !ok || !told {
		return -1
	}
	return sum
}

// drawnWeights returns n weights, among which there are equal ones, and ones that are 0.
func (d *drawn) weights(n int) []int64 {
	var weights []int64
	limit := []int{1, 3, 10, 1000001}[d.below(4)]
	for range n {
		weights = append(weights, int64(d.below(limit)))
	}
	return weights
}

func TestPromise5CodesAreNotLongerThanTrees(t *testing.T) {
	d := &drawn{5}
	for n := 2; n <= 7; n++ {
		trees := orderedLongs(n)
		for range 60 {
			weights, most := d.weights(n), int64(3+d.below(5))
			inOrder, bounded := leastTotals(weights, trees, most)
			_, merged := leastTotals(weights, trees, 16)
			one, first := impl.MergedCode(weights)
			two, second := impl.BoundedCode(weights, most)
			three, third := impl.OrderedCode(weights)
			wantInt(t, fmt.Sprint("total of MergedCode ", weights), total(weights, one, first), merged)
			wantInt(t, fmt.Sprint("total of BoundedCode ", weights, most), total(weights, two, second), bounded)
			wantInt(t, fmt.Sprint("total of OrderedCode ", weights), total(weights, three, third), inOrder)
			wantBool(t, fmt.Sprint("BoundedCode ", weights, most, " is bounded"), slices.Max(two.Longs) <= most, true)
			wantBool(t, fmt.Sprint("OrderedCode ", weights, " is a tree"), slices.ContainsFunc(trees, func(longs []int64) bool { return slices.Equal(longs, three.Longs) }), true)
		}
	}
}

func TestPromise5MergedCodesAreNotLongerThanOthers(t *testing.T) {
	d := &drawn{12}
	for range 400 {
		n := 2 + d.below(15)
		weights := d.weights(n)
		c, ok := impl.MergedCode(weights)
		merged := total(weights, c, ok)
		ordered, ok := impl.OrderedCode(weights)
		wantBool(t, fmt.Sprint("OrderedCode ", weights), ok && total(weights, ordered, ok) >= merged, true)
		before := int64(-1)
		for most := int64(4); most <= 16; most++ {
			bounded, ok := impl.BoundedCode(weights, most)
			now := total(weights, bounded, ok)
			wantBool(t, fmt.Sprint("BoundedCode ", weights, most), ok && now >= merged && (before < 0 || now <= before), true)
			share, _ := impl.KraftOf(bounded)
			wantInt(t, fmt.Sprint("KraftOf BoundedCode ", weights, most), share, 1<<32)
			before = now
		}
		wantInt(t, fmt.Sprint("total of BoundedCode ", weights, 16), before, merged)
		share, _ := impl.KraftOf(c)
		wantInt(t, fmt.Sprint("KraftOf MergedCode ", weights), share, 1<<32)
		if row, ok := impl.RowOfCounts(weights); ok {
			surprise, made := impl.SurpriseCode(row)
			wantBool(t, fmt.Sprint("SurpriseCode of ", weights), !made || total(weights, surprise, made) >= merged, true)
		}
		for range 20 {
			other := c.Longs
			for !impl.ValidCode(code(other...)) || slices.Equal(other, c.Longs) {
				other = nil
				for range n {
					other = append(other, int64(1+d.below(6)))
				}
				if d.below(20) == 0 {
					other = slices.Repeat(integers(5), n)
				}
			}
			wantBool(t, fmt.Sprint("total of ", other, " for ", weights), total(weights, code(other...), true) >= merged, true)
		}
	}
}

// A merged code needs less than one bit more than the entropy, and no less than it.
func TestPromise5MergedCodesAreNearEntropies(t *testing.T) {
	d := &drawn{13}
	for range 300 {
		weights := d.weights(2 + d.below(15))
		row, ok := impl.RowOfCounts(weights)
		if !ok {
			continue
		}
		c, _ := impl.MergedCode(weights)
		mean, made := impl.MeanLong(c, row)
		entropy, _ := impl.EntropyOf(row)
		wantBool(t, fmt.Sprint("MeanLong of ", weights, mean, entropy), made && mean >= entropy-1e-4 && mean <= entropy+1+1e-4, true)
	}
}
