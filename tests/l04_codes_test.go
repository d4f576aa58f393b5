package tests

import (
	"fmt"
	"math"
	"slices"
	"testing"

	"loop.example/g01364/impl"
)

func code(longs ...int64) impl.Code { return impl.Code{Longs: longs} }

func integers(list ...int64) []int64 { return list }

func toldList(list []int64, ok bool) string {
	return outcome(fmt.Sprint(list), len(list) == 0, ok)
}

func toldCode(c impl.Code, ok bool) string { return toldList(c.Longs, ok) }

func toldText(s string, ok bool) string {
	return outcome(fmt.Sprintf("%q", s), s == "", ok)
}

func toldTexts(list []string, ok bool) string {
	return outcome(fmt.Sprintf("%q", list), len(list) == 0, ok)
}

// growing are weights each of which is the sum of the two before, so that the tree of letters is as deep as it can be.
func growing() []int64 {
	return integers(1, 1, 2, 3, 5, 8, 13, 21, 34, 55, 89, 144, 233, 377, 610, 987)
}

// mixed are the same weights in another order.
func mixed() []int64 {
	return integers(89, 8, 233, 55, 610, 3, 1, 34, 377, 2, 987, 13, 144, 1, 5, 21)
}

func anyWeights() []int64 {
	return integers(545615, 562749, 377744, 290122, 817622, 181051, 867037, 111341, 274432, 224815, 988764, 972528, 26885, 869185, 671810, 845836)
}

func sixteen(weight int64) []int64 { return slices.Repeat(integers(weight), 16) }

// ladder is the code whose words are each one longer than the one before.
func ladder() impl.Code {
	return code(1, 2, 3, 4, 5, 6, 7, 8, 9, 10, 11, 12, 13, 14, 15, 15)
}

func goodCodes() []impl.Code {
	return []impl.Code{
		code(1), code(2), code(31), code(32), code(1, 1), code(2, 2, 1), code(1, 2, 2), code(1, 2, 3), code(32, 1), code(1, 32, 32), code(3, 1, 3), code(2, 2), code(2, 2, 2, 2),
		code(3, 2, 5, 2, 5, 4), code(31, 32, 31), ladder(), code(sixteen(4)...), code(sixteen(5)...), code(sixteen(32)...), code(append(sixteen(5)[:15], 1)...),
	}
}

func badCodes() []impl.Code {
	return []impl.Code{
		{}, code([]int64{}...), code(0), code(-1), code(33), code(math.MaxInt64), code(math.MinInt64), code(1, 0), code(0, 1), code(1, 33), code(33, 1), code(2, -1, 3), code(1, math.MaxInt64),
		code(1, 1, 1), code(1, 1, 32), code(32, 1, 1), code(1, 2, 2, 32), code(2, 2, 2, 2, 2), code(2, 2, 2, 3, 3, 4), code(sixteen(3)...), code(append(ladder().Longs[:15:15], 14)...),
		code(append(sixteen(5), 5)...), code(append(sixteen(32), 32)...), code(append(sixteen(5)[:15], 0)...), code(slices.Repeat(integers(32), 1000)...),
	}
}

func badWeights() [][]int64 {
	return [][]int64{
		nil, {}, {-1}, {1000001}, {5, -1}, {-1, 5}, {1000001, 0}, {0, 1000001}, {math.MaxInt64}, {math.MinInt64, math.MaxInt64}, {math.MaxInt64, math.MaxInt64, 2},
		append(sixteen(1), 1), append(sixteen(0), 0), append(sixteen(1)[:15], 1000001), slices.Repeat(integers(1), 1000),
	}
}

func TestPromise5ValidCode(t *testing.T) {
	for _, c := range goodCodes() {
		wantBool(t, fmt.Sprint("ValidCode ", c), impl.ValidCode(c), true)
	}
	for _, c := range badCodes() {
		wantBool(t, fmt.Sprint("ValidCode ", c), impl.ValidCode(c), false)
	}
}

func TestPromise5SameCode(t *testing.T) {
	cases := []struct {
		a, b impl.Code
		want bool
	}{
		{code(1, 2, 2), code(1, 2, 2), true}, {code(1, 2, 2), code(2, 1, 2), false}, {code(1, 2), code(1, 2, 2), false}, {code(1), code(2), false}, {code(1, 2, 2), code(1, 2, 3), false},
		{impl.Code{}, impl.Code{}, true}, {impl.Code{}, code([]int64{}...), true}, {impl.Code{}, code(0), false}, {code(1), impl.Code{}, false},
		{code(0, -5, math.MaxInt64), code(0, -5, math.MaxInt64), true}, {code(1, 1, 1), code(1, 1, 1), true}, {code(33), code(34), false}, {code(slices.Repeat(integers(7), 100)...), code(slices.Repeat(integers(7), 100)...), true},
	}
	for _, c := range cases {
		wantBool(t, fmt.Sprint("SameCode ", c.a, c.b), impl.SameCode(c.a, c.b), c.want)
		wantBool(t, fmt.Sprint("SameCode ", c.b, c.a), impl.SameCode(c.b, c.a), c.want)
	}
}

func TestPromise5MergedCode(t *testing.T) {
	cases := []struct {
		weights []int64
		want    string
	}{
		{integers(1, 1, 2), "[2 2 1]"}, {integers(5), "[1]"}, {integers(0), "[1]"}, {integers(1000000), "[1]"}, {integers(0, 0), "[1 1]"}, {integers(7, 3), "[1 1]"},
		{integers(0, 0, 0), "[2 2 1]"}, {integers(1, 1, 1), "[2 2 1]"}, {integers(2, 1, 1), "[1 2 2]"}, {integers(1, 2, 1), "[2 1 2]"}, {integers(0, 0, 5), "[2 2 1]"}, {integers(0, 5, 0), "[2 1 2]"},
		{integers(1, 1, 1, 1, 1), "[3 3 2 2 2]"}, {integers(2, 1, 1, 2), "[2 2 2 2]"}, {integers(1, 1, 1, 1, 2, 2), "[3 3 3 3 2 2]"}, {integers(2, 2, 1, 1, 1, 1), "[2 2 3 3 3 3]"},
		{integers(3, 1, 2, 3, 1, 2), "[2 3 3 2 3 3]"}, {integers(4, 1, 2, 2, 1, 4, 3), "[2 4 3 3 4 2 3]"}, {integers(2, 3, 5, 4, 6, 1, 1), "[3 3 2 3 2 4 4]"},
		{integers(1, 2, 3, 3, 2, 1, 4, 4, 2), "[4 3 3 3 3 4 3 3 3]"}, {integers(0, 1, 0, 1, 2, 0, 3), "[6 4 6 3 2 5 1]"},
		{sixteen(1000000), "[4 4 4 4 4 4 4 4 4 4 4 4 4 4 4 4]"}, {sixteen(0), "[4 4 4 4 4 4 4 4 4 4 4 4 4 4 4 4]"}, {slices.Repeat(integers(2, 1), 8), "[4 4 4 4 4 4 4 4 4 4 4 4 4 4 4 4]"},
		{growing(), "[15 15 14 13 12 11 10 9 8 7 6 5 4 3 2 1]"}, {mixed(), "[6 11 4 7 2 13 15 8 3 14 1 10 5 15 12 9]"}, {anyWeights(), "[4 4 4 5 4 6 3 7 5 5 3 3 7 3 4 4]"},
		{append(integers(1000000), make([]int64, 15)...), "[1 5 5 5 5 5 5 5 5 5 5 5 5 5 5 4]"},
	}
	for _, c := range cases {
		wantText(t, fmt.Sprint("MergedCode ", c.weights), toldCode(impl.MergedCode(c.weights)), c.want)
	}
	for _, bad := range badWeights() {
		wantText(t, fmt.Sprint("MergedCode ", bad), toldCode(impl.MergedCode(bad)), "no")
	}
}

func TestPromise5BoundedCode(t *testing.T) {
	cases := []struct {
		weights []int64
		most    int64
		want    string
	}{
		{integers(1, 1, 2, 4), 2, "[2 2 2 2]"}, {integers(5), 1, "[1]"}, {integers(0), 16, "[1]"}, {integers(0, 0), 1, "[1 1]"}, {integers(7, 3), 16, "[1 1]"}, {integers(1, 1, 2), 2, "[2 2 1]"},
		{integers(1, 1, 2), 16, "[2 2 1]"}, {integers(1, 2, 4, 8, 16), 3, "[3 3 3 3 1]"}, {integers(1, 2, 4, 8, 16), 4, "[4 4 3 2 1]"}, {integers(1, 2, 4, 8, 16), 5, "[4 4 3 2 1]"},
		{integers(16, 8, 4, 2, 1), 3, "[1 3 3 3 3]"}, {integers(3, 1, 2, 3, 1, 2), 3, "[2 3 3 2 3 3]"}, {integers(3, 1, 2, 3, 1, 2), 16, "[2 3 3 2 3 3]"},
		{integers(1, 1, 1, 1, 1), 3, "[3 3 2 2 2]"}, {integers(1, 1, 1, 1, 1, 1), 3, "[3 3 3 3 2 2]"}, {integers(2, 1, 1, 2, 1), 3, "[2 3 3 2 2]"}, {integers(2, 2, 1, 1, 1, 1), 3, "[2 2 3 3 3 3]"},
		{integers(2, 2, 1, 1, 1, 1), 4, "[2 2 3 3 3 3]"}, {integers(0, 0, 0), 2, "[2 2 1]"}, {integers(0, 0, 0, 0, 0), 3, "[3 3 2 2 2]"}, {integers(0, 0, 0, 0, 0), 16, "[3 3 2 2 2]"},
		{integers(0, 1, 0, 1, 2, 0, 3), 3, "[3 3 3 3 3 3 2]"}, {integers(0, 1, 0, 1, 2, 0, 3), 4, "[4 3 4 3 2 3 2]"}, {integers(4, 1, 2, 2, 1, 4, 3), 3, "[3 3 3 3 3 2 3]"},
		{integers(4, 1, 2, 2, 1, 4, 3), 4, "[2 4 3 3 4 2 3]"}, {integers(1, 2, 3, 3, 2, 1, 4, 4, 2), 4, "[4 3 3 3 3 4 3 3 3]"}, {slices.Repeat(integers(1), 8), 3, "[3 3 3 3 3 3 3 3]"},
		{growing(), 4, "[4 4 4 4 4 4 4 4 4 4 4 4 4 4 4 4]"}, {growing(), 5, "[5 5 5 5 5 5 5 5 5 5 4 4 4 3 3 2]"}, {growing(), 8, "[8 8 8 8 7 7 6 6 5 5 4 4 3 3 2 2]"},
		{growing(), 14, "[14 14 13 12 11 10 9 8 7 6 5 4 3 2 2 2]"}, {growing(), 15, "[15 15 14 13 12 11 10 9 8 7 6 5 4 3 2 1]"}, {growing(), 16, "[15 15 14 13 12 11 10 9 8 7 6 5 4 3 2 1]"},
		{mixed(), 6, "[5 6 3 6 2 6 6 6 3 6 2 6 4 6 6 6]"}, {anyWeights(), 4, "[4 4 4 4 4 4 4 4 4 4 4 4 4 4 4 4]"}, {anyWeights(), 5, "[4 4 4 5 4 5 4 5 5 5 3 3 5 3 4 4]"},
		{anyWeights(), 16, "[4 4 4 5 4 6 3 7 5 5 3 3 7 3 4 4]"}, {sixteen(1000000), 4, "[4 4 4 4 4 4 4 4 4 4 4 4 4 4 4 4]"}, {sixteen(0), 16, "[4 4 4 4 4 4 4 4 4 4 4 4 4 4 4 4]"},
		{integers(1, 1, 1), 1, "no"}, {integers(0, 0, 0), 1, "no"}, {integers(1, 1, 1, 1, 1), 2, "no"}, {slices.Repeat(integers(1), 9), 3, "no"}, {sixteen(1), 3, "no"}, {sixteen(1), 1, "no"},
	}
	for _, c := range cases {
		wantText(t, fmt.Sprint("BoundedCode ", c.weights, c.most), toldCode(impl.BoundedCode(c.weights, c.most)), c.want)
	}
	for _, most := range integers(0, -1, 17, 63, 64, math.MaxInt64, math.MinInt64) {
		for _, weights := range [][]int64{{5}, {1, 1}, sixteen(3)} {
			wantText(t, fmt.Sprint("BoundedCode ", weights, most), toldCode(impl.BoundedCode(weights, most)), "no")
		}
	}
	for _, bad := range badWeights() {
		wantText(t, fmt.Sprint("BoundedCode ", bad), toldCode(impl.BoundedCode(bad, 16)), "no")
	}
}

func TestPromise5OrderedCode(t *testing.T) {
	cases := []struct {
		weights []int64
		want    string
	}{
		{integers(1, 5, 1), "[1 2 2]"}, {integers(5), "[1]"}, {integers(0), "[1]"}, {integers(0, 0), "[1 1]"}, {integers(7, 3), "[1 1]"}, {integers(1, 1, 1), "[1 2 2]"}, {integers(0, 0, 0), "[1 2 2]"},
		{integers(1, 1, 2), "[2 2 1]"}, {integers(2, 1, 1), "[1 2 2]"}, {integers(1, 1, 1, 1), "[2 2 2 2]"}, {integers(0, 0, 0, 0), "[1 2 3 3]"}, {integers(1, 1, 1, 1, 1), "[2 2 2 3 3]"},
		{sixteen(1), "[4 4 4 4 4 4 4 4 4 4 4 4 4 4 4 4]"}, {sixteen(1000000), "[4 4 4 4 4 4 4 4 4 4 4 4 4 4 4 4]"}, {sixteen(0), "[1 2 3 4 5 6 7 8 9 10 11 12 13 14 15 15]"},
		{integers(1, 2, 4, 8, 16), "[4 4 3 2 1]"}, {integers(16, 8, 4, 2, 1), "[1 2 3 4 4]"}, {integers(3, 1, 2, 3, 1, 2), "[2 3 3 2 3 3]"}, {integers(2, 2, 1, 1, 1, 1), "[2 2 3 3 3 3]"},
		{integers(0, 1, 0, 1, 2, 0, 3), "[4 4 4 4 3 3 1]"}, {integers(5, 0, 0, 5), "[1 3 3 2]"}, {integers(4, 1, 2, 2, 1, 4, 3), "[2 4 4 4 4 2 2]"}, {integers(1, 2, 3, 3, 2, 1, 4, 4, 2), "[4 4 3 3 4 4 2 3 3]"},
		{growing(), "[15 15 14 13 12 11 10 9 8 7 6 5 4 3 2 1]"}, {mixed(), "[5 5 5 5 3 5 5 4 4 4 2 4 4 5 5 4]"}, {anyWeights(), "[4 4 4 4 4 4 4 6 6 5 3 3 4 4 4 4]"},
		{append(integers(1000000), make([]int64, 15)...), "[1 2 3 4 5 6 7 8 9 10 11 12 13 14 15 15]"}, {append(make([]int64, 15), 1000000), "[2 3 4 5 6 7 8 9 10 11 12 13 14 15 15 1]"},
	}
	for _, c := range cases {
		wantText(t, fmt.Sprint("OrderedCode ", c.weights), toldCode(impl.OrderedCode(c.weights)), c.want)
	}
	for _, bad := range badWeights() {
		wantText(t, fmt.Sprint("OrderedCode ", bad), toldCode(impl.OrderedCode(bad)), "no")
	}
}

func TestPromise5SurpriseCode(t *testing.T) {
	cases := []struct {
		row  []float32
		want string
	}{
		{chances(0.6, 0.3, 0.1), "[1 2 4]"}, {chances(0.5, 0.25, 0.25), "[1 2 2]"}, {chances(1), "[1]"}, {chances(lowest()), "[1]"}, {halves(), "[1 1]"}, {chances(0.7, 0.3), "[1 2]"}, {chances(0.3, 0.7), "[2 1]"},
		{four(), "[4 3 2 2]"}, {quarters(), "[1 2 3 3]"}, {repeatedNumbers(0.0625, 16), "[4 4 4 4 4 4 4 4 4 4 4 4 4 4 4 4]"}, {chances(0.5, num(0x3effffff)), "[1 2]"}, {chances(0.5, 0.4999), "[1 2]"},
		{chances(1, 0x1p-13), "[1 13]"}, {chances(0.5, 0.4, 0x1p-13, 0.1), "[1 2 13 4]"}, {chances(0.999, 0x1p-20), "[1 20]"}, {chances(0.999, 0x1p-32), "[1 32]"}, {chances(1, 0x1p-32), "[1 32]"},
		// The surprise of a chance a little less than 2^-32 is rounded to 32.
		{chances(1, num(0x2f7fffff)), "[1 32]"},
		// Words can have at most 32 bits, and there are at most 16 of them.
		{chances(1, 0x1p-33), "no"}, {chances(1, 1e-45), "no"}, {tiny(), "no"}, {repeatedNumbers(1.0/17, 17), "no"}, {repeatedNumbers(1.0/32, 32), "no"},
		// Shares of words that are more than 1, and chances that have no surprise.
		{chances(0.5, 0.5, 0.0005), "no"}, {chances(highest()), "no"}, {chances(num(0x3f800001)), "no"}, {gaps(), "no"}, {chances(1, 0), "no"}, {chances(num(minusZero), 1), "no"}, {chances(0.5, 0, 0.5), "no"},
	}
	for _, c := range cases {
		wantText(t, "SurpriseCode "+hex(c.row...), toldCode(impl.SurpriseCode(c.row)), c.want)
	}
	for _, bad := range badRows() {
		wantText(t, "SurpriseCode "+hex(bad...), toldCode(impl.SurpriseCode(bad)), "no")
	}
}
