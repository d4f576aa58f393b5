package tests

import (
	"fmt"
	"math"
	"slices"
	"strings"
	"testing"

	"loop.example/g01364/impl"
)

// notCoded are numbers that have no texts of bits.
func notCoded() []int64 {
	return integers(0, -1, -2, -1000000, 1000001, 1048576, 1<<32, 1<<32+1, math.MaxInt64, math.MinInt64, math.MinInt64+1)
}

// textOfKind returns the text of a number by a kind.
func textOfKind(kind, k, n int64) (string, bool) {
	switch kind {
	case 0:
		return impl.UnaryOf(n)
	case 1:
		return impl.GammaOf(n)
	case 2:
		return impl.DeltaOf(n)
	case 3:
		return impl.FibonacciOf(n)
	}
	return impl.RiceOf(n, k)
}

func TestPromise5UnaryOf(t *testing.T) {
	for _, n := range integers(1, 2, 3, 4, 5, 63, 64, 65, 511, 512) {
		wantText(t, fmt.Sprint("UnaryOf ", n), toldText(impl.UnaryOf(n)), `"`+ones(int(n-1))+`0"`)
	}
	for _, n := range append(notCoded(), 513, 514, 1000000) {
		wantText(t, fmt.Sprint("UnaryOf ", n), toldText(impl.UnaryOf(n)), "no")
	}
}

func TestPromise5NumbersOfDigits(t *testing.T) {
	cases := []struct {
		n                       int64
		gamma, delta, fibonacci string
	}{
		{1, "1", "1", "11"}, {2, "010", "0100", "011"}, {3, "011", "0101", "0011"}, {4, "00100", "01100", "1011"}, {5, "00101", "01101", "00011"}, {6, "00110", "01110", "10011"}, {7, "00111", "01111", "01011"},
		{8, "0001000", "00100000", "000011"}, {9, "0001001", "00100001", "100011"}, {13, "0001101", "00100101", "0000011"}, {14, "0001110", "00100110", "1000011"}, {100, "0000001100100", "00111100100", "00101000011"},
		{511, "00000000111111111", "000100111111111", "00101001010011"}, {512, "0000000001000000000", "0001010000000000", "10101001010011"}, {513, "0000000001000000001", "0001010000000001", "00000101010011"},
		{65535, "0000000000000001111111111111111", "000010000111111111111111", "001000000100101000001011"}, {65536, "000000000000000010000000000000000", "0000100010000000000000000", "101000000100101000001011"},
		{524287, "0000000000000000001111111111111111111", "000010011111111111111111111", "01001000010001001010000000011"}, {524288, "000000000000000000010000000000000000000", "0000101000000000000000000000", "00101000010001001010000000011"},
		{832039, "000000000000000000011001011001000100111", "0000101001001011001000100111", "01010101010101010101010101011"}, {832040, "000000000000000000011001011001000101000", "0000101001001011001000101000", zeros(28) + "11"},
		{999999, "000000000000000000011110100001000111111", "0000101001110100001000111111", "010101010010000000000010100011"}, {1000000, "000000000000000000011110100001001000000", "0000101001110100001001000000", "000000001010000000000010100011"},
	}
	for _, c := range cases {
		wantText(t, fmt.Sprint("GammaOf ", c.n), toldText(impl.GammaOf(c.n)), `"`+c.gamma+`"`)
		wantText(t, fmt.Sprint("DeltaOf ", c.n), toldText(impl.DeltaOf(c.n)), `"`+c.delta+`"`)
		wantText(t, fmt.Sprint("FibonacciOf ", c.n), toldText(impl.FibonacciOf(c.n)), `"`+c.fibonacci+`"`)
	}
	for _, n := range notCoded() {
		wantText(t, fmt.Sprint("GammaOf ", n), toldText(impl.GammaOf(n)), "no")
		wantText(t, fmt.Sprint("DeltaOf ", n), toldText(impl.DeltaOf(n)), "no")
		wantText(t, fmt.Sprint("FibonacciOf ", n), toldText(impl.FibonacciOf(n)), "no")
	}
}

func TestPromise5RiceOf(t *testing.T) {
	cases := []struct {
		n, k int64
		want string
	}{
		{6, 2, "1001"}, {1, 0, "0"}, {2, 0, "10"}, {1, 1, "00"}, {2, 1, "01"}, {3, 1, "100"}, {8, 3, "0111"}, {9, 3, "10000"}, {1, 20, zeros(21)}, {1000000, 20, "011110100001000111111"},
		{1000000, 19, "101110100001000111111"}, {524288, 19, "0" + ones(19)}, {524289, 19, "1" + zeros(20)}, {1000000, 12, ones(244) + "0001000111111"}, {1000000, 11, ones(488) + "001000111111"},
		// Texts of MaxBits bits.
		{512, 0, ones(511) + "0"}, {1021, 1, ones(510) + "00"}, {1022, 1, ones(510) + "01"}, {2037, 2, ones(509) + "000"}, {2040, 2, ones(509) + "011"},
	}
	for _, c := range cases {
		wantText(t, fmt.Sprint("RiceOf ", c.n, c.k), toldText(impl.RiceOf(c.n, c.k)), `"`+c.want+`"`)
	}
	for _, c := range [][2]int64{
		{513, 0}, {1023, 1}, {1024, 1}, {1025, 1}, {2041, 2}, {2048, 2}, {2049, 2}, {1000000, 0}, {1000000, 10},
		{1, -1}, {1, 21}, {1000000, 21}, {5, 63}, {5, 64}, {5, math.MaxInt64}, {5, math.MinInt64},
	} {
		wantText(t, fmt.Sprint("RiceOf ", c), toldText(impl.RiceOf(c[0], c[1])), "no")
	}
	for _, n := range notCoded() {
		for _, k := range integers(0, 3, 20) {
			wantText(t, fmt.Sprint("RiceOf ", n, k), toldText(impl.RiceOf(n, k)), "no")
		}
	}
}

func TestPromise5NumbersOfBits(t *testing.T) {
	cases := []struct {
		kind, k int64
		bits    string
		want    string
	}{
		{0, 0, "110010", "[3 1 2]"}, {1, 0, "1010011", "[1 2 3]"}, {2, 0, "1010001101", "[1 2 5]"}, {3, 0, "0001111", "[5 1]"}, {4, 2, "1001000", "[6 1]"}, {4, 2, "10010000", "no"}, {4, 2, "1001000001", "[6 1 2]"}, {4, 0, "110010", "[3 1 2]"},
		{0, 20, "0", "[1]"}, {1, 20, "1", "[1]"}, {2, 20, "1", "[1]"}, {3, 20, "11", "[1]"}, {4, 20, zeros(42), "[1 1]"}, {4, 1, ones(510) + "01", "[1022]"}, {4, 1, ones(510) + "0", "no"},
		{0, 0, ones(511) + "0", "[512]"}, {0, 0, zeros(512), fmt.Sprint(slices.Repeat(integers(1), 512))}, {1, 0, ones(512), fmt.Sprint(slices.Repeat(integers(1), 512))}, {3, 0, ones(512), fmt.Sprint(slices.Repeat(integers(1), 256))},
		// Bits that end early, and bits that are none.
		{0, 0, "1", "no"}, {0, 0, "011", "no"}, {0, 0, ones(512), "no"}, {1, 0, "0", "no"}, {1, 0, "00", "no"}, {1, 0, "001", "no"}, {1, 0, "0010", "no"}, {1, 0, "10", "no"}, {1, 0, zeros(512), "no"}, {1, 0, zeros(511) + "1", "no"},
		{2, 0, "0", "no"}, {2, 0, "01", "no"}, {2, 0, "010", "no"}, {2, 0, "011", "no"}, {2, 0, "0110", "no"}, {2, 0, "0010", "no"}, {2, 0, zeros(512), "no"}, {3, 0, "1", "no"}, {3, 0, "0", "no"}, {3, 0, "01010", "no"}, {3, 0, "111", "no"},
		{4, 3, "0", "no"}, {4, 3, "011", "no"}, {4, 3, "1", "no"}, {4, 0, "1", "no"}, {4, 20, zeros(20), "no"}, {4, 20, ones(512), "no"}, {4, 20, ones(511) + "0", "no"},
		// Numbers that are too great.
		{1, 0, zeros(19) + "11110100001001000001", "no"}, {1, 0, zeros(19) + ones(20), "no"}, {1, 0, zeros(20) + "1" + zeros(20), "no"}, {1, 0, zeros(63) + "1" + zeros(63), "no"}, {1, 0, zeros(64) + ones(65), "no"}, {1, 0, zeros(255) + ones(256), "no"},
		{2, 0, "000010100" + "1110100001001000001", "no"}, {2, 0, "000010101" + zeros(20), "no"}, {2, 0, "000001000000" + zeros(63), "no"}, {2, 0, "0000001000001" + zeros(64), "no"}, {2, 0, zeros(63) + ones(64), "no"}, {2, 0, zeros(250) + ones(251), "no"},
		{3, 0, "100000001010000000000010100011", "no"}, {3, 0, zeros(29) + "11", "no"}, {3, 0, zeros(90) + "11", "no"}, {3, 0, zeros(510) + "11", "no"}, {3, 0, strings.Repeat("01", 255) + "1", "no"},
		{4, 20, "011110100001001000000", "no"}, {4, 20, "0" + ones(20), "no"}, {4, 20, "10" + zeros(20), "no"}, {4, 12, ones(244) + "0001001000000", "no"}, {4, 16, ones(480) + "0" + zeros(16), "no"},
	}
	for _, c := range cases {
		wantText(t, fmt.Sprint("NumbersOfBits ", c.kind, c.k, c.bits), toldList(impl.NumbersOfBits(c.kind, c.k, c.bits)), c.want)
	}
	for kind := range int64(5) {
		what := fmt.Sprint("NumbersOfBits ", kind)
		for _, k := range integers(0, 1, 19, 20) {
			wantText(t, what+" of no bits", toldList(impl.NumbersOfBits(kind, k, "")), "[]")
		}
		for _, k := range integers(-1, 21, 63, 64, math.MaxInt64, math.MinInt64) {
			wantText(t, fmt.Sprint(what, k), toldList(impl.NumbersOfBits(kind, k, "")), "no")
			wantText(t, fmt.Sprint(what, k), toldList(impl.NumbersOfBits(kind, k, "11000")), "no")
		}
		for _, bits := range badBits() {
			wantText(t, what+bits, toldList(impl.NumbersOfBits(kind, 0, bits)), "no")
		}
	}
	for _, kind := range integers(-1, 5, 6, math.MaxInt64, math.MinInt64) {
		for _, bits := range []string{"", "0", "1", "11"} {
			wantText(t, fmt.Sprint("NumbersOfBits ", kind, bits), toldList(impl.NumbersOfBits(kind, 0, bits)), "no")
		}
	}
}

// readableNumbers are those that are small, and those around limits.
func readableNumbers() []int64 {
	var numbers []int64
	for n := range int64(2100) {
		numbers = append(numbers, n+1)
	}
	for long := 11; long <= 19; long++ {
		numbers = append(numbers, 1<<long-1, 1<<long, 1<<long+1)
	}
	for one, two := int64(1), int64(2); two <= 1000000; one, two = two, one+two {
		numbers = append(numbers, two-1, two)
	}
	for n := int64(2101); n <= 1000000; n += 997 {
		numbers = append(numbers, n)
	}
	return append(numbers, 999999, 1000000)
}

func TestPromise5NumbersAreReadBack(t *testing.T) {
	for kind := range int64(5) {
		for _, n := range readableNumbers() {
			k := n * 7 % 21
			bits, ok := textOfKind(kind, k, n)
			if kind == 0 && n > 512 || kind == 4 && (n-1)>>k+1+k > 512 {
				wantBool(t, fmt.Sprint("a text of ", n, " by ", kind, k), ok, false)
				continue
			}
			wantBool(t, fmt.Sprint("a text of ", n, " by ", kind, k), ok, true)
			wantText(t, fmt.Sprint("NumbersOfBits ", kind, k, bits), toldList(impl.NumbersOfBits(kind, k, bits)), fmt.Sprint(integers(n)))
			early, ok := impl.NumbersOfBits(kind, k, bits[:len(bits)-1])
			wantBool(t, fmt.Sprint("NumbersOfBits ", kind, k, " of a part of ", bits), ok && len(early) > 0, false)
		}
	}
}

func TestPromise5ManyNumbersAreReadBack(t *testing.T) {
	d := &drawn{31}
	for i := range 3000 {
		kind, k := int64(i%5), int64(d.below(21))
		var numbers []int64
		all := ""
		for range d.below(200) {
			n := int64(1 + d.below([]int{3, 30, 600, 1000000}[d.below(4)]))
			bits, ok := textOfKind(kind, k, n)
			if !ok || len(all)+len(bits) > 512 {
				continue
			}
			numbers, all = append(numbers, n), all+bits
		}
		wantText(t, fmt.Sprint("NumbersOfBits ", kind, k, all), toldList(impl.NumbersOfBits(kind, k, all)), fmt.Sprint(numbers))
	}
}

// What is read makes the bits again, whatever they are.
func TestPromise5BitsAreMadeAgain(t *testing.T) {
	d := &drawn{32}
	successes := 0
	for i := range 20000 {
		kind, k := int64(i%5), int64(d.below(6))
		bits := ""
		for range d.below(16) {
			bits += []string{"0", "1"}[d.below(2)]
		}
		numbers, ok := impl.NumbersOfBits(kind, k, bits)
		if !ok {
			continue
		}
		successes++
		again := ""
		for _, n := range numbers {
			text, _ := textOfKind(kind, k, n)
			again += text
		}
		wantText(t, fmt.Sprint("texts of ", numbers, " by ", kind, k), again, bits)
	}
	wantBool(t, "many bits are read", successes > 3000, true)
}
