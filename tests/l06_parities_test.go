package tests

import (
	"fmt"
	"math"
	"slices"
	"testing"

	"loop.example/g01364/impl"
)

func parity(wide int64, rows ...int64) impl.Parity {
	return impl.Parity{Wide: wide, Rows: rows}
}

func toldParity(p impl.Parity, ok bool) string {
	return outcome(fmt.Sprint(p.Wide, p.Rows), p.Wide == 0 && len(p.Rows) == 0, ok)
}

// powers returns count numbers, each twice the one before.
func powers(first int64, count int) []int64 {
	var list []int64
	for i := range count {
		list = append(list, first<<i)
	}
	return list
}

// hamming, cyclic, reed and doubled mend 1, 2, 1 and no wrong bits.
func hamming() impl.Parity { return parity(7, 0b111, 0b11001, 0b101010, 0b1001011) }
func cyclic() impl.Parity  { return parity(15, powers(0b111010001, 7)...) }
func reed() impl.Parity    { return parity(8, 0b11111111, 0b1111, 0b110011, 0b1010101) }
func doubled() impl.Parity { return parity(16, powers(0b100000001, 8)...) }

// mixedRows mends two wrong bits in some places, and its Rows are in no order.
func mixedRows() impl.Parity { return parity(6, 0b000111, 0b011001, 0b101010) }

// withDuals are valid parities with a dual code.
func withDuals() []impl.Parity {
	return []impl.Parity{
		parity(2, 3), parity(2, 1), parity(2, 2), parity(3, 7), parity(3, 3, 5), parity(3, 2, 1), parity(4, 15), parity(4, 6, 9), parity(5, 22, 11), parity(9, 0b111111111), parity(9, 1),
		hamming(), reed(), cyclic(), doubled(), mixedRows(), parity(7, powers(11, 4)...), parity(9, 256, 384, 320, 272, 264, 260, 258, 257), parity(10, 1, 3, 5, 9, 17, 33, 65, 129), parity(16, powers(1, 8)...), parity(16, powers(256, 8)...),
		parity(12, 4095, 1365, 819, 1911), parity(15, powers(1, 7)...), parity(9, powers(1, 8)...), parity(9, powers(2, 8)...), parity(11, 1365, 682, 2047-1, 3),
	}
}

// withoutDuals are valid parities whose dual code would have no Rows or too many.
func withoutDuals() []impl.Parity {
	return []impl.Parity{
		parity(1, 1), parity(2, 1, 2), parity(2, 3, 2), parity(3, 1, 2, 4), parity(4, 9, 5, 3, 1), parity(8, powers(1, 8)...), parity(8, 255, 127, 63, 31, 15, 7, 3, 1),
		parity(10, 1023), parity(11, 3, 5), parity(12, 4095, 1365), parity(15, 32767), parity(15, powers(1, 6)...), parity(16, 1), parity(16, 32768), parity(16, 65535), parity(16, powers(512, 7)...), parity(16, 1, 32768),
	}
}

func someParities() []impl.Parity { return append(withDuals(), withoutDuals()...) }

// notParities are not valid.
func notParities() []impl.Parity {
	return []impl.Parity{
		{}, parity(0), parity(0, 1), parity(-1, 1), parity(17, 1), parity(17, 65536), parity(18, 3, 5), parity(63, 1), parity(64, 1), parity(65, 1), parity(math.MaxInt64, 1), parity(math.MinInt64, 1), parity(1<<32, 1), parity(1<<32+4, 15),
		parity(1), parity(4), parity(16), parity(9, powers(1, 9)...), parity(16, powers(1, 9)...), parity(16, powers(1, 16)...), parity(16, make([]int64, 100000)...), parity(3, 1, 2, 4, 7),
		parity(1, 0), parity(4, 0), parity(4, 3, 0), parity(4, 0, 3), parity(1, 1, 1), parity(4, 5, 5), parity(4, 5, 3, 5), parity(4, 3, 5, 6), parity(4, 6, 5, 3), parity(4, 1, 2, 4, 15, 8), parity(8, 1, 2, 4, 8, 16, 32, 64, 127), parity(8, 127, 64, 32, 16, 8, 4, 2, 1), parity(16, 43690, 21845, 3, 65535),
		parity(1, 2), parity(1, 3), parity(4, 16), parity(4, 1, 16), parity(4, 17), parity(16, 65536), parity(16, 1, 65537), parity(4, -1), parity(4, 1, -2), parity(16, math.MaxInt64), parity(16, math.MinInt64), parity(4, 1<<32+1), parity(16, 1<<62), parity(4, 1, math.MinInt64+2),
	}
}

// notWords are no words of wide bits.
func notWords(wide int64) []int64 {
	return []int64{-1, -2, 1 << wide, 1<<wide + 1, 3 << wide, -1 << wide, 1 << 32, 1<<32 + 1, math.MaxInt64, math.MinInt64, math.MinInt64 + 1}
}

// weight counts the digits 1 of a word.
func weight(word int64) int64 {
	count := int64(0)
	for ; word > 0; word /= 2 {
		count += word % 2
	}
	return count
}

// sumsOf returns the words of all messages.
func sumsOf(rows []int64) []int64 {
	sums := integers(0)
	for _, row := range rows {
		for _, sum := range slices.Clone(sums) {
			sums = append(sums, sum^row)
		}
	}
	return sums
}

// sortedSums returns the words of a code in ascending order.
func sortedSums(rows []int64) []int64 {
	return slices.Sorted(slices.Values(sumsOf(rows)))
}

// parity returns a valid parity of wide bits.
func (d *drawn) parity(wide int) impl.Parity {
	for {
		var rows []int64
		for range 1 + d.below(min(wide, 8)) {
			rows = append(rows, int64(d.below(1<<wide)))
		}
		if sums := sortedSums(rows); len(slices.Compact(sums)) == 1<<len(rows) {
			return parity(int64(wide), rows...)
		}
	}
}

func TestPromise7ValidParity(t *testing.T) {
	for _, p := range someParities() {
		wantBool(t, fmt.Sprint("ValidParity ", p), impl.ValidParity(p), true)
	}
	for _, p := range notParities() {
		wantBool(t, fmt.Sprint("ValidParity ", p.Wide, len(p.Rows)), impl.ValidParity(p), false)
	}
}

func TestPromise7ValidParityOfAllRows(t *testing.T) {
	for wide := int64(1); wide <= 4; wide++ {
		for code := range int64(1) << (4 * wide) {
			for count := range 5 {
				var rows []int64
				for i := range count {
					rows = append(rows, code>>(int64(i)*wide)%(1<<wide))
				}
				apart := len(slices.Compact(sortedSums(rows))) == 1<<count
				if got := impl.ValidParity(parity(wide, rows...)); got != (apart && count > 0) {
					t.Fatalf("ValidParity of %d, %v: got %v", wide, rows, got)
				}
			}
		}
	}
}

func TestPromise7SameParity(t *testing.T) {
	all := append(someParities(), notParities()...)
	for i, a := range all {
		for k, b := range all {
			b.Rows = slices.Clone(b.Rows)
			// An empty Parity and one of Wide 0 without Rows are the same.
			same := i == k || a.Wide == b.Wide && a.Wide == 0 && len(a.Rows)+len(b.Rows) == 0
			wantBool(t, fmt.Sprint("SameParity of ", i, " and ", k), impl.SameParity(a, b), same)
		}
	}
	wantBool(t, "SameParity of nil and no Rows", impl.SameParity(parity(3), impl.Parity{Wide: 3, Rows: integers()}), true)
	wantBool(t, "SameParity of Rows in another order", impl.SameParity(parity(3, 3, 5), parity(3, 5, 3)), false)
	wantBool(t, "SameParity of another Wide", impl.SameParity(parity(3, 3, 5), parity(4, 3, 5)), false)
	wantBool(t, "SameParity of a Row more", impl.SameParity(parity(3, 3, 5), parity(3, 3)), false)
	wantBool(t, "SameParity of a Row less", impl.SameParity(parity(3, 3), parity(3, 3, 5)), false)
}

func TestPromise7HammingOf(t *testing.T) {
	wantText(t, "HammingOf 2", toldParity(impl.HammingOf(2)), "3 [7]")
	wantText(t, "HammingOf 3", toldParity(impl.HammingOf(3)), "7 [7 25 42 75]")
	for _, r := range integers(1, 4, 0, -1, -2, 5, 16, 62, 63, 64, 65, 1<<32+2, math.MaxInt64, math.MinInt64) {
		wantText(t, fmt.Sprint("HammingOf ", r), toldParity(impl.HammingOf(r)), "no")
	}
}

func TestPromise7RepeatParity(t *testing.T) {
	for i, row := range integers(1, 3, 7, 15, 31, 63, 127, 255, 511, 1023, 2047, 4095, 8191, 16383, 32767, 65535) {
		n := int64(i) + 1
		wantText(t, fmt.Sprint("RepeatParity ", n), toldParity(impl.RepeatParity(n)), fmt.Sprint(n, integers(row)))
	}
	for _, n := range integers(0, -1, 17, 18, 62, 63, 64, 65, 1<<32+4, math.MaxInt64, math.MinInt64) {
		wantText(t, fmt.Sprint("RepeatParity ", n), toldParity(impl.RepeatParity(n)), "no")
	}
}

func TestPromise7CyclicOf(t *testing.T) {
	cases := []struct {
		n, poly int64
		want    string
	}{
		{1, 1, "1 [1]"}, {2, 1, "2 [1 2]"}, {2, 3, "2 [3]"}, {3, 3, "3 [3 6]"}, {3, 5, "3 [5]"}, {3, 7, "3 [7]"}, {7, 11, "7 [11 22 44 88]"}, {7, 13, "7 [13 26 52 104]"}, {7, 127, "7 [127]"}, {15, 465, "15 [465 930 1860 3720 7440 14880 29760]"},
		{16, 65535, "16 [65535]"}, {16, 32769, "16 [32769]"}, {16, 32767, "16 [32767 65534]"}, {9, 255, "9 [255 510]"},
		// There are MaxParityRows Rows, and one more.
		{8, 1, "8 [1 2 4 8 16 32 64 128]"}, {9, 1, "no"}, {16, 1, "no"}, {16, 257, "16 [257 514 1028 2056 4112 8224 16448 32896]"}, {16, 511, "16 [511 1022 2044 4088 8176 16352 32704 65408]"}, {16, 255, "no"}, {16, 129, "no"}, {15, 129, "15 [129 258 516 1032 2064 4128 8256 16512]"}, {15, 127, "no"}, {10, 7, "10 [7 14 28 56 112 224 448 896]"}, {10, 3, "no"}, {15, 19, "no"},
		// poly is even, or no word of n bits.
		{3, 2, "no"}, {3, 4, "no"}, {3, 6, "no"}, {3, 0, "no"}, {3, 8, "no"}, {3, 9, "no"}, {1, 3, "no"}, {1, 2, "no"}, {2, 5, "no"}, {16, 65534, "no"}, {16, 65536, "no"}, {16, 65537, "no"}, {3, -1, "no"}, {3, -3, "no"}, {8, 257, "no"}, {16, math.MaxInt64, "no"}, {16, math.MinInt64 + 1, "no"}, {3, 1<<32 + 3, "no"},
		// There are no words of n bits here.
		{0, 1, "no"}, {0, 0, "no"}, {-1, 1, "no"}, {17, 65537, "no"}, {17, 131071, "no"}, {18, 131073, "no"}, {64, 1, "no"}, {63, 1<<62 + 1, "no"}, {64, -1, "no"}, {math.MaxInt64, 3, "no"}, {math.MinInt64, 3, "no"},
	}
	for _, c := range cases {
		wantText(t, fmt.Sprint("CyclicOf ", c.n, c.poly), toldParity(impl.CyclicOf(c.n, c.poly)), c.want)
	}
}

func TestPromise7EchelonOf(t *testing.T) {
	cases := []struct {
		p    impl.Parity
		want string
	}{
		{parity(1, 1), "1 [1]"}, {parity(3, 3, 5), "3 [5 3]"}, {parity(3, 5, 3), "3 [5 3]"}, {parity(3, 6, 5), "3 [5 3]"}, {parity(2, 3, 2), "2 [2 1]"}, {parity(2, 1, 2), "2 [2 1]"}, {parity(3, 1, 2, 4), "3 [4 2 1]"}, {parity(3, 2, 1), "3 [2 1]"}, {parity(3, 7, 6, 4), "3 [4 2 1]"}, {parity(6, 32), "6 [32]"}, {parity(6, 1), "6 [1]"},
		{hamming(), "7 [75 42 25 7]"}, {mixedRows(), "6 [42 25 7]"}, {reed(), "8 [150 85 51 15]"}, {parity(7, 11, 22, 44, 88), "7 [69 39 22 11]"}, {cyclic(), "15 [16616 8308 4154 2077 1254 627 465]"}, {doubled(), "16 [32896 16448 8224 4112 2056 1028 514 257]"},
		{parity(9, 256, 384, 320, 272, 264, 260, 258, 257), "9 [256 128 64 16 8 4 2 1]"}, {parity(12, 4095, 1365), "12 [2730 1365]"}, {parity(16, 43690, 52428, 61680, 65280, 65535, 4369, 273), "16 [34409 17476 8738 4096 3614 273 255]"},
	}
	for _, c := range cases {
		wantText(t, fmt.Sprint("EchelonOf ", c.p), toldParity(impl.EchelonOf(c.p)), c.want)
	}
	for _, p := range notParities() {
		wantText(t, fmt.Sprint("EchelonOf ", p.Wide, len(p.Rows)), toldParity(impl.EchelonOf(p)), "no")
	}
}

// The greatest digit of each Row is in no other one, and becomes less from Row to Row: just one list of Rows of a code is so.
func TestPromise7EchelonsHaveSteps(t *testing.T) {
	d := &drawn{61}
	for i := range 4000 {
		p := d.parity(1 + i%16)
		e, ok := impl.EchelonOf(p)
		if !ok || e.Wide != p.Wide || !slices.Equal(sortedSums(e.Rows), sortedSums(p.Rows)) {
			t.Fatalf("EchelonOf %v: got %v, %v", p, e, ok)
		}
		for k, row := range e.Rows {
			highest := int64(1)
			for highest*2 <= row {
				highest *= 2
			}
			for m, other := range e.Rows {
				if m != k && other&highest != 0 || m > k && other >= highest {
					t.Fatalf("EchelonOf %v: got %v", p, e)
				}
			}
		}
	}
}

func TestPromise7DualOf(t *testing.T) {
	cases := []struct {
		p    impl.Parity
		want string
	}{
		{parity(2, 3), "2 [3]"}, {parity(2, 1), "2 [2]"}, {parity(2, 2), "2 [1]"}, {parity(3, 7), "3 [5 6]"}, {parity(3, 3, 5), "3 [7]"}, {parity(4, 15), "4 [9 10 12]"}, {parity(4, 6, 9), "4 [9 6]"}, {parity(5, 22, 11), "5 [9 26 20]"},
		{hamming(), "7 [85 102 120]"}, {mixedRows(), "6 [21 38 56]"}, {reed(), "8 [105 170 204 240]"}, {cyclic(), "15 [2817 5634 11268 22536 15120 30240 26432 17792]"}, {doubled(), "16 [257 514 1028 2056 4112 8224 16448 32896]"},
		// There is 1 Row, there are MaxParityRows of them, one more, and none.
		{parity(9, 256, 384, 320, 272, 264, 260, 258, 257), "9 [32]"}, {parity(10, 1, 3, 5, 9, 17, 33, 65, 129), "10 [256 512]"}, {parity(9, 511), "9 [257 258 260 264 272 288 320 384]"}, {parity(9, 1), "9 [2 4 8 16 32 64 128 256]"}, {parity(16, powers(1, 8)...), fmt.Sprint(16, powers(256, 8))}, {parity(15, powers(1, 7)...), fmt.Sprint(15, powers(128, 8))},
		{parity(10, 1023), "no"}, {parity(11, 3, 5), "no"}, {parity(16, powers(512, 7)...), "no"}, {parity(1, 1), "no"}, {parity(8, powers(1, 8)...), "no"}, {parity(16, 65535), "no"},
	}
	for _, c := range cases {
		wantText(t, fmt.Sprint("DualOf ", c.p), toldParity(impl.DualOf(c.p)), c.want)
	}
	for _, p := range withDuals() {
		wantBool(t, fmt.Sprint("ValidParity of DualOf ", p), impl.ValidParity(dualOf(p)), true)
	}
	for _, p := range append(withoutDuals(), notParities()...) {
		wantText(t, fmt.Sprint("DualOf ", p.Wide, len(p.Rows)), toldParity(impl.DualOf(p)), "no")
	}
}

func dualOf(p impl.Parity) impl.Parity {
	dual, _ := impl.DualOf(p)
	return dual
}

// The dual code has all words that have an even number of digits in common with each Row, and its dual code is the code.
func TestPromise7DualsLeadBack(t *testing.T) {
	d := &drawn{62}
	for i := range 2000 {
		p := d.parity(1 + i%10)
		dual, ok := impl.DualOf(p)
		rest := int(p.Wide) - len(p.Rows)
		wantBool(t, fmt.Sprint("DualOf ", p), ok, rest >= 1 && rest <= 8)
		if !ok {
			continue
		}
		var even []int64
		for word := range int64(1) << p.Wide {
			if !slices.ContainsFunc(p.Rows, func(row int64) bool { return weight(row&word)%2 == 1 }) {
				even = append(even, word)
			}
		}
		if dual.Wide != p.Wide || !slices.Equal(sortedSums(dual.Rows), even) {
			t.Fatalf("DualOf %v: got %v", p, dual)
		}
		if back := dualOf(dual); !slices.Equal(sortedSums(back.Rows), sortedSums(p.Rows)) {
			t.Fatalf("DualOf %v: got %v, and of this %v", p, dual, back)
		}
	}
}

func TestPromise7ExtendParity(t *testing.T) {
	cases := []struct {
		p    impl.Parity
		want string
	}{
		{parity(1, 1), "2 [3]"}, {parity(2, 3), "3 [3]"}, {parity(2, 1, 2), "3 [5 6]"}, {parity(2, 3, 2), "3 [3 6]"}, {parity(3, 7), "4 [15]"}, {parity(3, 3, 5), "4 [3 5]"}, {parity(5, 22, 11), "6 [54 43]"}, {hamming(), "8 [135 153 170 75]"}, {mixedRows(), "7 [71 89 106]"}, {reed(), "9 [255 15 51 85]"},
		{cyclic(), "16 [33233 33698 34628 36488 40208 47648 62528]"}, {parity(15, 32767), "16 [65535]"}, {parity(15, 1, 3), "16 [32769 3]"}, {parity(8, powers(1, 8)...), "9 [257 258 260 264 272 288 320 384]"},
		// Wide becomes too great, though no Row becomes greater.
		{parity(16, 65535), "no"}, {parity(16, 1), "no"}, {doubled(), "no"}, {parity(16, 3), "no"},
	}
	for _, c := range cases {
		wantText(t, fmt.Sprint("ExtendParity ", c.p), toldParity(impl.ExtendParity(c.p)), c.want)
	}
	for _, p := range notParities() {
		wantText(t, fmt.Sprint("ExtendParity ", p.Wide, len(p.Rows)), toldParity(impl.ExtendParity(p)), "no")
	}
}

func TestPromise7ShortenParity(t *testing.T) {
	cases := []struct {
		p    impl.Parity
		want string
	}{
		{parity(2, 1, 2), "1 [1]"}, {parity(2, 3, 2), "1 [1]"}, {parity(3, 3, 5), "2 [3]"}, {parity(3, 3, 6), "2 [3]"}, {parity(3, 1, 2, 4), "2 [2 1]"}, {parity(4, 6, 9), "3 [6]"}, {parity(5, 22, 11), "4 [11]"}, {hamming(), "6 [42 25 7]"}, {mixedRows(), "5 [25 7]"}, {reed(), "7 [85 51 15]"}, {doubled(), "15 [16448 8224 4112 2056 1028 514 257]"}, {cyclic(), "14 [8308 4154 2077 1254 627 465]"}, {parity(8, powers(1, 8)...), "7 [64 32 16 8 4 2 1]"}, {parity(12, 4095, 1365), "11 [1365]"},
		// No word has the digit that is left out, so no Row is, but they are in steps.
		{parity(2, 1), "1 [1]"}, {parity(3, 2, 1), "2 [2 1]"}, {parity(3, 1, 2), "2 [2 1]"}, {parity(4, 3, 5), "3 [5 3]"}, {parity(4, 7, 6), "3 [6 1]"}, {parity(16, 1), "15 [1]"}, {parity(16, powers(1, 8)...), fmt.Sprint(15, integers(128, 64, 32, 16, 8, 4, 2, 1))}, {parity(9, powers(1, 8)...), fmt.Sprint(8, integers(128, 64, 32, 16, 8, 4, 2, 1))},
		// No Row is left, or no bit.
		{parity(1, 1), "no"}, {parity(2, 3), "no"}, {parity(2, 2), "no"}, {parity(3, 7), "no"}, {parity(15, 32767), "no"}, {parity(16, 65535), "no"}, {parity(16, 32768), "no"},
	}
	for _, c := range cases {
		wantText(t, fmt.Sprint("ShortenParity ", c.p), toldParity(impl.ShortenParity(c.p)), c.want)
	}
	for _, p := range notParities() {
		wantText(t, fmt.Sprint("ShortenParity ", p.Wide, len(p.Rows)), toldParity(impl.ShortenParity(p)), "no")
	}
}

// What is made longer has even weights and the words of before, and what is made shorter has just the words without a digit.
func TestPromise7LongerAndShorterCodes(t *testing.T) {
	d := &drawn{63}
	for i := range 2000 {
		p := d.parity(1 + i%16)
		longer, ok := impl.ExtendParity(p)
		wantBool(t, fmt.Sprint("ExtendParity ", p), ok, p.Wide < 16)
		sums := sortedSums(p.Rows)
		if ok {
			var cut []int64
			for _, sum := range sortedSums(longer.Rows) {
				wantInt(t, fmt.Sprint("weight of a word of ExtendParity ", p), weight(sum)%2, 0)
				cut = append(cut, sum%(1<<p.Wide))
			}
			slices.Sort(cut)
			wantText(t, fmt.Sprint("ExtendParity ", p), fmt.Sprint(longer.Wide, cut), fmt.Sprint(p.Wide+1, sums))
		}
		low := slices.DeleteFunc(sums, func(sum int64) bool { return sum >= 1<<(p.Wide-1) })
		shorter, ok := impl.ShortenParity(p)
		wantBool(t, fmt.Sprint("ShortenParity ", p), ok, len(low) > 1)
		if ok {
			wantText(t, fmt.Sprint("ShortenParity ", p), fmt.Sprint(shorter.Wide, sortedSums(shorter.Rows)), fmt.Sprint(p.Wide-1, low))
		}
	}
}
