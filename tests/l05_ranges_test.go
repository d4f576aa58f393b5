package tests

import (
	"fmt"
	"math"
	"slices"
	"strings"
	"testing"

	"loop.example/g01364/impl"
)

// bools returns the bits of digits 0 and 1.
func bools(digits string) []bool {
	var bits []bool
	for _, digit := range digits {
		bits = append(bits, digit == '1')
	}
	return bits
}

// digitsOf returns bits as digits 0 and 1.
func digitsOf(bits []bool) string {
	var digits strings.Builder
	for _, bit := range bits {
		if bit {
			digits.WriteByte('1')
			continue
		}
		digits.WriteByte('0')
	}
	return digits.String()
}

func toldBits(bits []bool, ok bool) string { return toldText(digitsOf(bits), ok) }

// repeated returns some letters, one behind the other, again and again.
func repeated(times int, letters ...int64) []int64 { return slices.Repeat(letters, times) }

// lastOften and firstOften are counts of 1 beside a great one.
func lastOften() impl.Counts  { return counts(append(repeated(15, 1), 16369)...) }
func firstOften() impl.Counts { return counts(append(integers(16369), repeated(15, 1)...)...) }

// badCount are numbers of letters that no text has.
func badCount() []int64 { return integers(-1, 65, 66, math.MaxInt64, math.MinInt64) }

// ofText has counts, a text of their letters, and what is told of it.
type ofText struct {
	c    impl.Counts
	text []int64
	want string
}

func TestPromise6RangeBits(t *testing.T) {
	even, thirds, some := counts(1, 1), counts(5461, 5462, 5461), counts(5, 1, 10, 3)
	nearWait := counts(5000, 7286, 4095)
	cases := []ofText{
		{even, integers(0), "001"}, {even, integers(1), "101"}, {even, integers(0, 1, 1), "01101"}, {even, repeated(8, 0), "0000000001"}, {even, repeated(4, 0, 1), "0101010101"}, {even, repeated(64, 1), ones(64) + "01"}, {even, repeated(64, 0), zeros(65) + "1"},
		{some, integers(0), "001"}, {some, integers(1), "01001"}, {some, integers(0, 1, 1), "000100101011"}, {some, repeated(8, 1), "01000111000111000000100101100010111"}, {some, repeated(8, 0), zeros(16) + "1"},
		{some, repeated(4, 0, 1), "00010001111110011100001001"}, {some, integers(2, 0, 1, 2, 2), "0101101101"}, {some, integers(3, 1, 3, 0, 2, 1), "111001000000110001"},
		// Letters in the middle of the range, for which bits wait.
		{counts(1, 2, 1), integers(1), "011"}, {counts(1, 2, 1), repeated(8, 1), "0" + ones(9)}, {counts(1, 2, 1), repeated(64, 1), "0" + ones(65)}, {counts(1, 2, 1), repeated(4, 0, 1), "00010010010011"}, {counts(1, 2, 1), integers(2, 0, 1, 2, 2), "11001011101"},
		{thirds, integers(1), "011"}, {thirds, integers(0, 1, 1), "001010"}, {thirds, repeated(8, 1), "0" + ones(13)}, {thirds, repeated(4, 0, 1), "00100000000000"}, {thirds, integers(2, 0, 1, 2, 2), "101111010"}, {thirds, repeated(64, 0), zeros(102) + "1"},
		{thirds, repeated(64, 1), "011111111111111110100100101000100100101001010010100010100100100101001001010010010100100100101001001010"},
		// The range of the letter 1 ends with 49152, which is a little too great to wait.
		{nearWait, integers(1), "10"}, {nearWait, integers(1, 1), "100"}, {nearWait, integers(1, 0, 2), "011011"}, {nearWait, repeated(8, 1), "10001100101"},
		// Letters that are rare.
		{counts(16383, 1), integers(0), "01"}, {counts(16383, 1), integers(1), ones(14) + "01"}, {counts(16383, 1), integers(0, 1, 1), ones(13) + "0" + ones(14) + "01"}, {counts(16383, 1), repeated(8, 1), ones(112) + "01"},
		{counts(16383, 1), repeated(64, 0), "01"}, {counts(16383, 1), repeated(64, 1), ones(896) + "01"}, {counts(16383, 1), repeated(4, 0, 1), ones(13) + "0" + ones(13) + "0" + ones(13) + "0" + ones(13) + "001"},
		{counts(1, 16383), integers(0), zeros(15) + "1"}, {counts(1, 16383), repeated(64, 1), "01"}, {counts(1, 16383), repeated(64, 0), zeros(897) + "1"}, {counts(1, 16383), repeated(4, 0, 1), zeros(27) + "1" + zeros(14) + "11" + zeros(12) + "101"},
		{lastOften(), integers(15), "01"}, {lastOften(), repeated(64, 15), "01"}, {lastOften(), integers(0, 1, 1), zeros(27) + "1" + zeros(13) + "101"}, {lastOften(), integers(2, 0, 1, 2, 2), "000000000000100000000000000000000000000001000000000000100000000000001001"},
		{lastOften(), integers(3, 1, 3, 0, 2, 1), zeros(12) + "11" + zeros(13) + "1" + zeros(12) + "11" + zeros(26) + "1" + zeros(14) + "101"},
		{counts(sixteen(1024)...), integers(15), "111101"}, {counts(sixteen(1024)...), integers(2, 0, 1, 2, 2), "0010000000010010001001"}, {counts(sixteen(1024)...), repeated(64, 1), strings.Repeat("0001", 64) + "01"},
	}
	for _, c := range someCounts() {
		cases = append(cases, ofText{c, nil, "01"})
	}
	for _, c := range cases {
		wantText(t, fmt.Sprint("RangeBits ", c.c, c.text), toldBits(impl.RangeBits(c.c, c.text)), `"`+c.want+`"`)
	}
	for _, c := range someCounts() {
		for _, bad := range badTexts(c.Letters) {
			wantText(t, fmt.Sprint("RangeBits ", c, bad), toldBits(impl.RangeBits(c, bad)), "no")
		}
	}
	for _, c := range strangeCounts() {
		wantText(t, fmt.Sprint("RangeBits ", c.Letters), toldBits(impl.RangeBits(c, nil)), "no")
		wantText(t, fmt.Sprint("RangeBits ", c.Letters), toldBits(impl.RangeBits(c, integers(0))), "no")
	}
}

// ofBits has counts, bits, and the letters that they tell.
type ofBits struct {
	c    impl.Counts
	bits string
	want []int64
}

func TestPromise6RangeText(t *testing.T) {
	even, thirds, some := counts(1, 1), counts(5461, 5462, 5461), counts(5, 1, 10, 3)
	cases := []ofBits{
		{even, "01101", integers(0, 1, 1)}, {even, "01101", integers(0, 1, 1, 0, 1, 0, 0)}, {even, "01101", integers(0)}, {even, "01101", nil}, {even, ones(1024), repeated(64, 1)}, {even, zeros(1024), repeated(64, 0)}, {even, ones(20), repeated(16, 1)},
		// Bits that end early, also before the code is whole.
		{even, "", repeated(64, 0)}, {even, "1", integers(1, 0, 0)}, {even, "0101", integers(0, 1, 0, 1, 0, 0, 0, 0)}, {even, ones(16), append(repeated(16, 1), 0, 0)}, {even, ones(17), append(repeated(17, 1), 0, 0)}, {thirds, "1", integers(1, 1, 1, 1, 1, 1, 1, 1, 1, 1, 2, 1)},
		{counts(1, 2, 1), "011", append(integers(1, 1), make([]int64, 10)...)}, {counts(1, 2, 1), "1" + zeros(14) + "1", repeated(14, 1)}, {counts(1, 2, 1), strings.Repeat("01", 8), integers(1, 0, 1, 2, 1, 0, 1, 2, 1, 0)},
		{some, "0110101", integers(2, 0, 2, 2, 2, 3)}, {some, "1110101", integers(3, 2, 1, 0, 0, 2)}, {some, "01000111000111", integers(1, 1, 1)}, {thirds, strings.Repeat("01", 20), integers(1, 0, 0, 0, 0, 0, 0, 0, 0, 1, 0, 1, 2, 1, 1, 0, 1, 0, 2, 2)},
		{counts(16383, 1), "", repeated(64, 0)}, {counts(16383, 1), ones(14), integers(1, 0, 0)}, {counts(16383, 1), ones(13), integers(0, 1, 0)}, {counts(16383, 1), ones(16), integers(1, 0)}, {counts(16383, 1), ones(1024), repeated(64, 1)}, {counts(1, 16383), "", repeated(3, 0)}, {counts(1, 16383), "1", repeated(64, 1)},
		{counts(sixteen(1024)...), "0001001000110100", integers(1, 2, 3, 4, 0)}, {lastOften(), zeros(13) + "1", integers(1, 0, 0, 0)}, {lastOften(), zeros(14) + "11111", integers(0, 15, 15, 15)}, {counts(1, 2, 3, 4, 5, 6, 7), "10011010111", integers(5, 3, 6, 1, 3, 1, 6, 3, 3)},
	}
	for _, c := range cases {
		wantText(t, fmt.Sprint("RangeText ", c.c, c.bits, len(c.want)), toldList(impl.RangeText(c.c, bools(c.bits), int64(len(c.want)))), fmt.Sprint(c.want))
	}
	for _, c := range someCounts() {
		wantText(t, fmt.Sprint("RangeText ", c, " of no letters"), toldList(impl.RangeText(c, nil, 0)), "[]")
		wantText(t, fmt.Sprint("RangeText ", c, " of too many bits"), toldList(impl.RangeText(c, make([]bool, 1025), 0)), "no")
		for _, count := range badCount() {
			wantText(t, fmt.Sprint("RangeText ", c, count), toldList(impl.RangeText(c, bools("01"), count)), "no")
		}
	}
	wantText(t, "RangeText of many bits", toldList(impl.RangeText(even, make([]bool, 100000), 64)), "no")
	for _, c := range strangeCounts() {
		wantText(t, fmt.Sprint("RangeText ", c.Letters), toldList(impl.RangeText(c, bools("01"), 1)), "no")
		wantText(t, fmt.Sprint("RangeText ", c.Letters), toldList(impl.RangeText(c, nil, 0)), "no")
	}
}

func TestPromise6GrowingBits(t *testing.T) {
	cases := []struct {
		letters int64
		text    []int64
		want    string
	}{
		{2, nil, "01"}, {16, nil, "01"}, {2, integers(0), "001"}, {2, integers(1), "101"}, {2, integers(1, 1, 0, 1), "10001001"}, {3, integers(0, 1, 2, 0, 1, 2), "010100001011111000"}, {3, repeated(6, 1), "011"},
		{16, integers(15), "111101"}, {16, repeated(3, 0), "0000001"}, {16, integers(15, 15, 15, 0), "1111101000110"}, {4, integers(3, 1, 3, 0, 2, 1), "11000100111001110001111"}, {5, integers(4, 4, 4, 4, 4, 0, 4, 4), "11100000000"},
		{2, repeated(64, 0), "001"}, {2, repeated(64, 1), "101"}, {16, repeated(64, 15), "11111111110"}, {2, repeated(32, 0, 1), "01111011101011110011110001000101001111001111010100111001100001000110101"},
		{16, integers(0, 1, 2, 3, 4, 5, 6, 7, 8, 9, 10, 11, 12, 13, 14, 15), "00001000110111001101001110001100101110101010001011101011101010100001111000110011111111101110011011000010100001"},
	}
	for _, c := range cases {
		wantText(t, fmt.Sprint("GrowingBits ", c.letters, c.text), toldBits(impl.GrowingBits(c.letters, c.text)), `"`+c.want+`"`)
		wantText(t, fmt.Sprint("GrowingText ", c.letters, c.want), toldList(impl.GrowingText(c.letters, bools(c.want), int64(len(c.text)))), fmt.Sprint(c.text))
		for _, letters := range badSigns() {
			wantText(t, fmt.Sprint("GrowingBits ", letters, c.text), toldBits(impl.GrowingBits(letters, c.text)), "no")
		}
	}
	for _, letters := range integers(2, 9, 16) {
		for _, bad := range badTexts(letters) {
			wantText(t, fmt.Sprint("GrowingBits ", letters, bad), toldBits(impl.GrowingBits(letters, bad)), "no")
		}
	}
}

func TestPromise6GrowingText(t *testing.T) {
	cases := []struct {
		letters int64
		bits    string
		want    []int64
	}{
		{2, "", repeated(5, 0)}, {2, "1", integers(1, 0, 0, 0, 0)}, {2, "0101", repeated(6, 0)}, {3, "01101", repeated(6, 1)}, {3, ones(30), repeated(12, 2)}, {16, ones(30), repeated(12, 15)}, {16, "0110100110010110", integers(6, 6, 6, 12, 6, 6, 12, 6)},
		{5, "00110101111", integers(1, 1, 0, 0, 1, 0, 4)}, {16, "", repeated(64, 0)}, {2, ones(1024), repeated(64, 1)}, {7, "1011", nil},
	}
	for _, c := range cases {
		wantText(t, fmt.Sprint("GrowingText ", c.letters, c.bits), toldList(impl.GrowingText(c.letters, bools(c.bits), int64(len(c.want)))), fmt.Sprint(c.want))
		for _, letters := range badSigns() {
			wantText(t, fmt.Sprint("GrowingText ", letters, c.bits), toldList(impl.GrowingText(letters, bools(c.bits), 1)), "no")
		}
		for _, count := range badCount() {
			wantText(t, fmt.Sprint("GrowingText ", c.letters, c.bits, count), toldList(impl.GrowingText(c.letters, bools(c.bits), count)), "no")
		}
	}
	for _, long := range []int{1025, 100000} {
		wantText(t, "GrowingText of too many bits", toldList(impl.GrowingText(2, make([]bool, long), 0)), "no")
	}
}

func TestPromise6CostOfText(t *testing.T) {
	thirds, some := counts(5461, 5462, 5461), counts(5, 1, 10, 3)
	cases := []ofText{
		{counts(1, 1), integers(0, 1, 0), "40400000"}, {counts(1, 1), repeated(64, 1), "42800000"}, {counts(16383, 1), integers(0), "38b8abac"}, {counts(16383, 1), integers(1), "41600000"}, {counts(16383, 1), integers(0, 1, 1), "41e0002e"}, {counts(16383, 1), repeated(64, 0), "3bb8abaf"}, {counts(16383, 1), repeated(64, 1), "44600000"},
		{counts(1, 16383), integers(0, 1, 1), "416000b8"}, {counts(1, 16383), repeated(4, 0, 1), "4260005c"}, {counts(1, 2, 1), integers(2, 0, 1, 2, 2), "41100000"}, {thirds, integers(0), "3fcae2f0"}, {thirds, integers(1), "3fcada48"}, {thirds, repeated(4, 0, 1), "414ade9c"}, {thirds, repeated(64, 1), "42cada42"}, {thirds, repeated(64, 0), "42cae2fb"},
		{some, integers(0), "3ff68725"}, {some, integers(1), "4087ef06"}, {some, integers(0, 1, 1), "4126bfea"}, {some, repeated(64, 1), "4387ef02"}, {some, repeated(64, 0), "42f68730"}, {some, integers(2, 0, 1, 2, 2), "410f3b16"}, {some, integers(3, 1, 3, 0, 2, 1), "418563e9"}, {lastOften(), integers(3, 1, 3, 0, 2, 1), "42a80000"}, {lastOften(), repeated(64, 15), "3dad33e9"},
	}
	for _, c := range someCounts() {
		cases = append(cases, ofText{c, nil, "00000000"})
	}
	for _, c := range cases {
		wantText(t, fmt.Sprint("CostOfText ", c.c, c.text), toldNumber(impl.CostOfText(c.c, c.text)), c.want)
	}
	for _, c := range someCounts() {
		for _, bad := range badTexts(c.Letters) {
			wantText(t, fmt.Sprint("CostOfText ", c, bad), toldNumber(impl.CostOfText(c, bad)), "no")
		}
	}
	for _, c := range strangeCounts() {
		wantText(t, fmt.Sprint("CostOfText ", c.Letters), toldNumber(impl.CostOfText(c, nil)), "no")
	}
}

func TestPromise6LongsShared(t *testing.T) {
	texts := [][]int64{nil, {1}, {1, 1, 0, 1}, repeated(64, 0), repeated(32, 0, 1), nil, {0}}
	many := append(slices.Repeat([][]int64{{0}}, 15), integers(1, 1, 0, 1))
	for workers := int64(1); workers <= 8; workers++ {
		wantText(t, "LongsShared", toldList(impl.LongsShared(2, texts, workers)), "[2 3 8 3 71 2 3]")
		wantText(t, "LongsShared of 16 texts", toldList(impl.LongsShared(2, many, workers)), "[3 3 3 3 3 3 3 3 3 3 3 3 3 3 3 8]")
		wantText(t, "LongsShared of 17 texts", toldList(impl.LongsShared(2, append(many, nil), workers)), "no")
		wantText(t, "LongsShared of no texts", toldList(impl.LongsShared(16, nil, workers)), "[]")
		wantText(t, "LongsShared of 16 letters", toldList(impl.LongsShared(16, [][]int64{{15}, repeated(64, 15)}, workers)), "[6 11]")
		for _, bad := range badTexts(2) {
			wantText(t, fmt.Sprint("LongsShared ", bad), toldList(impl.LongsShared(2, [][]int64{{1}, bad, {0}}, workers)), "no")
		}
		for _, letters := range badSigns() {
			wantText(t, fmt.Sprint("LongsShared ", letters), toldList(impl.LongsShared(letters, nil, workers)), "no")
			wantText(t, fmt.Sprint("LongsShared ", letters), toldList(impl.LongsShared(letters, [][]int64{nil}, workers)), "no")
		}
	}
	for _, workers := range integers(0, -1, 9, math.MaxInt64, math.MinInt64) {
		wantText(t, fmt.Sprint("LongsShared by ", workers), toldList(impl.LongsShared(2, texts, workers)), "no")
		wantText(t, fmt.Sprint("LongsShared of no texts by ", workers), toldList(impl.LongsShared(2, nil, workers)), "no")
	}
}

// allTexts returns all texts of at most most letters.
func allTexts(letters int64, most int) [][]int64 {
	all := [][]int64{nil}
	for from := 0; most > 0; most-- {
		end := len(all)
		for _, text := range all[from:end] {
			for letter := range letters {
				all = append(all, append(slices.Clone(text), letter))
			}
		}
		from = end
	}
	return all
}

// wantTextBack tells that a text comes back from its bits, whatever is behind them, and that its beginnings do, too.
func wantTextBack(t *testing.T, c impl.Counts, text []int64, further string) {
	t.Helper()
	bits, ok := impl.RangeBits(c, text)
	if !ok {
		t.Errorf("RangeBits %v %v fails", c, text)
	}
	all := append(slices.Clone(bits), bools(further)...)
	for _, some := range [][]bool{bits, all[:min(len(all), 1024)]} {
		for _, count := range []int{len(text), len(text) / 2} {
			wantText(t, fmt.Sprint("RangeText ", c, digitsOf(some), count), toldList(impl.RangeText(c, some, int64(count))), fmt.Sprint(text[:count]))
		}
	}
}

func TestPromise6AllTextsComeBackFromBits(t *testing.T) {
	for _, c := range someCounts() {
		most := map[int64]int{2: 9, 3: 6, 4: 5, 7: 3, 16: 2}[c.Letters]
		for i, text := range allTexts(c.Letters, most) {
			wantTextBack(t, c, text, []string{ones(20), zeros(20), "10110"}[i%3])
		}
	}
	for letters := int64(2); letters <= 5; letters++ {
		for _, text := range allTexts(letters, []int{0, 0, 9, 6, 5, 4}[letters]) {
			bits, ok := impl.GrowingBits(letters, text)
			wantBool(t, fmt.Sprint("GrowingBits ", letters, text), ok, true)
			wantText(t, fmt.Sprint("GrowingText ", letters, digitsOf(bits)), toldList(impl.GrowingText(letters, bits, int64(len(text)))), fmt.Sprint(text))
		}
	}
}

// counts returns counts of some letters, few or many, whose total is often MaxTotal.
func (d *drawn) counts(letters int) impl.Counts {
	list := repeated(letters, 1)
	rest := 16384 - letters
	most := 1 + d.below([]int{1, 5, 1000, 16384}[d.below(4)])
	for i := range list {
		more := d.below(min(rest, most) + 1)
		list[i], rest = list[i]+int64(more), rest-more
	}
	if d.below(2) == 0 {
		list[d.below(letters)] += int64(rest)
	}
	return counts(list...)
}

// text returns a text of count letters, most of which are few.
func (d *drawn) text(letters, count int) []int64 {
	var text []int64
	few := 1 + d.below(letters)
	for range count {
		letter := d.below(letters)
		if d.below(8) > 0 {
			letter %= few
		}
		text = append(text, int64(letter))
	}
	return text
}

func TestPromise6LongTextsComeBackFromBits(t *testing.T) {
	d := &drawn{51}
	longest := 0
	for range 4000 {
		letters := 2 + d.below(15)
		c, text := d.counts(letters), d.text(letters, d.below(65))
		wantTextBack(t, c, text, d.digits(d.below(20)))
		bits, _ := impl.RangeBits(c, text)
		longest = max(longest, len(bits))
		grown, _ := impl.GrowingBits(c.Letters, text)
		wantText(t, fmt.Sprint("GrowingText ", c.Letters, digitsOf(grown)), toldList(impl.GrowingText(c.Letters, grown, int64(len(text)))), fmt.Sprint(text))
	}
	wantBool(t, "some texts have many bits", longest > 800, true)
}

// Each text of bits, even one that no text makes, tells letters that are a text.
func TestPromise6AnyBitsTellTexts(t *testing.T) {
	d := &drawn{52}
	for range 2000 {
		c := d.counts(2 + d.below(15))
		bits, count := bools(d.digits(d.below(1025))), int64(d.below(65))
		text, ok := impl.RangeText(c, bits, count)
		wantBool(t, fmt.Sprint("RangeText ", c, digitsOf(bits), count), ok && int64(len(text)) == count && impl.IsText(text, c.Letters), true)
		text, ok = impl.GrowingText(c.Letters, bits, count)
		wantBool(t, fmt.Sprint("GrowingText ", c.Letters, digitsOf(bits), count), ok && int64(len(text)) == count && impl.IsText(text, c.Letters), true)
	}
}
