package tests

import (
	"fmt"
	"math"
	"slices"
	"strings"
	"testing"

	"loop.example/g01364/impl"
)

func words(list ...string) []string { return list }

func zeros(count int) string { return strings.Repeat("0", count) }

func ones(count int) string { return strings.Repeat("1", count) }

// badBits are texts that are no texts of bits.
func badBits() []string {
	return []string{
		"2", "/", "01 ", " 01", "0\n", "0x1", "-1", "a", "\x00", "\x01", "\xff", "0\xff1", "٠١", "01é", zeros(513), ones(513), zeros(512) + "2", strings.Repeat("01", 257), ones(100000),
	}
}

func TestPromise5EncodeLetters(t *testing.T) {
	full := slices.Repeat(integers(0), 512)
	cases := []struct {
		c       impl.Code
		letters []int64
		want    string
	}{
		{code(2, 2, 1), integers(0, 2, 1), "10011"}, {code(2, 2, 1), nil, ""}, {code(1), integers(0, 0, 0), "000"}, {code(32), integers(0), zeros(32)}, {code(3, 2, 5, 2, 5, 4), integers(4, 0, 5, 3, 2, 1), "101111001010011011000"},
		{code(1), full, zeros(512)}, {code(1, 1), append(full[:511:511], 1), zeros(511) + "1"}, {code(2, 2), slices.Repeat(integers(1), 256), strings.Repeat("01", 256)},
		{code(32), slices.Repeat(integers(0), 16), zeros(512)}, {code(1, 2, 2), append(full[:510:510], 2), zeros(510) + "11"}, {code(sixteen(32)...), slices.Repeat(integers(15), 16), strings.Repeat(zeros(28)+"1111", 16)},
	}
	for _, c := range cases {
		wantText(t, fmt.Sprint("EncodeLetters ", c.c, c.letters), toldText(impl.EncodeLetters(c.c, c.letters)), fmt.Sprintf("%q", c.want))
	}
	fails := []struct {
		c       impl.Code
		letters []int64
	}{
		{code(1), append(full, 0)}, {code(2, 2), slices.Repeat(integers(1), 257)}, {code(1, 2, 2), append(full[:511:511], 2)}, {code(32), slices.Repeat(integers(0), 17)}, {code(32), slices.Repeat(integers(0), 100000)},
		{code(1), integers(1)}, {code(1), integers(-1)}, {code(1, 1), integers(0, 1, 2)}, {code(1, 1), integers(2, 0)}, {code(1, 1), integers(0, -1, 1)}, {code(1, 1), integers(math.MaxInt64)}, {code(1, 1), integers(math.MinInt64)},
	}
	for _, c := range fails {
		wantText(t, fmt.Sprint("EncodeLetters ", c.c, c.letters), toldText(impl.EncodeLetters(c.c, c.letters)), "no")
	}
	for _, bad := range badCodes() {
		wantText(t, fmt.Sprint("EncodeLetters by ", bad), toldText(impl.EncodeLetters(bad, nil)), "no")
		wantText(t, fmt.Sprint("EncodeLetters by ", bad), toldText(impl.EncodeLetters(bad, integers(0))), "no")
	}
}

func TestPromise5DecodeLetters(t *testing.T) {
	cases := []struct {
		c    impl.Code
		bits string
		want string
	}{
		{code(2, 2, 1), "10011", "[0 2 1]"}, {code(2, 2, 1), "", "[]"}, {code(1), "000", "[0 0 0]"}, {code(32), zeros(32), "[0]"}, {code(32), zeros(64), "[0 0]"}, {code(3, 2, 5, 2, 5, 4), "101111001010011011000", "[4 0 5 3 2 1]"},
		{code(1), zeros(512), fmt.Sprint(slices.Repeat(integers(0), 512))}, {code(1, 1), ones(512), fmt.Sprint(slices.Repeat(integers(1), 512))}, {ladder(), ones(30), "[15 15]"}, {ladder(), ones(14) + "0", "[14]"},
		// Bits that end early.
		{code(2, 2, 1), "1", "no"}, {code(2, 2, 1), "1001", "no"}, {code(32), zeros(31), "no"}, {code(32), zeros(63), "no"}, {ladder(), ones(14), "no"}, {code(2, 2), "000", "no"}, {code(1, 32), "0001", "no"},
		// Bits with which no word begins.
		{code(1), "1", "no"}, {code(1), "0100", "no"}, {code(2, 2), "10", "no"}, {code(2, 2), "0011", "no"}, {code(2, 2), "0010", "no"}, {code(1, 32), "1" + zeros(30) + "1", "no"}, {code(32), ones(32), "no"}, {code(32, 32), zeros(30) + "10", "no"},
	}
	for _, c := range cases {
		wantText(t, fmt.Sprint("DecodeLetters ", c.c, c.bits), toldList(impl.DecodeLetters(c.c, c.bits)), c.want)
	}
	for _, bits := range badBits() {
		wantText(t, "DecodeLetters of "+bits, toldList(impl.DecodeLetters(code(1, 1), bits)), "no")
		wantText(t, "DecodeLetters of "+bits, toldList(impl.DecodeLetters(code(1), bits)), "no")
	}
	for _, bad := range badCodes() {
		for _, bits := range []string{"", "0", zeros(16)} {
			wantText(t, fmt.Sprint("DecodeLetters by ", bad, bits), toldList(impl.DecodeLetters(bad, bits)), "no")
		}
	}
}

func TestPromise5LettersAreReadBack(t *testing.T) {
	d := &drawn{21}
	for range 300 {
		for _, c := range goodCodes() {
			var letters []int64
			rest := int64(512)
			for range d.below(513) {
				letter := d.below(len(c.Longs))
				if rest -= c.Longs[letter]; rest < 0 {
					break
				}
				letters = append(letters, int64(letter))
			}
			bits, ok := impl.EncodeLetters(c, letters)
			wantBool(t, fmt.Sprint("EncodeLetters ", c, letters), ok, true)
			wantText(t, fmt.Sprint("DecodeLetters ", c, bits), toldList(impl.DecodeLetters(c, bits)), fmt.Sprint(letters))
		}
	}
}

// badWords are lists that are none of 1 to MaxLetters texts of bits of 1 to MaxLong bits.
func badWords() [][]string {
	many := slices.Repeat(words("01"), 16)
	return [][]string{
		nil, {}, {""}, {"0", ""}, {"", "1"}, {zeros(33)}, {"0", ones(33)}, {"2"}, {"0", "1", "2"}, {"0 "}, {"0", "1\x00"}, {"٠"}, {"\xff"}, {ones(512)}, {ones(513)},
		append(many, "1"), append(many[:15:15], ""), append(many[:15:15], "12"), slices.Repeat(words("0"), 17), slices.Repeat(words("0"), 1000),
	}
}

func TestPromise5IsPrefixFree(t *testing.T) {
	sixteenWords, _ := impl.WordsOf(code(sixteen(4)...))
	cases := []struct {
		words []string
		want  string
	}{
		{words("10", "11", "0"), "true"}, {words("0"), "true"}, {words(zeros(32)), "true"}, {words("0", "1"), "true"}, {sixteenWords, "true"}, {words(zeros(32), zeros(31)+"1", "1"), "true"}, {words("01", "001", "1"), "true"},
		{words("0", "01"), "false"}, {words("01", "0"), "false"}, {words("0", "0"), "false"}, {words("01", "10", "01"), "false"}, {words("1", "01", "00", "0"), "false"}, {words("10", "0", "11", "100"), "false"},
		{words(zeros(31), zeros(32)), "false"}, {words(zeros(32), "11", zeros(32)), "false"}, {append(slices.Clone(sixteenWords[:15]), "1110"), "false"},
		{append(words("000"), sixteenWords[1:]...), "false"}, {append(words("000"), sixteenWords[2:]...), "true"}, {append(slices.Clone(sixteenWords[2:]), "000", "0011"), "false"},
	}
	for _, c := range cases {
		wantText(t, fmt.Sprint("IsPrefixFree ", c.words), toldBool(impl.IsPrefixFree(c.words)), c.want)
	}
	for _, bad := range badWords() {
		wantText(t, fmt.Sprint("IsPrefixFree ", bad), toldBool(impl.IsPrefixFree(bad)), "no")
	}
}

// oneAmong returns a word with one digit 1.
func oneAmong(before, after int) string { return zeros(before) + "1" + zeros(after) }

// lateWords can be read in two ways, but the shortest text for this has 536 bits; without any one of them, they cannot.
func lateWords() []string {
	return words(
		zeros(32), oneAmong(24, 6), oneAmong(27, 3), oneAmong(22, 7), oneAmong(25, 2), oneAmong(4, 7), oneAmong(5, 23),
		oneAmong(30, 0), oneAmong(20, 8), oneAmong(13, 14), oneAmong(26, 4), oneAmong(17, 10), oneAmong(17, 12),
	)
}

// readings are words, whether they are unique, and the shortest text that can be made in two ways.
type readings struct {
	words  []string
	unique bool
	text   string
}

func someReadings() []readings {
	return []readings{
		{words("0", "01", "10"), false, "010"}, {words("0", "0"), false, "0"}, {words("1", "0", "10"), false, "10"}, {words("0", "1", "00", "11"), false, "00"}, {words("11", "1", "00", "0"), false, "00"},
		{words("01", "10", "0", "1"), false, "01"}, {words("10", "1", "00", "0001"), false, "10001"}, {words("010", "0100", "00", "1", "001"), false, "001"}, {words("1", "011", "01110", "1110", "10011"), false, "111011"},
		{words("10", "00", "10"), false, "10"}, {words("11", "11", "10", "10"), false, "10"}, {words("111", "0", "111", "00"), false, "00"}, {words("111", "1", "0", "000"), false, "000"}, {words(zeros(32), zeros(32)), false, zeros(32)},
		{words("0000", "000000001000", "100000001000", "0000100000001000"), false, "0000100000001000"}, {words("1", "00000111", "1000000000", "0000000"), false, "100000000000000111"},
		{words("00000000000001", "000000000001", "000000000010", "00000000000001000000000010"), false, "00000000000001000000000010"}, {words("001000", "0011", "1110", "0000", "001", "01000"), false, "001000001000"},
		{words("0010000", "111111", "00100", "0000100", "010101", "00000"), false, "001000000100"}, {words("000000000000", "000000000000000000000000"), false, "000000000000000000000000"},
		{words("1", "000000111", "100000000", "0000000"), false, "100000000000000111"}, {words("1", "000000", "10000", "00000000"), false, "1000000000000"}, {words("101", "01111", "11", "1001", "1010111", "1111001"), false, "10101111111001"},
		{words("11001110", "10001", "11", "00", "11101", "000111"), false, "110011101000111"}, {words("100", "1100", "101111", "011", "101", "1110"), false, "101111011101100"},
		{words("1", "0000000000", "10000", "00000000"), false, "000000000000000000"}, {words("00", "10", "000000000001101", "00000000000001101"), false, "00000000000001101"}, {words("10", "11", "011", "000", "000011111"), false, "000011111011"},
		// Texts of 32 bits, and of more.
		{words(zeros(32), zeros(4)), false, zeros(32)}, {words(zeros(15), zeros(17)), false, zeros(32)}, {words(zeros(16), zeros(17)), false, ""}, {words(zeros(31), zeros(32)), false, ""},
		{words("0000", "0001", zeros(31)+"1"), false, zeros(31) + "1"}, {words("1", oneAmong(0, 16), oneAmong(14, 0), oneAmong(30, 0)), false, "1" + zeros(30) + "1"},
		{words("1", oneAmong(0, 16), oneAmong(15, 0), oneAmong(31, 0)), false, ""}, {lateWords(), false, ""},
		{words("0"), true, ""}, {words(zeros(32)), true, ""}, {words("0", "1"), true, ""}, {words("10", "11", "0"), true, ""}, {words("0", "01"), true, ""}, {words("0", "01", "11"), true, ""}, {words("1", "10", "00"), true, ""},
		{words("01", "011", "0111", "111"), true, ""}, {words("01", "011", "11"), true, ""}, {words(zeros(32), "1"+zeros(31), ones(32)), true, ""},
	}
}

func TestPromise5IsUnique(t *testing.T) {
	for _, c := range someReadings() {
		wantText(t, fmt.Sprint("IsUnique ", c.words), toldBool(impl.IsUnique(c.words)), fmt.Sprint(c.unique))
	}
	for i := range lateWords() {
		without := slices.Delete(lateWords(), i, i+1)
		wantText(t, fmt.Sprint("IsUnique ", without), toldBool(impl.IsUnique(without)), "true")
	}
	for _, c := range goodCodes() {
		list, _ := impl.WordsOf(c)
		wantText(t, fmt.Sprint("IsUnique ", list), toldBool(impl.IsUnique(list)), "true")
	}
	for _, bad := range badWords() {
		wantText(t, fmt.Sprint("IsUnique ", bad), toldBool(impl.IsUnique(bad)), "no")
	}
}

func TestPromise5TwoReadings(t *testing.T) {
	for _, c := range someReadings() {
		want := "no"
		if c.text != "" {
			want = fmt.Sprintf("%q", c.text)
		}
		wantText(t, fmt.Sprint("TwoReadings ", c.words), toldText(impl.TwoReadings(c.words)), want)
		turned := slices.Clone(c.words)
		slices.Reverse(turned)
		wantText(t, fmt.Sprint("TwoReadings ", turned), toldText(impl.TwoReadings(turned)), want)
	}
	for _, bad := range badWords() {
		wantText(t, fmt.Sprint("TwoReadings ", bad), toldText(impl.TwoReadings(bad)), "no")
	}
}

// waysToMake returns in how many ways a text can be made of words.
func waysToMake(text string, words []string) int {
	ways := make([]int, len(text)+1)
	ways[0] = 1
	for i := range text {
		for _, word := range words {
			if ways[i] > 0 && strings.HasPrefix(text[i:], word) {
				ways[i+len(word)] += ways[i]
			}
		}
	}
	return ways[len(text)]
}

// firstOfTwoWays tries all texts of up to most bits, in order.
func firstOfTwoWays(words []string, most int) string {
	for long := 1; long <= most; long++ {
		for n := range 1 << long {
			if text := fmt.Sprintf("%0*b", long, n); waysToMake(text, words) >= 2 {
				return text
			}
		}
	}
	return ""
}

func TestPromise5TwoReadingsAreFirst(t *testing.T) {
	d := &drawn{22}
	for range 250 {
		var list []string
		for range 2 + d.below(4) {
			long := 1 + d.below(5)
			list = append(list, fmt.Sprintf("%0*b", long, d.below(1<<long)))
		}
		text, ok := impl.TwoReadings(list)
		unique, _ := impl.IsUnique(list)
		first := firstOfTwoWays(list, 11)
		if first == "" && ok {
			wantBool(t, fmt.Sprint("TwoReadings ", list, text, " is long and made in two ways"), len(text) > 11 && waysToMake(text, list) >= 2, true)
		} else {
			wantText(t, fmt.Sprint("TwoReadings ", list), text, first)
		}
		wantBool(t, fmt.Sprint("IsUnique ", list), unique, !ok)
	}
}

func TestPromise5CodesShared(t *testing.T) {
	lists := [][]int64{{2}, {}, {0, 1, 2}, nil, {1, 1}, slices.Repeat(integers(2), 512), slices.Repeat(integers(0), 256)}
	want := fmt.Sprintf("%q", words("0", "", "10110", "", "1111", zeros(512), strings.Repeat("10", 256)))
	for workers := int64(1); workers <= 8; workers++ {
		what := fmt.Sprint("CodesShared by ", workers)
		wantText(t, what, toldTexts(impl.CodesShared(code(2, 2, 1), lists, workers)), want)
		wantText(t, what, toldTexts(impl.CodesShared(code(2, 2, 1), nil, workers)), "[]")
		wantText(t, what, toldTexts(impl.CodesShared(code(1), slices.Repeat([][]int64{{0}}, 16), workers)), fmt.Sprintf("%q", slices.Repeat(words("0"), 16)))
		wantText(t, what, toldTexts(impl.CodesShared(code(1), slices.Repeat([][]int64{{0}}, 17), workers)), "no")
		wantText(t, what, toldTexts(impl.CodesShared(code(1), make([][]int64, 1000), workers)), "no")
		for at := range lists {
			for _, bad := range [][]int64{{3}, {-1}, {0, math.MaxInt64}, slices.Repeat(integers(2), 513), slices.Repeat(integers(0), 257)} {
				spoilt := slices.Clone(lists)
				spoilt[at] = bad
				wantText(t, what, toldTexts(impl.CodesShared(code(2, 2, 1), spoilt, workers)), "no")
			}
		}
		for _, bad := range badCodes() {
			wantText(t, fmt.Sprint(what, bad), toldTexts(impl.CodesShared(bad, nil, workers)), "no")
			wantText(t, fmt.Sprint(what, bad), toldTexts(impl.CodesShared(bad, [][]int64{{}}, workers)), "no")
		}
	}
	for _, workers := range integers(0, -1, 9, math.MaxInt64, math.MinInt64) {
		wantText(t, fmt.Sprint("CodesShared by ", workers), toldTexts(impl.CodesShared(code(2, 2, 1), lists, workers)), "no")
		wantText(t, fmt.Sprint("CodesShared by ", workers), toldTexts(impl.CodesShared(code(2, 2, 1), nil, workers)), "no")
	}
}
