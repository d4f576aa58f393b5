package tests

import (
	"fmt"
	"math"
	"slices"
	"testing"

	"loop.example/g01364/impl"
)

func toldMended(word, wrong int64, ok bool) string {
	return outcome(fmt.Sprint(word, " but ", wrong), word == 0 && wrong == 0, ok)
}

func TestPromise7EncodeBits(t *testing.T) {
	cases := []struct {
		p       impl.Parity
		message int64
		want    string
	}{
		{parity(1, 1), 0, "0"}, {parity(1, 1), 1, "1"}, {parity(4, 15), 1, "15"}, {parity(3, 3, 6), 0, "0"}, {parity(3, 3, 6), 1, "3"}, {parity(3, 3, 6), 2, "6"}, {parity(3, 3, 6), 3, "5"}, {parity(3, 6, 3), 1, "6"}, {hamming(), 5, "45"}, {hamming(), 12, "97"}, {hamming(), 15, "127"}, {reed(), 2, "15"}, {reed(), 14, "105"}, {cyclic(), 79, "32767"}, {cyclic(), 127, "22735"}, {doubled(), 255, "65535"}, {parity(9, 256, 384, 320, 272, 264, 260, 258, 257), 92, "90"},
		// The message has a digit more than there are Rows.
		{parity(1, 1), 2, "no"}, {parity(4, 15), 2, "no"}, {parity(4, 15), 3, "no"}, {parity(3, 3, 6), 4, "no"}, {parity(3, 3, 6), 7, "no"}, {hamming(), 16, "no"}, {hamming(), 17, "no"}, {cyclic(), 128, "no"}, {doubled(), 256, "no"}, {parity(16, 1), 2, "no"},
	}
	for _, c := range cases {
		wantText(t, fmt.Sprint("EncodeBits ", c.p, c.message), toldInt(impl.EncodeBits(c.p, c.message)), c.want)
	}
	for _, p := range someParities() {
		for _, message := range notWords(int64(len(p.Rows))) {
			wantText(t, fmt.Sprint("EncodeBits ", p, message), toldInt(impl.EncodeBits(p, message)), "no")
		}
	}
	for _, p := range notParities() {
		for message := range int64(3) {
			wantText(t, fmt.Sprint("EncodeBits ", p.Wide, len(p.Rows), message), toldInt(impl.EncodeBits(p, message)), "no")
		}
	}
}

// wantMessages tells for all messages whether they come back, and for words whether they are in the code.
func wantMessages(t *testing.T, p impl.Parity, words []int64) {
	t.Helper()
	sums := sumsOf(p.Rows)
	for message, sum := range sums {
		if got, ok := impl.EncodeBits(p, int64(message)); !ok || got != sum {
			t.Fatalf("EncodeBits %v, %d: got %d, %v", p, message, got, ok)
		}
	}
	for _, word := range words {
		message := slices.Index(sums, word)
		want := "no"
		if message >= 0 {
			want = fmt.Sprint(message)
		}
		if got := toldInt(impl.DecodeBits(p, word)); got != want {
			t.Fatalf("DecodeBits %v, %d: got %s, want %s", p, word, got, want)
		}
		if in, ok := impl.InCode(p, word); !ok || in != (message >= 0) {
			t.Fatalf("InCode %v, %d: got %v, %v", p, word, in, ok)
		}
	}
}

// allWords returns the words of wide bits.
func allWords(wide int64) []int64 {
	var words []int64
	for word := range int64(1) << wide {
		words = append(words, word)
	}
	return words
}

func TestPromise7MessagesComeBack(t *testing.T) {
	d := &drawn{64}
	for i := range 400 {
		p := d.parity(1 + i%8)
		wantMessages(t, p, allWords(p.Wide))
	}
	for i := range 400 {
		p := d.parity(9 + i%8)
		words := sumsOf(p.Rows)
		for range 20 {
			words = append(words, int64(d.below(1<<p.Wide)))
		}
		wantMessages(t, p, words)
	}
	for _, p := range someParities() {
		wantMessages(t, p, append(sumsOf(p.Rows), 0, 1, 1<<p.Wide-1, 1<<p.Wide-2, 1<<(p.Wide-1)))
	}
}

func TestPromise7NotWords(t *testing.T) {
	for _, p := range someParities() {
		for _, word := range notWords(p.Wide) {
			what := fmt.Sprint(" of ", p, word)
			wantText(t, "InCode"+what, toldBool(impl.InCode(p, word)), "no")
			wantText(t, "DecodeBits"+what, toldInt(impl.DecodeBits(p, word)), "no")
			wantText(t, "SyndromeOf"+what, toldInt(impl.SyndromeOf(p, word)), "no")
			wantText(t, "MendWord"+what, toldMended(impl.MendWord(p, word)), "no")
			wantText(t, "ListWords"+what, toldList(impl.ListWords(p, word, 16)), "no")
			wantText(t, "MendsShared"+what, toldList(impl.MendsShared(p, integers(0, word, 1), 2)), "no")
		}
	}
}

func TestPromise7WordsOfNotParities(t *testing.T) {
	for _, p := range notParities() {
		for word := range int64(2) {
			what := fmt.Sprint(" of ", p.Wide, len(p.Rows), word)
			wantText(t, "InCode"+what, toldBool(impl.InCode(p, word)), "no")
			wantText(t, "DecodeBits"+what, toldInt(impl.DecodeBits(p, word)), "no")
			wantText(t, "SyndromeOf"+what, toldInt(impl.SyndromeOf(p, word)), "no")
			wantText(t, "MendWord"+what, toldMended(impl.MendWord(p, word)), "no")
			wantText(t, "ListWords"+what, toldList(impl.ListWords(p, word, 16)), "no")
			wantText(t, "MendsShared"+what, toldList(impl.MendsShared(p, integers(word), 2)), "no")
		}
		what := fmt.Sprint(" of ", p.Wide, len(p.Rows))
		wantText(t, "LeadersOf"+what, toldList(impl.LeadersOf(p)), "no")
		wantText(t, "WeightsOf"+what, toldList(impl.WeightsOf(p)), "no")
		wantText(t, "DistanceOf"+what, toldInt(impl.DistanceOf(p)), "no")
		wantText(t, "IsPerfect"+what, toldBool(impl.IsPerfect(p)), "no")
		wantText(t, "MendsShared of no words"+what, toldList(impl.MendsShared(p, nil, 1)), "no")
	}
}

func TestPromise7WithoutDuals(t *testing.T) {
	for _, p := range withoutDuals() {
		for _, word := range integers(0, 1, 1<<p.Wide-1) {
			what := fmt.Sprint(" of ", p, word)
			wantText(t, "SyndromeOf"+what, toldInt(impl.SyndromeOf(p, word)), "no")
			wantText(t, "MendWord"+what, toldMended(impl.MendWord(p, word)), "no")
			wantText(t, "MendsShared"+what, toldList(impl.MendsShared(p, integers(word), 2)), "no")
		}
		wantText(t, fmt.Sprint("LeadersOf ", p), toldList(impl.LeadersOf(p)), "no")
	}
}

func TestPromise7SyndromeOf(t *testing.T) {
	cases := []struct {
		p    impl.Parity
		word int64
		want string
	}{
		{parity(4, 15), 0, "0"}, {parity(4, 15), 15, "0"}, {parity(4, 15), 8, "7"}, {parity(4, 15), 1, "1"}, {parity(4, 15), 2, "2"}, {parity(4, 15), 5, "5"}, {hamming(), 0, "0"}, {hamming(), 127, "0"}, {hamming(), 64, "7"}, {hamming(), 14, "5"}, {hamming(), 90, "4"}, {reed(), 128, "14"}, {reed(), 90, "0"}, {cyclic(), 16384, "232"}, {cyclic(), 23130, "230"}, {doubled(), 32768, "128"}, {doubled(), 14, "14"}, {parity(2, 1), 1, "0"}, {parity(2, 1), 3, "1"}, {parity(2, 2), 3, "1"}, {parity(9, 256, 384, 320, 272, 264, 260, 258, 257), 511, "1"}, {mixedRows(), 63, "7"},
	}
	for _, c := range cases {
		wantText(t, fmt.Sprint("SyndromeOf ", c.p, c.word), toldInt(impl.SyndromeOf(c.p, c.word)), c.want)
	}
	for _, p := range withDuals() {
		rows := dualOf(p).Rows
		for i := range int64(200) {
			word := i * 7919 % (1 << p.Wide)
			want := int64(0)
			for k, row := range rows {
				want += weight(row&word) % 2 << k
			}
			wantText(t, fmt.Sprint("SyndromeOf ", p, word), toldInt(impl.SyndromeOf(p, word)), fmt.Sprint(want))
		}
	}
}

func TestPromise7LeadersOf(t *testing.T) {
	cases := []struct {
		p    impl.Parity
		want []int64
	}{
		{parity(2, 3), integers(0, 1)}, {parity(2, 1), integers(0, 2)}, {parity(3, 7), integers(0, 1, 2, 4)}, {parity(3, 3, 6), integers(0, 1)}, {parity(4, 15), integers(0, 1, 2, 3, 4, 5, 6, 8)}, {parity(5, 22, 11), integers(0, 1, 2, 8, 4, 5, 16, 12)}, {hamming(), integers(0, 1, 2, 4, 8, 16, 32, 64)}, {mixedRows(), integers(0, 1, 2, 4, 8, 16, 32, 12)},
		{reed(), integers(0, 1, 2, 3, 4, 5, 6, 8, 16, 17, 18, 32, 20, 64, 128, 24)}, {doubled(), allWords(8)}, {parity(16, powers(256, 8)...), allWords(8)}, {parity(9, 256, 384, 320, 272, 264, 260, 258, 257), integers(0, 32)},
	}
	for _, c := range cases {
		wantText(t, fmt.Sprint("LeadersOf ", c.p), toldList(impl.LeadersOf(c.p)), fmt.Sprint(c.want))
	}
}

// bestOf returns for each syndrome the word with the least weight, the least one of several.
func bestOf(p impl.Parity) []int64 {
	rows, best := dualOf(p).Rows, map[int64]int64{}
	for word := range int64(1) << p.Wide {
		syndrome := int64(0)
		for k, row := range rows {
			syndrome += weight(row&word) % 2 << k
		}
		if old, found := best[syndrome]; !found || weight(word) < weight(old) {
			best[syndrome] = word
		}
	}
	var leaders []int64
	for syndrome := range int64(1) << len(rows) {
		leaders = append(leaders, best[syndrome])
	}
	return leaders
}

func TestPromise7LeadersAreLeast(t *testing.T) {
	d := &drawn{65}
	all := withDuals()
	for i := range 400 {
		if p := d.parity(2 + i%9); impl.ValidParity(dualOf(p)) {
			all = append(all, p)
		}
	}
	for _, p := range all {
		best := bestOf(p)
		wantText(t, fmt.Sprint("LeadersOf ", p), toldList(impl.LeadersOf(p)), fmt.Sprint(best))
		for range 20 {
			word := int64(d.below(1 << p.Wide))
			syndrome, _ := impl.SyndromeOf(p, word)
			leader := best[syndrome]
			wantText(t, fmt.Sprint("MendWord ", p, word), toldMended(impl.MendWord(p, word)), toldMended(word^leader, weight(leader), true))
		}
	}
}

func TestPromise7MendWord(t *testing.T) {
	cases := []struct {
		p    impl.Parity
		word int64
		want string
	}{
		{parity(4, 15), 0b1110, "15 but 1"}, {parity(4, 15), 0b1000, "0 but 1"}, {parity(4, 15), 0b1111, "15 but 0"}, {parity(4, 15), 0b0011, "0 but 2"}, {parity(4, 15), 0b1100, "15 but 2"}, {parity(4, 15), 0b1010, "15 but 2"}, {parity(4, 15), 0b0110, "0 but 2"}, {parity(4, 15), 0, "0 but 0"},
		{hamming(), 64, "0 but 1"}, {hamming(), 3, "7 but 1"}, {hamming(), 12, "76 but 1"}, {hamming(), 126, "127 but 1"}, {hamming(), 127, "127 but 0"}, {mixedRows(), 63, "51 but 2"}, {mixedRows(), 12, "0 but 2"}, {mixedRows(), 26, "30 but 1"}, {reed(), 12, "15 but 2"}, {reed(), 90, "90 but 0"}, {cyclic(), 14, "17422 but 2"}, {cyclic(), 23130, "24154 but 1"}, {doubled(), 14, "0 but 3"}, {doubled(), 65534, "65535 but 1"}, {doubled(), 32768, "32896 but 1"}, {parity(2, 1), 2, "0 but 1"}, {parity(2, 1), 3, "1 but 1"}, {parity(3, 3, 6), 7, "6 but 1"}, {parity(9, 511), 0b111100000, "0 but 4"}, {parity(9, 511), 0b111110000, "511 but 4"},
	}
	for _, c := range cases {
		wantText(t, fmt.Sprint("MendWord ", c.p, c.word), toldMended(impl.MendWord(c.p, c.word)), c.want)
	}
}

// Each word of a code in which at most as many bits are wrong as it can mend is mended.
func TestPromise7FewWrongBitsAreMended(t *testing.T) {
	all := withDuals()
	for n := int64(2); n <= 9; n++ {
		repeat, _ := impl.RepeatParity(n)
		all = append(all, repeat)
	}
	for r := int64(2); r <= 3; r++ {
		code, _ := impl.HammingOf(r)
		longer, _ := impl.ExtendParity(code)
		all = append(all, code, longer)
	}
	d := &drawn{66}
	for range 20 {
		if p := d.parity(2 + d.below(9)); impl.ValidParity(dualOf(p)) {
			all = append(all, p)
		}
	}
	for _, p := range all {
		sums := sumsOf(p.Rows)
		mends := slices.MinFunc(sums[1:], func(a, b int64) int { return int(weight(a) - weight(b)) })
		var words, wants []int64
		for wrong := range int64(1) << p.Wide {
			if 2*weight(wrong) >= weight(mends) {
				continue
			}
			for i := 0; i < len(sums); i += 1 + len(sums)/16 {
				words, wants = append(words, sums[i]^wrong), append(wants, sums[i])
			}
		}
		for len(words) > 0 {
			count := min(len(words), 64)
			wantText(t, fmt.Sprint("MendsShared ", p, words[:count]), toldList(impl.MendsShared(p, words[:count], 3)), fmt.Sprint(wants[:count]))
			wantText(t, fmt.Sprint("MendWord ", p, words[0]), toldMended(impl.MendWord(p, words[0])), toldMended(wants[0], weight(words[0]^wants[0]), true))
			words, wants = words[count:], wants[count:]
		}
	}
}

func TestPromise7ListWords(t *testing.T) {
	cases := []struct {
		p         impl.Parity
		word, far int64
		want      string
	}{
		{parity(4, 15), 7, 3, "[0 15]"}, {parity(4, 15), 7, 2, "[15]"}, {parity(4, 15), 7, 1, "[15]"}, {parity(4, 15), 7, 0, "[]"}, {parity(4, 15), 15, 0, "[15]"}, {parity(4, 15), 5, 1, "[]"}, {parity(4, 15), 5, 2, "[0 15]"}, {parity(1, 1), 0, 0, "[0]"}, {parity(1, 1), 0, 1, "[0 1]"}, {parity(1, 1), 1, 16, "[0 1]"},
		{hamming(), 1, 0, "[]"}, {hamming(), 1, 1, "[0]"}, {hamming(), 1, 2, "[0 7 25 97]"}, {hamming(), 126, 2, "[30 102 120 127]"}, {mixedRows(), 63, 1, "[]"}, {mixedRows(), 63, 2, "[30 45 51]"}, {reed(), 12, 2, "[0 15 60 204]"}, {cyclic(), 14, 2, "[17422]"}, {parity(3, 3, 6), 7, 1, "[3 5 6]"}, {parity(3, 6, 3), 7, 16, "[0 3 5 6]"},
		{parity(9, 256, 384, 320, 272, 264, 260, 258, 257), 90, 1, "[26 74 82 88 90 91 94 218 346]"}, {doubled(), 65534, 1, "[65278 65535]"},
		// These codes have no dual ones.
		{parity(16, 65535), 32767, 1, "[65535]"}, {parity(16, 65535), 0, 15, "[0]"}, {parity(16, 65535), 0, 16, "[0 65535]"}, {parity(3, 1, 2, 4), 5, 1, "[1 4 5 7]"}, {parity(12, 4095, 1365), 1364, 4, "[1365]"}, {parity(12, 4095, 1365), 1364, 5, "[0 1365]"}, {parity(12, 4095, 1365), 1364, 7, "[0 1365 4095]"},
		{parity(4, 15), 7, -1, "no"}, {parity(4, 15), 7, 17, "no"}, {hamming(), 7, 17, "no"}, {doubled(), 7, 17, "no"}, {doubled(), 7, -1, "no"}, {doubled(), 7, math.MaxInt64, "no"}, {doubled(), 7, math.MinInt64, "no"},
	}
	for _, c := range cases {
		wantText(t, fmt.Sprint("ListWords ", c.p, c.word, c.far), toldList(impl.ListWords(c.p, c.word, c.far)), c.want)
	}
	d := &drawn{67}
	for i := range 1000 {
		p, far := d.parity(1+i%16), int64(d.below(17))
		word := int64(d.below(1 << p.Wide))
		near := slices.DeleteFunc(sortedSums(p.Rows), func(sum int64) bool { return weight(sum^word) > far })
		wantText(t, fmt.Sprint("ListWords ", p, word, far), toldList(impl.ListWords(p, word, far)), fmt.Sprint(near))
	}
}

func TestPromise7WeightsOf(t *testing.T) {
	cases := []struct {
		p        impl.Parity
		weights  []int64
		distance int64
		perfect  bool
	}{
		{parity(1, 1), integers(1, 1), 1, true}, {parity(2, 3), integers(1, 0, 1), 2, false}, {parity(2, 1), integers(1, 1, 0), 1, false}, {parity(2, 1, 2), integers(1, 2, 1), 1, true}, {parity(2, 3, 2), integers(1, 2, 1), 1, true}, {parity(3, 7), integers(1, 0, 0, 1), 3, true}, {parity(3, 3, 5), integers(1, 0, 3, 0), 2, false}, {parity(3, 1, 2, 4), integers(1, 3, 3, 1), 1, true}, {parity(4, 15), integers(1, 0, 0, 0, 1), 4, false}, {parity(4, 6, 9), integers(1, 0, 2, 0, 1), 2, false}, {parity(5, 31), integers(1, 0, 0, 0, 0, 1), 5, true}, {parity(5, 22, 11), integers(1, 0, 0, 2, 1, 0), 3, false}, {parity(5, 7), integers(1, 0, 0, 1, 0, 0), 3, false}, {mixedRows(), integers(1, 0, 0, 4, 3, 0, 0), 3, false},
		{hamming(), integers(1, 0, 0, 7, 7, 0, 0, 1), 3, true}, {parity(7, powers(11, 4)...), integers(1, 0, 0, 7, 7, 0, 0, 1), 3, true}, {parity(7, 127), integers(1, 0, 0, 0, 0, 0, 0, 1), 7, true}, {parity(8, powers(1, 8)...), integers(1, 8, 28, 56, 70, 56, 28, 8, 1), 1, true}, {reed(), integers(1, 0, 0, 0, 14, 0, 0, 0, 1), 4, false}, {parity(12, 4095, 1365), integers(1, 0, 0, 0, 0, 0, 2, 0, 0, 0, 0, 0, 1), 6, false}, {cyclic(), integers(1, 0, 0, 0, 0, 18, 30, 15, 15, 30, 18, 0, 0, 0, 0, 1), 5, false}, {parity(15, 32767), integers(1, 0, 0, 0, 0, 0, 0, 0, 0, 0, 0, 0, 0, 0, 0, 1), 15, true},
		{parity(16, 65535), integers(1, 0, 0, 0, 0, 0, 0, 0, 0, 0, 0, 0, 0, 0, 0, 0, 1), 16, false}, {parity(16, 32768, 1), integers(1, 2, 1, 0, 0, 0, 0, 0, 0, 0, 0, 0, 0, 0, 0, 0, 0), 1, false}, {doubled(), integers(1, 0, 8, 0, 28, 0, 56, 0, 70, 0, 56, 0, 28, 0, 8, 0, 1), 2, false},
		{parity(16, 43690, 52428, 61680, 65280, 65535, 4369, 273), integers(1, 1, 0, 1, 4, 3, 0, 27, 54, 27, 0, 3, 4, 1, 0, 1, 1), 1, false},
	}
	for _, c := range cases {
		wantText(t, fmt.Sprint("WeightsOf ", c.p), toldList(impl.WeightsOf(c.p)), fmt.Sprint(c.weights))
		wantText(t, fmt.Sprint("DistanceOf ", c.p), toldInt(impl.DistanceOf(c.p)), fmt.Sprint(c.distance))
		wantText(t, fmt.Sprint("IsPerfect ", c.p), toldBool(impl.IsPerfect(c.p)), fmt.Sprint(c.perfect))
	}
}

// isFilled reports whether each word is near to just one word of a code.
func isFilled(wide int64, sums []int64, far int64) bool {
	for word := range int64(1) << wide {
		count := 0
		for _, sum := range sums {
			if weight(sum^word) <= far {
				count++
			}
		}
		if count != 1 {
			return false
		}
	}
	return true
}

func TestPromise7WeightsAreCounted(t *testing.T) {
	d := &drawn{68}
	for i := range 1000 {
		p := d.parity(1 + i%16)
		weights, sums := make([]int64, p.Wide+1), sumsOf(p.Rows)
		for _, sum := range sums {
			weights[weight(sum)]++
		}
		distance := int64(slices.IndexFunc(weights[1:], func(n int64) bool { return n > 0 })) + 1
		wantText(t, fmt.Sprint("WeightsOf ", p), toldList(impl.WeightsOf(p)), fmt.Sprint(weights))
		wantText(t, fmt.Sprint("DistanceOf ", p), toldInt(impl.DistanceOf(p)), fmt.Sprint(distance))
		wantText(t, fmt.Sprint("IsPerfect ", p), toldBool(impl.IsPerfect(p)), fmt.Sprint(isFilled(p.Wide, sums, (distance-1)/2)))
	}
}

func TestPromise7FarOfBits(t *testing.T) {
	cases := []struct {
		a, b int64
		want string
	}{
		{0, 0, "0"}, {12, 10, "2"}, {0, 65535, "16"}, {65535, 0, "16"}, {65535, 65535, "0"}, {43690, 21845, "16"}, {32768, 0, "1"}, {32768, 1, "2"}, {7, 8, "4"}, {255, 65280, "16"}, {255, 4080, "8"},
		{65536, 0, "no"}, {0, 65536, "no"}, {65536, 65536, "no"}, {-1, 0, "no"}, {0, -1, "no"}, {-1, -1, "no"}, {65537, 1, "no"}, {1, 1 << 32, "no"}, {math.MaxInt64, 0, "no"}, {0, math.MinInt64, "no"},
	}
	for _, c := range cases {
		wantText(t, fmt.Sprint("FarOfBits ", c.a, c.b), toldInt(impl.FarOfBits(c.a, c.b)), c.want)
	}
	for i := range int64(4000) {
		a, b := i*40503%65536, i*i*31%65536
		wantText(t, fmt.Sprint("FarOfBits ", a, b), toldInt(impl.FarOfBits(a, b)), fmt.Sprint(weight(a^b)))
	}
}

func TestPromise7MendsShared(t *testing.T) {
	cases := []struct {
		p       impl.Parity
		words   []int64
		workers int64
		want    string
	}{
		{parity(4, 15), integers(1, 13), 2, "[0 15]"}, {parity(4, 15), integers(13, 1), 2, "[15 0]"}, {parity(4, 15), integers(3), 8, "[0]"}, {parity(4, 15), integers(3), 1, "[0]"}, {hamming(), integers(64, 3, 12, 126, 127, 0), 4, "[0 7 76 127 127 0]"}, {hamming(), integers(), 1, "[]"}, {hamming(), nil, 8, "[]"}, {parity(16, 1), nil, 1, "[]"}, {parity(1, 1), integers(), 8, "[]"},
		{parity(4, 15), repeated(64, 14), 3, fmt.Sprint(repeated(64, 15))}, {parity(4, 15), repeated(65, 14), 3, "no"}, {doubled(), repeated(64, 14), 8, fmt.Sprint(repeated(64, 0))}, {doubled(), repeated(65, 0), 8, "no"}, {doubled(), make([]int64, 100000), 8, "no"}, {parity(16, 1), repeated(65, 0), 1, "no"},
		{parity(4, 15), integers(1, 16), 2, "no"}, {parity(4, 15), integers(-1, 1), 2, "no"}, {parity(4, 15), append(repeated(63, 14), 16), 3, "no"}, {parity(16, 1), integers(0), 1, "no"}, {parity(1, 1), integers(0), 1, "no"},
	}
	for _, c := range cases {
		wantText(t, fmt.Sprint("MendsShared ", c.p, c.words, c.workers), toldList(impl.MendsShared(c.p, c.words, c.workers)), c.want)
		for workers := int64(1); workers <= 8; workers++ {
			wantText(t, fmt.Sprint("MendsShared ", c.p, c.words, workers), toldList(impl.MendsShared(c.p, c.words, workers)), c.want)
		}
		for _, workers := range integers(0, -1, 9, 10, 1<<32+1, math.MaxInt64, math.MinInt64) {
			wantText(t, fmt.Sprint("MendsShared ", c.p, c.words, workers), toldList(impl.MendsShared(c.p, c.words, workers)), "no")
		}
	}
}
