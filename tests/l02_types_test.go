package tests

import (
	"fmt"
	"math"
	"slices"
	"testing"

	"loop.example/g01364/impl"
)

func TestPromise3CountTypes(t *testing.T) {
	cases := []struct {
		n, letters int64
		want       string
	}{
		{5, 3, "21"}, {0, 1, "1"}, {0, 8, "1"}, {1, 8, "8"}, {30, 1, "1"}, {30, 2, "31"}, {30, 8, "10295472"}, {29, 8, "8347680"},
		{31, 1, "no"}, {31, 8, "no"}, {-1, 1, "no"}, {5, 0, "no"}, {5, 9, "no"}, {5, -1, "no"}, {0, 0, "no"},
		{math.MaxInt64, 8, "no"}, {math.MinInt64, 8, "no"}, {8, math.MaxInt64, "no"}, {8, math.MinInt64, "no"},
	}
	for _, c := range cases {
		wantText(t, fmt.Sprintf("CountTypes %d, %d", c.n, c.letters), toldInt(impl.CountTypes(c.n, c.letters)), c.want)
	}
}

func TestPromise3WordsOfType(t *testing.T) {
	cases := []struct {
		counts []int64
		want   string
	}{
		{[]int64{2, 2, 1}, "30"}, {[]int64{0}, "1"}, {[]int64{0, 0, 0}, "1"}, {[]int64{20}, "1"}, {[]int64{10, 10}, "184756"}, {[]int64{0, 20, 0}, "1"},
		{[]int64{3, 3, 3, 3, 2, 2, 2, 2}, "117327450240000"}, {[]int64{1, 1, 1, 1, 1, 1, 1, 1}, "40320"}, {[]int64{19, 1}, "20"}, {[]int64{1, 19}, "20"},
		{nil, "no"}, {[]int64{}, "no"}, {[]int64{21}, "no"}, {[]int64{20, 1}, "no"}, {[]int64{1, 20}, "no"}, {[]int64{-1}, "no"}, {[]int64{-1, 5}, "no"},
		{[]int64{20, -1, 1}, "no"}, {make([]int64, 9), "no"}, {[]int64{math.MaxInt64, math.MaxInt64, 2}, "no"}, {[]int64{math.MaxInt64, 1}, "no"}, {[]int64{math.MinInt64}, "no"},
	}
	for _, c := range cases {
		wantText(t, fmt.Sprint("WordsOfType ", c.counts), toldInt(impl.WordsOfType(c.counts)), c.want)
	}
}

func TestPromise3TypeChance(t *testing.T) {
	cases := []struct {
		row    []float32
		counts []int64
		want   string
	}{
		{[]float32{0.5, 0.5}, []int64{1, 1}, "3f000000"}, {four(), []int64{1, 2, 0, 3}, "3c7ba885"}, {four(), []int64{0, 0, 0, 0}, "3f800000"},
		{gaps(), []int64{0, 3, 0, 2}, "3e9e0dee"}, {gaps(), []int64{1, 0, 0, 0}, "00000000"}, {gaps(), []int64{0, 0, 1, 0}, "80000000"},
		{[]float32{0.3, 0.7}, []int64{10, 10}, "3cfc741e"}, {[]float32{1}, []int64{20}, "3f800000"}, {[]float32{highest()}, []int64{20}, "3f829593"},
		{[]float32{0.1, 0.1, 0.1, 0.1, 0.1, 0.1, 0.2, 0.2}, []int64{3, 3, 3, 3, 2, 2, 2, 2}, "379d796c"},
		{[]float32{1}, []int64{21}, "no"}, {[]float32{1}, []int64{-1}, "no"}, {[]float32{1}, nil, "no"}, {nil, nil, "no"},
		{[]float32{0.5, 0.5}, []int64{1}, "no"}, {[]float32{1}, []int64{1, 0}, "no"}, {append(make([]float32, 8), 1), make([]int64, 9), "no"},
	}
	for _, c := range cases {
		wantText(t, fmt.Sprint("TypeChance of ", c.row, " and ", c.counts), toldNumber(impl.TypeChance(c.row, c.counts)), c.want)
	}
	for _, row := range badRows() {
		wantText(t, fmt.Sprint("TypeChance of ", row), toldNumber(impl.TypeChance(row, make([]int64, len(row)))), "no")
	}
}

// typesOf returns all types of words of n letters over some.
func typesOf(n, letters int64) [][]int64 {
	if letters == 1 {
		return [][]int64{{n}}
	}
	var types [][]int64
	for first := int64(0); first <= n; first++ {
		for _, rest := range typesOf(n-first, letters-1) {
			types = append(types, append([]int64{first}, rest...))
		}
	}
	return types
}

func TestPromise3TypesFitTogether(t *testing.T) {
	d := &drawn{6}
	for letters := int64(1); letters <= 5; letters++ {
		words := int64(1)
		for n := int64(0); n <= 8; n++ {
			types, row := typesOf(n, letters), d.row(int(letters))
			sum, chances := int64(0), float32(0)
			for _, counts := range types {
				count, _ := impl.WordsOfType(counts)
				chance, _ := impl.TypeChance(row, counts)
				sum += count
				chances += chance
			}
			count, ok := impl.CountTypes(n, letters)
			if !ok || count != int64(len(types)) || sum != words || !near(chances, 1) {
				t.Errorf("%d letters of %d: %d types, not %d, of %d words, with chances of %v", n, letters, count, len(types), sum, chances)
			}
			words *= letters
		}
	}
}

func toldDraw(letters []int64, seed int64, ok bool) string {
	return outcome(fmt.Sprint(letters, seed), len(letters) == 0 && seed == 0, ok)
}

func TestPromise3DrawLetters(t *testing.T) {
	cases := []struct {
		row         []float32
		seed, count int64
		want        string
	}{
		{[]float32{0, 1}, 0, 2, "[1 1] 1196435762"}, {four(), 0, 10, "[1 1 3 3 2 3 2 3 2 2] 2498801434"}, {four(), 4294967295, 10, "[1 1 1 3 3 3 3 3 3 2] 2252062033"},
		{quarters(), 12345, 20, "[0 0 1 1 3 0 0 1 1 2 0 1 3 0 1 0 0 3 0 3] 4092090893"}, {[]float32{1}, 7, 3, "[0 0 0] 2630631676"},
		{four(), 4294967295, 0, "[] 4294967295"}, {four(), 0, 0, "[] 0"},
		{four(), -1, 1, "no"}, {four(), 4294967296, 1, "no"}, {four(), 4294967296, 0, "no"}, {four(), 1, 65, "no"}, {four(), 1, -1, "no"},
		{four(), math.MaxInt64, 1, "no"}, {four(), math.MinInt64, 1, "no"}, {four(), 1, math.MaxInt64, "no"}, {four(), 1, math.MinInt64, "no"},
	}
	for _, c := range cases {
		wantText(t, fmt.Sprint("DrawLetters ", c.row, c.seed, c.count), toldDraw(impl.DrawLetters(c.row, c.seed, c.count)), c.want)
	}
	for _, row := range badRows() {
		wantText(t, fmt.Sprint("DrawLetters ", row), toldDraw(impl.DrawLetters(row, 1, 1)), "no")
	}
}

// seedBefore returns the seed that becomes seed when a letter is drawn.
func seedBefore(seed uint32) int64 {
	inverse := uint32(1664525)
	for range 5 {
		inverse *= 2 - 1664525*inverse
	}
	return int64((seed - 1013904223) * inverse)
}

func TestPromise3DrawnShares(t *testing.T) {
	half := []float32{0.5, 0.25, 0.25}
	// The sum of chances of this row is less than the greatest shares.
	short := []float32{0.25, 0.7495, 0, num(minusZero)}
	cases := []struct {
		row  []float32
		seed uint32
		want int64
	}{
		{half, 0, 0}, {half, 0x7fffffff, 0}, {half, 0x80000000, 1}, {half, 0xbfffffff, 1}, {half, 0xc0000000, 2}, {half, 0xffffffff, 2},
		{[]float32{0, 1}, 0, 1}, {[]float32{0, 1}, 255, 1}, {[]float32{num(minusZero), 0x1p-24, 1}, 0, 1}, {[]float32{0, 0x1p-24, 1}, 255, 1}, {[]float32{0, 0x1p-24, 1}, 256, 2},
		{short, 0x3fffffff, 0}, {short, 0x40000000, 1}, {short, 0xffdf0000, 1}, {short, 0xffffffff, 1}, {[]float32{lowest(), 0}, 0xffffffff, 0}, {[]float32{0, lowest()}, 0xffffffff, 1},
	}
	for _, c := range cases {
		letters, seed, ok := impl.DrawLetters(c.row, seedBefore(c.seed), 1)
		if !ok || seed != int64(c.seed) || !slices.Equal(letters, []int64{c.want}) {
			t.Errorf("DrawLetters %v by the seed %08x: got %v, seed %08x, %v, want %d", c.row, c.seed, letters, seed, ok, c.want)
		}
	}
}

func TestPromise3DrawsGoOn(t *testing.T) {
	d := &drawn{7}
	for range 100 {
		row := d.row(1 + d.below(32))
		all, last, ok := impl.DrawLetters(row, 99, 64)
		head, between, _ := impl.DrawLetters(row, 99, 40)
		tail, end, _ := impl.DrawLetters(row, between, 24)
		if !ok || last != end || !slices.Equal(all, append(head, tail...)) {
			t.Errorf("draws from %v: %v at once, %v and %v in two parts", row, all, head, tail)
		}
		for _, letter := range all {
			if row[letter] == 0 {
				t.Errorf("a letter with the chance 0 is drawn from %v: %v", row, all)
			}
		}
	}
}
