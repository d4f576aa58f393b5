package tests

import (
	"fmt"
	"math"
	"testing"

	"loop.example/g01364/impl"
)

func toldErrors(missed, taken float32, ok bool) string {
	return outcome(hex(missed)+" "+hex(taken), hex(missed, taken) == hex(0, 0), ok)
}

// twoRows are rows that are held against each other.
type twoRows struct{ a, b []float32 }

func (r twoRows) String() string { return hex(r.a...) + " against " + hex(r.b...) }

// notTwo are rows one of which is not as it must be, or that are not as long as each other.
func notTwo() []twoRows {
	list := []twoRows{
		{nil, nil}, {halves(), nil}, {nil, halves()}, {halves(), thirds()}, {thirds(), halves()}, {halves(), chances(1, 0)}, {chances(0, 1), halves()}, {chances(1, 0), chances(1, 0)},
		{chances(num(minusZero), 1), halves()}, {halves(), chances(num(minusZero), 1)}, {thirds(), chances(0.5, 0, 0.5)}, {chances(0.5, 0.5, 0), thirds()},
	}
	for _, bad := range badRows() {
		if n := len(bad); n > 0 {
			good := repeatedNumbers(1/float32(n), n)
			list = append(list, twoRows{good, bad}, twoRows{bad, good}, twoRows{bad, bad})
		}
	}
	return list
}

func TestPromise4TestErrors(t *testing.T) {
	low, high := chances(0.3, 0.7), chances(0.6, 0.4)
	other := chances(0.5, 0.3, 0.2)
	halfAnd := twoRows{halves(), chances(0.75, 0.25)}
	cases := []struct {
		twoRows
		n    int64
		bar  float32
		want string
	}{
		{halfAnd, 1, 0, "3f000000 3e800000"},
		{twoRows{low, high}, 12, 0, "3df15ab0 3e22026a"},
		{twoRows{low, high}, 5, 1.5, "3ef18d25 3db24209"},
		{twoRows{low, high}, 5, -2, "3cfc2658 3f29bcfe"},
		{twoRows{thirds(), other}, 12, 0, "3d8d2795 3e03766f"},
		{twoRows{thirds(), other}, 4, 1, "3ea31270 3e11d14f"},
		{twoRows{chances(num(least), 1), halves()}, 2, 0, "00000002 3e800000"},
		// Without letters, the sum is 0.
		{twoRows{thirds(), other}, 0, 0, "00000000 3f800000"},
		{twoRows{thirds(), other}, 0, num(minusZero), "00000000 3f800000"},
		{twoRows{thirds(), other}, 0, num(least), "3f800000 00000000"},
		// Nothing meets the bar, or all do.
		{twoRows{thirds(), other}, 3, num(greatest), "3f800001 00000000"},
		{twoRows{thirds(), other}, 3, num(0xff7fffff), "00000000 3f800000"},
		{twoRows{thirds(), thirds()}, 6, 0, "00000000 3f800001"},
		{twoRows{thirds(), thirds()}, 6, num(least), "3f800001 00000000"},
		{halfAnd, 13, 0, "no"},
		{halfAnd, -1, 0, "no"},
		{halfAnd, math.MaxInt64, 0, "no"},
		{halfAnd, math.MinInt64, 0, "no"},
		{halfAnd, 1, num(noNumber), "no"},
		{halfAnd, 1, num(plusInf), "no"},
		{halfAnd, 1, num(minusInf), "no"},
		{twoRows{chances(1), chances(1)}, 1, 0, "no"},
		{twoRows{four(), quarters()}, 1, 0, "no"},
		{twoRows{repeatedNumbers(1.0/32, 32), repeatedNumbers(1.0/32, 32)}, 1, 0, "no"},
	}
	for _, c := range cases {
		wantText(t, fmt.Sprint("TestErrors ", c.twoRows, c.n, hex(c.bar)), toldErrors(impl.TestErrors(c.a, c.b, c.n, c.bar)), c.want)
	}
	for _, r := range notTwo() {
		wantText(t, fmt.Sprint("TestErrors ", r), toldErrors(impl.TestErrors(r.a, r.b, 2, 0)), "no")
		wantText(t, fmt.Sprint("TestErrors without letters ", r), toldErrors(impl.TestErrors(r.a, r.b, 0, 0)), "no")
	}
}

// errorsOfWords adds the errors of all words that begin so, one by one.
func errorsOfWords(a, b []float32, n int64, bar, score, ofA, ofB float64) (missed, taken float64) {
	if n == 0 {
		if score >= bar {
			return 0, ofB
		}
		return ofA, 0
	}
	for i := range a {
		x, y := float64(a[i]), float64(b[i])
		m, t := errorsOfWords(a, b, n-1, bar, score+math.Log2(x/y), ofA*x, ofB*y)
		missed, taken = missed+m, taken+t
	}
	return missed, taken
}

func TestPromise4ErrorsAreThoseOfWords(t *testing.T) {
	d := &drawn{14}
	for range 300 {
		letters := 2 + d.below(2)
		a, b := d.fullRow(letters), d.fullRow(letters)
		n, bar := int64(d.below(7)), float32(d.below(400)-200)/100+0.00371
		missed, taken, ok := impl.TestErrors(a, b, n, bar)
		m, w := errorsOfWords(a, b, n, float64(bar), 0, 1, 1)
		if !ok || math.Abs(float64(missed)-m) > 1e-4 || math.Abs(float64(taken)-w) > 1e-4 {
			t.Errorf("TestErrors %v %v %d %v: got %v and %v, want %v and %v", a, b, n, bar, missed, taken, m, w)
		}
	}
}

// fullRow returns a row without chances of 0.
func (d *drawn) fullRow(n int) []float32 {
	weights, sum := make([]int, n), 0
	for i := range weights {
		weights[i] = 1 + d.below(100)
		sum += weights[i]
	}
	row := make([]float32, n)
	for i, w := range weights {
		row[i] = float32(w) / float32(sum)
	}
	return row
}

func TestPromise4FarBits(t *testing.T) {
	low, high := chances(0.3, 0.7), chances(0.6, 0.4)
	even := repeatedNumbers(1.0/32, 32)
	halfAnd := twoRows{halves(), chances(0.75, 0.25)}
	cases := []struct {
		twoRows
		share float32
		want  string
	}{
		{twoRows{halves(), halves()}, 0.5, "33b8aa3b"},
		{twoRows{low, high}, 0, "00000000"},
		{twoRows{low, high}, num(minusZero), "00000000"},
		{twoRows{low, high}, 1, "00000000"},
		{twoRows{low, high}, 0.5, "3d8cf404"},
		{twoRows{low, high}, 0.2, "3d35d03d"},
		{twoRows{thirds(), chances(0.5, 0.3, 0.2)}, 0.3, "3dad1325"},
		{twoRows{four(), quarters()}, 0.6, "3e4b081b"},
		{twoRows{chances(1), chances(1)}, 0.5, "00000000"},
		{twoRows{chances(highest()), chances(lowest())}, 0.25, "3a3d49d2"},
		{twoRows{chances(1, num(least)), chances(num(least), 1)}, 0.5, "42930000"},
		{twoRows{even, even}, 0.5, "33b8aa3b"},
		{halfAnd, num(0x80000001), "no"},
		{halfAnd, num(0x3f800001), "no"},
		{halfAnd, num(noNumber), "no"},
		{halfAnd, num(plusInf), "no"},
		{halfAnd, num(minusInf), "no"},
	}
	for _, c := range cases {
		wantText(t, fmt.Sprint("FarBits ", c.twoRows, hex(c.share)), toldNumber(impl.FarBits(c.a, c.b, c.share)), c.want)
	}
	for _, r := range notTwo() {
		for _, share := range chances(0, 0.5, 1) {
			wantText(t, fmt.Sprint("FarBits ", r, share), toldNumber(impl.FarBits(r.a, r.b, share)), "no")
		}
	}
}

func toldFarthest(share, far float32, ok bool) string { return toldErrors(share, far, ok) }

func TestPromise4FarthestBits(t *testing.T) {
	low, high := chances(0.3, 0.7), chances(0.6, 0.4)
	cases := []struct {
		twoRows
		want string
	}{
		{twoRows{halves(), halves()}, "3e271216 33b8aa3b"},
		{twoRows{low, high}, "3efcda2e 3d8cf876"},
		{twoRows{high, low}, "3f014b44 3d8cf85e"},
		{twoRows{thirds(), chances(0.5, 0.3, 0.2)}, "3effbfb6 3dcea113"},
		{twoRows{chances(0.2, 0.2, 0.6), chances(0.9, 0.05, 0.05)}, "3f07daf6 3f05a248"},
		{twoRows{chances(1, num(least)), chances(num(least), 1)}, "3efffc4a 4292ffff"},
		{twoRows{halves(), chances(0.999, 0.001)}, "3f2e99fe 3f07c3aa"},
		// FarBits takes rows of any number of chances.
		{twoRows{four(), quarters()}, "3ef64656 3e577a60"},
		{twoRows{chances(1), chances(1)}, "334236a8 00000000"},
		{twoRows{chances(highest()), chances(lowest())}, "334236a8 3abd3069"},
	}
	for _, c := range cases {
		wantText(t, fmt.Sprint("FarthestBits ", c.twoRows), toldFarthest(impl.FarthestBits(c.a, c.b)), c.want)
	}
	for _, r := range notTwo() {
		wantText(t, fmt.Sprint("FarthestBits ", r), toldFarthest(impl.FarthestBits(r.a, r.b)), "no")
	}
}

func TestPromise4NoShareIsMuchFarther(t *testing.T) {
	d := &drawn{15}
	for range 100 {
		n := 1 + d.below(8)
		a, b := d.fullRow(n), d.fullRow(n)
		share, most, ok := impl.FarthestBits(a, b)
		there, _ := impl.FarBits(a, b, share)
		if !ok || share < 0 || share > 1 || bitsOf(there) != bitsOf(most) {
			t.Errorf("FarthestBits %v and %v: %v, %v, %v", a, b, share, most, ok)
		}
		for i := range 101 {
			x := float32(i) / 100
			far, ok := impl.FarBits(a, b, x)
			turned, _ := impl.FarBits(b, a, 1-x)
			if !ok || far > most+1e-5 || far < -1e-5 || !near(far, turned) {
				t.Errorf("FarBits %v and %v by %v is %v, turned %v, and the greatest %v by %v", a, b, x, far, turned, most, share)
			}
		}
	}
}
