package tests

import (
	"math"
	"slices"
	"testing"

	"loop.example/g01364/impl"
)

// highest and lowest are the chances farthest from 1 that are rows alone.
func highest() float32 { return num(0x3f8020c4) }
func lowest() float32  { return num(0x3f7fbe77) }

func four() []float32     { return []float32{0.1, 0.2, 0.3, 0.4} }
func down() []float32     { return []float32{0.4, 0.3, 0.2, 0.1} }
func quarters() []float32 { return []float32{0.5, 0.25, 0.125, 0.125} }
func gaps() []float32     { return []float32{0, 0.7, num(minusZero), 0.3} }
func tiny() []float32     { return []float32{0.999, 1e-30, 1e-40, 0.001} }

// badRows are lists that are no rows.
func badRows() [][]float32 {
	return [][]float32{
		nil, {}, {0}, {0.5}, {2}, {num(0x3f8020c5)}, {num(0x3f7fbe76)}, {0.5, 0.4985}, {0.5, 0.5015},
		{1, num(0x80000001)}, {1.5, -0.5}, {-1, 2}, {num(noNumber)}, {1, num(noNumber)}, {num(plusInf)}, {1, num(plusInf)},
		{num(minusInf), num(plusInf)}, {3e38, 3e38}, repeatedNumbers(1.0/33, 33), append(repeatedNumbers(0, 32), 1),
		append(repeatedNumbers(0x1p-25, 31), highest()),
	}
}

func TestPromise3IsRow(t *testing.T) {
	rows := [][]float32{
		{1}, {0.5, 0.5}, {0, 1}, {num(minusZero), 1}, {highest()}, {lowest()}, {0.5, 0.4992}, {0.5, 0.5008},
		four(), quarters(), gaps(), tiny(), repeatedNumbers(1.0/32, 32), append(repeatedNumbers(0, 31), 1),
		// Each small chance vanishes beside the great one, but not all of them before it.
		append([]float32{highest()}, repeatedNumbers(0x1p-25, 31)...),
	}
	for _, row := range rows {
		wantBool(t, "IsRow "+hex(row...), impl.IsRow(row), true)
	}
	for _, row := range badRows() {
		wantBool(t, "IsRow "+hex(row...), impl.IsRow(row), false)
	}
}

func TestPromise3EvenRow(t *testing.T) {
	cases := map[int64]uint32{1: plusOne, 2: 0x3f000000, 3: 0x3eaaaaab, 4: 0x3e800000, 5: 0x3e4ccccd, 7: 0x3e124925, 31: 0x3d042108, 32: 0x3d000000}
	for n, bits := range cases {
		wantText(t, "EvenRow", toldRow(impl.EvenRow(n)), hex(repeatedNumbers(num(bits), int(n))...))
	}
	for _, n := range []int64{0, -1, 33, math.MaxInt64, math.MinInt64} {
		wantText(t, "EvenRow", toldRow(impl.EvenRow(n)), "no")
	}
}

// badCounts are lists that are no counts.
func badCounts() [][]int64 {
	return [][]int64{
		nil, {}, {-1}, {1, -1}, {1000001}, {1, 2, 1000001, 3}, {math.MaxInt64}, {math.MinInt64}, slices.Repeat([]int64{1}, 33),
		{math.MaxInt64, math.MaxInt64, 3},
	}
}

func TestPromise3RowOfCounts(t *testing.T) {
	cases := []struct {
		counts []int64
		want   string
	}{
		{[]int64{3, 1}, "3f400000,3e800000"},
		{[]int64{1, 2, 4}, "3e124925,3e924925,3f124925"},
		{[]int64{0, 1000000, 3, 0}, "00000000,3f7fffce,36495374,00000000"},
		{[]int64{7}, "3f800000"},
		// The sum of counts is an integer that is not rounded between.
		{slices.Repeat([]int64{999999}, 32), hex(repeatedNumbers(1.0/32, 32)...)},
		{[]int64{0}, "no"},
		{[]int64{0, 0, 0}, "no"},
	}
	for _, c := range cases {
		wantText(t, "RowOfCounts", toldRow(impl.RowOfCounts(c.counts)), c.want)
	}
	for _, counts := range badCounts() {
		wantText(t, "RowOfCounts of bad counts", toldRow(impl.RowOfCounts(counts)), "no")
	}
}

func TestPromise3SmoothRow(t *testing.T) {
	cases := []struct {
		counts []int64
		add    float32
		want   string
	}{
		{[]int64{3, 1}, 2, "3f200000,3ec00000"},
		{[]int64{1, 2, 4}, 0.5, "3e34b4b5,3e969697,3f078788"},
		{[]int64{5, 0, 9}, 0.3, "3eb61eee,3ca4f08a,3f1fc906"},
		{[]int64{1, 2, 4}, 0, "3e124925,3e924925,3f124925"},
		{[]int64{1, 2, 4}, num(minusZero), "3e124925,3e924925,3f124925"},
		{[]int64{0, 0, 0}, 0.1, "3eaaaaaa,3eaaaaaa,3eaaaaaa"},
		{[]int64{0, 0}, num(least), "3f000000,3f000000"},
		{[]int64{5, 0}, 1e38, "3f000000,3f000000"},
		{slices.Repeat([]int64{0}, 32), 1, hex(repeatedNumbers(1.0/32, 32)...)},
		// The whole is infinite, and its parts are no row.
		{[]int64{5, 0}, 2e38, "no"},
		{[]int64{0}, 0, "no"},
		{[]int64{0, 0}, num(minusZero), "no"},
		{[]int64{1, 2}, num(0x80000001), "no"},
		{[]int64{1, 2}, -0.5, "no"},
		{[]int64{1, 2}, num(noNumber), "no"},
		{[]int64{1, 2}, num(plusInf), "no"},
		{[]int64{1, 2}, num(minusInf), "no"},
	}
	for _, c := range cases {
		wantText(t, "SmoothRow by "+hex(c.add), toldRow(impl.SmoothRow(c.counts, c.add)), c.want)
	}
	for _, counts := range badCounts() {
		wantText(t, "SmoothRow of bad counts", toldRow(impl.SmoothRow(counts, 1)), "no")
	}
}

func TestPromise3MixRows(t *testing.T) {
	cases := []struct {
		a, b  []float32
		share float32
		want  string
	}{
		{[]float32{1, 0}, []float32{0, 1}, 0.25, "3f400000,3e800000"},
		{four(), quarters(), 0, hex(four()...)},
		{four(), quarters(), num(minusZero), hex(four()...)},
		{four(), quarters(), 1, hex(quarters()...)},
		{four(), quarters(), 0.25, "3e4ccccd,3e59999a,3e833334,3ea9999a"},
		{four(), quarters(), 0.3, "3e6147ae,3e5c28f6,3e7d70a4,3ea28f5c"},
		{gaps(), four(), 0.9, "3db851eb,3e800000,3e8a3d71,3ec7ae14"},
		{[]float32{1}, []float32{1}, 0.3, "3f800000"},
		{four(), quarters(), num(0x80000001), "no"},
		{four(), quarters(), num(0x3f800001), "no"},
		{four(), quarters(), num(noNumber), "no"},
		{four(), quarters(), num(plusInf), "no"},
		{four(), []float32{1}, 0.5, "no"},
		{[]float32{1}, []float32{1, 0}, 0.5, "no"},
	}
	for _, c := range cases {
		wantText(t, "MixRows by "+hex(c.share), toldRow(impl.MixRows(c.a, c.b, c.share)), c.want)
	}
	for _, row := range badRows() {
		wantText(t, "MixRows "+hex(row...), toldRow(impl.MixRows(row, row, 0.5)), "no")
		good := repeatedNumbers(1/float32(max(len(row), 1)), max(len(row), 1))
		wantText(t, "MixRows, a good one and "+hex(row...), toldRow(impl.MixRows(good, row, 0.5)), "no")
	}
	// A mixture of rows can be rounded to what is no row.
	edge := []float32{num(0x3f662b6b), num(0x3dcc9860)}
	wantBool(t, "IsRow of a row at the edge", impl.IsRow(edge), true)
	wantText(t, "MixRows at the edge", toldRow(impl.MixRows(edge, edge, num(0x3f1233d4))), "no")
}

func TestPromise3TiltRow(t *testing.T) {
	scores := []float32{1, 2, -1, 0.5}
	cases := []struct {
		row, scores []float32
		by          float32
		want        string
	}{
		{[]float32{0.5, 0.5}, []float32{0, 0}, 1, "3f000000,3f000000"},
		{four(), scores, 0, hex(four()...)},
		{four(), scores, 1, "3ddcf57a,3f16283b,3d336bd6,3e8604b2"},
		{four(), scores, -1, "3d064e02,3cc5a1bc,3f3a127c,3e5d6e59"},
		{four(), scores, 0.3, "3de904db,3e9d4577,3e3fd345,3ec88faf"},
		{four(), scores, -50, "00000009,00000000,3f800000,09945adf"},
		{gaps(), scores, 1, "00000000,3f69a7f7,80000000,3db2c045"},
		{gaps(), scores, -1, "00000000,3eaf4c8b,80000000,3f2859ba"},
		{[]float32{1}, []float32{-1e38}, 1e-38, "3f800000"},
		{four(), []float32{0, 0, 0, -1e38}, 1e38, "3e2aaaaa,3eaaaaaa,3f000000,00000000"},
		// The powers of e are all 0, or one of them is infinite, even one of a chance of 0.
		{four(), []float32{1, 1, 1, 1}, -300, "no"},
		{four(), []float32{0, 0, 0, 100}, 1, "no"},
		{gaps(), []float32{100, 0, 0, 0}, 1, "no"},
		{four(), scores, num(noNumber), "no"},
		{four(), scores, num(plusInf), "no"},
		{four(), []float32{1, 2, num(noNumber), 4}, 0, "no"},
		{four(), []float32{1, 2, 3, num(minusInf)}, 1, "no"},
		{gaps(), []float32{num(minusInf), 2, 3, 4}, 1, "no"},
		{four(), []float32{1, 2, 3}, 1, "no"},
		{four(), []float32{1, 2, 3, 4, 5}, 1, "no"},
		{four(), nil, 1, "no"},
	}
	for _, c := range cases {
		wantText(t, "TiltRow by "+hex(c.by), toldRow(impl.TiltRow(c.row, c.scores, c.by)), c.want)
	}
	for _, row := range badRows() {
		wantText(t, "TiltRow "+hex(row...), toldRow(impl.TiltRow(row, make([]float32, len(row)), 1)), "no")
	}
}
