package tests

import (
	"math"
	"slices"
	"testing"

	"loop.example/g01364/impl"
)

func TestPromise3SurpriseOf(t *testing.T) {
	cases := []struct {
		x    float32
		want string
	}{
		{1, "00000000"}, {0.5, "3f800000"}, {0.25, "40000000"}, {0.1, "40549a78"}, {0.3, "3fde54e4"}, {0.9, "3e1ba6b6"},
		{1e-30, "42c750d1"}, {num(least), "43150000"}, {num(0x3f7fffff), "33b8aa3b"},
		{0, "no"}, {num(minusZero), "no"}, {num(0x3f800001), "no"}, {num(0x80000001), "no"}, {-1, "no"}, {2, "no"},
		{num(plusInf), "no"}, {num(minusInf), "no"}, {num(noNumber), "no"},
	}
	for _, c := range cases {
		wantText(t, "SurpriseOf "+hex(c.x), toldNumber(impl.SurpriseOf(c.x)), c.want)
	}
}

func TestPromise3EntropyOf(t *testing.T) {
	cases := []struct {
		row  []float32
		want string
	}{
		{[]float32{1}, "00000000"}, {[]float32{0, 1, num(minusZero)}, "00000000"}, {[]float32{0.5, 0.5}, "3f800000"},
		{repeatedNumbers(0.25, 4), "40000000"}, {repeatedNumbers(1.0/32, 32), "40a00000"},
		{four(), "3fec5820"}, {quarters(), "3fe00000"}, {gaps(), "3f619c49"}, {tiny(), "3c3ae787"},
		{[]float32{highest()}, "babd2d80"}, {[]float32{lowest()}, "3abcfffa"},
	}
	for _, c := range cases {
		wantText(t, "EntropyOf "+hex(c.row...), toldNumber(impl.EntropyOf(c.row)), c.want)
	}
	for _, row := range badRows() {
		wantText(t, "EntropyOf "+hex(row...), toldNumber(impl.EntropyOf(row)), "no")
	}
}

func TestPromise3OrderEntropy(t *testing.T) {
	one := []float32{1}
	cases := []struct {
		row   []float32
		order float32
		want  string
	}{
		{four(), 0, "40000000"}, {gaps(), 0, "3f800000"}, {gaps(), num(minusZero), "3f800000"}, {one, 0, "00000000"},
		{four(), 0.5, "3ff5705e"}, {down(), 0.5, "3ff5705f"}, {quarters(), 0.5, "3fefcef8"}, {gaps(), 0.5, "3f704095"},
		{four(), 2, "3fde54e4"}, {quarters(), 2, "3fc53158"}, {gaps(), 2, "3f492f1f"}, {tiny(), 2, "3b3d1783"}, {one, 2, "80000000"},
		{four(), 3, "3fd49a77"}, {[]float32{highest()}, 3, "bb0dbd98"},
		{four(), num(0x3f7fffff), "4038aa3a"}, {down(), num(0x3f800001), "400a7fad"}, {tiny(), 1000, "3abd60e4"},
		{one, 1e38, "80000000"}, {[]float32{highest()}, 1000, "babd2d8d"},
		{four(), 1, "no"}, {one, 1, "no"},
		// All powers are 0, or one of them is infinite.
		{four(), 1000, "no"}, {tiny(), 1e38, "no"}, {[]float32{highest()}, 1e38, "no"},
		{four(), num(0x80000001), "no"}, {four(), -2, "no"}, {four(), num(noNumber), "no"}, {one, num(noNumber), "no"},
		{four(), num(plusInf), "no"}, {one, num(plusInf), "no"}, {four(), num(minusInf), "no"},
	}
	for _, c := range cases {
		wantText(t, "OrderEntropy "+hex(c.order)+" of "+hex(c.row...), toldNumber(impl.OrderEntropy(c.row, c.order)), c.want)
	}
	for _, row := range badRows() {
		wantText(t, "OrderEntropy 2 of "+hex(row...), toldNumber(impl.OrderEntropy(row, 2)), "no")
	}
}

// ofRows tells, for two rows, what functions of two rows return.
type ofRows struct {
	what                           string
	a, b                           []float32
	cross, more, spread, far, root string
	even                           string
}

func (c ofRows) want(t *testing.T) {
	t.Helper()
	wantText(t, "CrossEntropy: "+c.what, toldNumber(impl.CrossEntropy(c.a, c.b)), c.cross)
	wantText(t, "MoreBits: "+c.what, toldNumber(impl.MoreBits(c.a, c.b)), c.more)
	wantText(t, "SpreadOf: "+c.what, toldNumber(impl.SpreadOf(c.a, c.b)), c.spread)
	wantText(t, "FarOfRows: "+c.what, toldNumber(impl.FarOfRows(c.a, c.b)), c.far)
	wantText(t, "RootFar: "+c.what, toldNumber(impl.RootFar(c.a, c.b)), c.root)
	wantText(t, "IsMoreEven: "+c.what, toldBool(impl.IsMoreEven(c.a, c.b)), c.even)
}

func TestPromise3TwoRows(t *testing.T) {
	one, high, low := []float32{1}, []float32{highest()}, []float32{lowest()}
	cases := []ofRows{
		{"a sure one and halves", []float32{1, 0}, []float32{0.5, 0.5}, "3f800000", "3f800000", "3e9f5fd8", "3f000000", "3f0a8bd4", "false"},
		{"upwards and downwards", four(), down(), "402050de", "3f289336", "3e1d3f00", "3eccccce", "3ea9e3d4", "true"},
		{"upwards and quarters", four(), quarters(), "40266667", "3f40e95c", "3e40f078", "3ee66666", "3ebc7d74", "false"},
		{"quarters and upwards", quarters(), four(), "4027ec77", "3f5fb1dc", "3e40f078", "3ee66666", "3ebc7d74", "false"},
		{"gaps and none", gaps(), four(), "40016745", "3f920066", "3e9f5fd8", "3f000000", "3f0752b5", "false"},
		{"none and gaps", four(), gaps(), "no", "no", "3e9f5fd8", "3f000000", "3f0752b5", "true"},
		{"gaps and gaps", gaps(), gaps(), "3f619c49", "00000000", "00000000", "00000000", "00000000", "true"},
		{"small ones and none", tiny(), four(), "405479b4", "4053becc", "3f40d85b", "3f6624dd", "3f5097ff", "false"},
		{"none and small ones", four(), tiny(), "427f1fec", "4277bd2a", "3f40d85b", "3f6624dd", "3f5097ff", "true"},
		{"gaps and small ones", gaps(), tiny(), "4291801e", "428fbce5", "3f7ec300", "3f7fbe77", "3f7dc5f6", "true"},
		{"apart", []float32{1, 0}, []float32{0, 1}, "no", "no", "3f800000", "3f800000", "3f800000", "true"},
		{"one chance", one, one, "00000000", "00000000", "00000000", "00000000", "00000000", "true"},
		{"sums that are too great", high, high, "babd2d80", "00000000", "00000000", "00000000", "00000000", "true"},
		{"great and small sums", high, low, "3abd60d7", "3b3d472b", "35361800", "3a831100", "3a400000", "false"},
		{"small and great sums", low, high, "babcccbe", "bb3ce65c", "35361800", "3a831100", "3a400000", "true"},
	}
	for _, c := range cases {
		c.want(t)
	}
	for _, row := range badRows() {
		good := repeatedNumbers(1/float32(max(len(row), 1)), max(len(row), 1))
		ofRows{"a good one and " + hex(row...), good, row, "no", "no", "no", "no", "no", "no"}.want(t)
		ofRows{"a good one behind " + hex(row...), row, good, "no", "no", "no", "no", "no", "no"}.want(t)
	}
	ofRows{"one and two", one, []float32{1, 0}, "no", "no", "no", "no", "no", "no"}.want(t)
	ofRows{"two and one", []float32{1, 0}, one, "no", "no", "no", "no", "no", "no"}.want(t)
	ofRows{"one and none", one, nil, "no", "no", "no", "no", "no", "no"}.want(t)
}

func TestPromise3SpreadOfMixtureThatIsNoRow(t *testing.T) {
	a := []float32{num(0x3f0fc017), num(0x3ea77bc7), num(0x3c2b5c2c), num(0x3dcc9860)}
	b := []float32{num(0x3eeba2b2), num(0x3e41cb16), num(0x3e7f9d32), num(0x3dcc9868)}
	wantText(t, "MixRows", toldRow(impl.MixRows(a, b, 0.5)), "no")
	wantText(t, "SpreadOf", toldNumber(impl.SpreadOf(a, b)), "3dec7ca0")
}

func TestPromise3IsMoreEven(t *testing.T) {
	half := []float32{0.5, 0.5}
	cases := []struct {
		what string
		a, b []float32
		want string
	}{
		{"less even", []float32{0.75, 0.25}, half, "false"},
		{"more even", half, []float32{0.75, 0.25}, "true"},
		{"another order", []float32{0.25, 0.75}, []float32{0.75, 0.25}, "true"},
		{"just enough", []float32{0.5 + 0x1p-20, 0.5}, half, "true"},
		{"just too much", []float32{0.5 + 0x1p-20 + 0x1p-24, 0.5}, half, "false"},
		{"too much in the second place", []float32{0.4, 0.4, 0.2}, []float32{0.5, 0.25, 0.25}, "false"},
		{"too much in the last place", []float32{0.5, 0.5 + 0x1p-19}, half, "false"},
		{"neither one", []float32{0.6, 0.2, 0.2}, []float32{0.5, 0.5, 0}, "false"},
		{"neither one, exchanged", []float32{0.5, 0.5, 0}, []float32{0.6, 0.2, 0.2}, "false"},
		{"a full row", repeatedNumbers(1.0/32, 32), append(repeatedNumbers(0, 31), 1), "true"},
		{"a full row, exchanged", append(repeatedNumbers(0, 31), 1), repeatedNumbers(1.0/32, 32), "false"},
	}
	for _, c := range cases {
		wantText(t, "IsMoreEven: "+c.what, toldBool(impl.IsMoreEven(c.a, c.b)), c.want)
	}
}

func TestPromise3EntropiesFitTogether(t *testing.T) {
	d := &drawn{1}
	for range 2000 {
		n := 1 + d.below(32)
		a, b := d.row(n), d.row(n)
		ofA, _ := impl.EntropyOf(a)
		count := 0
		for _, chance := range a {
			if chance > 0 {
				count++
			}
		}
		if ofA < -1e-5 || float64(ofA) > math.Log2(float64(count))+1e-5 {
			t.Errorf("EntropyOf %v is %v", a, ofA)
		}
		if spread, ok := impl.SpreadOf(a, b); !ok || spread < -1e-5 || spread > 1+1e-5 {
			t.Errorf("SpreadOf %v and %v is %v", a, b, spread)
		}
		if alone, ok := impl.MoreBits(a, a); !ok || alone != 0 {
			t.Errorf("MoreBits of %v and itself is %v", a, alone)
		}
		if alone, ok := impl.SpreadOf(a, a); !ok || alone != 0 {
			t.Errorf("SpreadOf %v and itself is %v", a, alone)
		}
		// All chances of the smoother row are greater than 0.
		smoother, _ := impl.MixRows(b, repeatedNumbers(1/float32(n), n), 0.5)
		cross, one := impl.CrossEntropy(a, smoother)
		more, two := impl.MoreBits(a, smoother)
		if !one || !two || !near(cross, ofA+more) || more < -1e-5 {
			t.Errorf("CrossEntropy of %v and %v is %v, MoreBits %v, and EntropyOf %v", a, smoother, cross, more, ofA)
		}
		if even, ok := impl.IsMoreEven(smoother, b); !ok || !even {
			t.Errorf("IsMoreEven %v and %v: %v %v", smoother, b, even, ok)
		}
		far, _ := impl.FarOfRows(a, b)
		root, _ := impl.RootFar(a, b)
		if root*root > far+1e-5 || far > root*1.41422+1e-3 {
			t.Errorf("FarOfRows %v and %v is %v, and RootFar %v", a, b, far, root)
		}
	}
}

func TestPromise3OrdersFall(t *testing.T) {
	d := &drawn{2}
	for range 500 {
		row := d.row(1 + d.below(32))
		entropy, _ := impl.EntropyOf(row)
		var entropies []float32
		for _, order := range []float32{0, 0.5, 2, 3, 5} {
			x, ok := impl.OrderEntropy(row, order)
			if !ok {
				t.Fatalf("OrderEntropy %v of %v fails", order, row)
			}
			entropies = append(entropies, x)
		}
		entropies = slices.Insert(entropies, 2, entropy)
		for i := 1; i < len(entropies); i++ {
			if entropies[i] > entropies[i-1]+1e-4 {
				t.Errorf("entropies of %v by orders 0, 0.5, 1, 2, 3 and 5: %v", row, entropies)
			}
		}
	}
}

func TestPromise3EntropiesShared(t *testing.T) {
	d := &drawn{3}
	for _, count := range []int{1, 2, 7, 8, 9, 63, 64} {
		rows, entropies := make([][]float32, count), make([]float32, count)
		for i := range rows {
			rows[i] = d.row(1 + d.below(32))
			entropies[i], _ = impl.EntropyOf(rows[i])
		}
		for workers := int64(1); workers <= 8; workers++ {
			wantText(t, "EntropiesShared", toldRow(impl.EntropiesShared(rows, workers)), hex(entropies...))
		}
		for _, workers := range []int64{0, -1, 9, math.MaxInt64, math.MinInt64} {
			wantText(t, "EntropiesShared by wrong workers", toldRow(impl.EntropiesShared(rows, workers)), "no")
		}
		for _, bad := range badRows() {
			spoilt := slices.Clone(rows)
			spoilt[d.below(count)] = bad
			wantText(t, "EntropiesShared of a bad row", toldRow(impl.EntropiesShared(spoilt, 3)), "no")
		}
	}
	wantText(t, "EntropiesShared of none", toldRow(impl.EntropiesShared(nil, 1)), "no")
	wantText(t, "EntropiesShared of none, not nil", toldRow(impl.EntropiesShared([][]float32{}, 1)), "no")
	many := slices.Repeat([][]float32{{1}}, 65)
	wantText(t, "EntropiesShared of 65", toldRow(impl.EntropiesShared(many, 8)), "no")
	wantText(t, "EntropiesShared of 64", toldRow(impl.EntropiesShared(many[:64], 8)), hex(repeatedNumbers(0, 64)...))
}
