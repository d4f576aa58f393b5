package tests

import (
	"fmt"
	"math"
	"testing"

	"loop.example/g01364/impl"
)

// taking is a channel and a row that it takes.
type taking struct {
	c   impl.Channel
	row []float32
}

func (a taking) String() string { return toldChannel(a.c, true) + " and " + hex(a.row...) }

// notTaken are channels and rows one of which is not valid, or that do not fit together.
func notTaken() []taking {
	list := []taking{
		{straight(), nil}, {straight(), chances(1)}, {straight(), chances(0.5, 0.5, 0)}, {uneven(), thirds()}, {merging(), halves()}, {single(), halves()}, {toOne(), chances(1)},
		{full(), append(repeatedNumbers(0.125, 8), 0)}, {impl.Channel{}, nil}, {channel(0, 1), nil},
		// What comes out, and the products, would be rows and tables.
		{channel(1, 1, 2), chances(0.5)}, {channel(1, 1, 0.5), chances(2)},
	}
	for _, bad := range badChannels() {
		list = append(list, taking{bad, chances(1)}, taking{bad, halves()})
		if n := bad.Ins; n >= 1 && n <= 8 {
			list = append(list, taking{bad, repeatedNumbers(1/float32(n), int(n))})
		}
	}
	for _, row := range badRows() {
		n := max(1, min(8, len(row)))
		list = append(list, taking{channel(int64(n), 1, repeatedNumbers(1, n)...), row})
	}
	return list
}

// beyond is a channel and a row whose products are no table, and which makes no row.
func beyond() taking { return taking{high(), chances(highest())} }

func TestPromise4ThroughOf(t *testing.T) {
	cases := []struct {
		taking
		want string
	}{
		{taking{uneven(), chances(0.3, 0.7)}, "3ee66667,3e8a3d71,3e8f5c29"},
		{taking{uneven(), chances(0, 1)}, "3f19999a,3e99999a,3dcccccd"},
		{taking{merging(), thirds()}, "3ea8f5c2,3f2b851f"},
		{taking{halting(), chances(1, 0)}, "3f800000,00000000"},
		{taking{losing(), chances(0.3, 0.7)}, "00000000,00000000,3f800000"},
		{taking{losing(), chances(1, 0)}, "00000000,00000000,3f800000"},
		{taking{single(), chances(1)}, "3f800000"},
		{taking{fromOne(), chances(1)}, hex(four()...)},
		{taking{toOne(), four()}, "3f800000"},
		{taking{full(), repeatedNumbers(0.125, 8)}, hex(repeatedNumbers(0.125, 8)...)},
		// The order of the terms decides how their sum is rounded.
		{taking{channel(3, 2, 1, 0, 1, 0, 1, 0), chances(1, 0x1p-24, 0x1p-24)}, "3f800000,00000000"},
		{taking{channel(3, 2, 1, 0, 1, 0, 1, 0), chances(0x1p-24, 0x1p-24, 1)}, "3f800001,00000000"},
		{taking{channel(1, 2, num(minusZero), 1), chances(1)}, "00000000,3f800000"},
		{taking{high(), chances(1)}, "3f8020c4"},
		{taking{high(), chances(lowest())}, "3f7fffee"},
		{beyond(), "no"},
		{taking{low(), chances(lowest())}, "no"},
	}
	for _, c := range cases {
		wantText(t, fmt.Sprint("ThroughOf ", c.taking), toldRow(impl.ThroughOf(c.c, c.row)), c.want)
	}
	for _, a := range notTaken() {
		wantText(t, fmt.Sprint("ThroughOf ", a), toldRow(impl.ThroughOf(a.c, a.row)), "no")
	}
}

func TestPromise4JointOf(t *testing.T) {
	cases := []struct {
		taking
		want string
	}{
		{taking{uneven(), chances(0.3, 0.7)}, "2x3:3cf5c290,3d75c290,3e570a3e,3ed70a3e,3e570a3e,3d8f5c29"},
		{taking{merging(), thirds()}, "3x2:3e3851eb,3ca3d70b,3e19999a,3e19999a,00000000,3f000000"},
		{taking{straight(), chances(1, 0)}, "2x2:3f800000,00000000,00000000,00000000"},
		{taking{losing(), chances(0.3, 0.7)}, "2x3:00000000,00000000,3e99999a,00000000,00000000,3f333333"},
		{taking{channel(1, 2, num(minusZero), 1), chances(1)}, "1x2:80000000,3f800000"},
		{taking{single(), chances(1)}, "1x1:3f800000"},
		{taking{fromOne(), chances(1)}, "1x4:" + hex(four()...)},
		{taking{toOne(), four()}, "4x1:" + hex(four()...)},
		{taking{full(), repeatedNumbers(0.125, 8)}, "8x8:" + hex(repeatedNumbers(0x1p-6, 64)...)},
		{beyond(), "no"},
		{taking{low(), chances(lowest())}, "no"},
	}
	for _, c := range cases {
		wantText(t, fmt.Sprint("JointOf ", c.taking), toldTable(impl.JointOf(c.c, c.row)), c.want)
	}
	for _, a := range notTaken() {
		wantText(t, fmt.Sprint("JointOf ", a), toldTable(impl.JointOf(a.c, a.row)), "no")
	}
}

func TestPromise4ToldBits(t *testing.T) {
	cases := []struct {
		taking
		want string
	}{
		{taking{uneven(), chances(0.3, 0.7)}, "3e93dbc8"},
		{taking{uneven(), chances(1, 0)}, "00000000"},
		{taking{merging(), thirds()}, "3f056897"},
		{taking{halting(), chances(0.6, 0.4)}, "3ea4d3c1"},
		{taking{quarter(), halves()}, "3e41404e"},
		{taking{channel(2, 2, 0.5, 0.5, 0.5, 0.5), halves()}, "00000000"},
		{taking{channel(2, 2, 0.5, 0.5, 0.5, 0.5), chances(0.3, 0.7)}, "33b33333"},
		{taking{losing(), chances(0.3, 0.7)}, "00000000"},
		{taking{erasing(), halves()}, "3f400000"},
		{taking{straight(), halves()}, "3f800000"},
		{taking{single(), chances(1)}, "00000000"},
		{taking{fromOne(), chances(1)}, "00000000"},
		{taking{toOne(), four()}, "00000000"},
		{taking{faint(), chances(1, 1e-30)}, "00000000"},
		{taking{letterwise(0.75, 0.25, 0), repeatedNumbers(0.125, 8)}, "400c1405"},
		{beyond(), "no"},
	}
	for _, c := range cases {
		wantText(t, fmt.Sprint("ToldBits ", c.taking), toldNumber(impl.ToldBits(c.c, c.row)), c.want)
	}
	for _, a := range notTaken() {
		wantText(t, fmt.Sprint("ToldBits ", a), toldNumber(impl.ToldBits(a.c, a.row)), "no")
	}
}

func TestPromise4BackOf(t *testing.T) {
	cases := []struct {
		taking
		out  int64
		want string
	}{
		{taking{uneven(), chances(0.3, 0.7)}, 0, "3d888889,3f6eeeef"},
		{taking{uneven(), chances(0.3, 0.7)}, 1, "3e638e39,3f471c72"},
		{taking{uneven(), chances(0.3, 0.7)}, 2, "3f400000,3e800000"},
		{taking{uneven(), chances(0, 1)}, 2, "00000000,3f800000"},
		{taking{merging(), thirds()}, 0, "3f0ba2e9,3ee8ba30,00000000"},
		{taking{straight(), chances(1, num(least))}, 1, "00000000,3f800000"},
		{taking{single(), chances(1)}, 0, "3f800000"},
		{taking{fromOne(), chances(1)}, 3, "3f800000"},
		{taking{toOne(), four()}, 0, hex(four()...)},
		{taking{losing(), chances(0.3, 0.7)}, 2, "3e99999a,3f333333"},
		// These letters come out for nothing.
		{taking{losing(), chances(0.3, 0.7)}, 0, "no"},
		{taking{losing(), chances(0.3, 0.7)}, 1, "no"},
		{taking{straight(), chances(1, 0)}, 1, "no"},
		{taking{faint(), chances(1, 1e-30)}, 1, "no"},
		{beyond(), 0, "no"},
		{taking{uneven(), chances(0.3, 0.7)}, 3, "no"},
		{taking{uneven(), chances(0.3, 0.7)}, -1, "no"},
		{taking{merging(), thirds()}, 2, "no"},
		{taking{single(), chances(1)}, math.MaxInt64, "no"},
		{taking{single(), chances(1)}, math.MinInt64, "no"},
	}
	for _, c := range cases {
		wantText(t, fmt.Sprint("BackOf ", c.taking, c.out), toldRow(impl.BackOf(c.c, c.row, c.out)), c.want)
	}
	for _, a := range notTaken() {
		wantText(t, fmt.Sprint("BackOf ", a), toldRow(impl.BackOf(a.c, a.row, 0)), "no")
	}
}

func TestPromise4BestGuesses(t *testing.T) {
	cases := []struct {
		taking
		want string
	}{
		{taking{uneven(), chances(0.3, 0.7)}, "[1 1 0] 3e23d708"},
		{taking{merging(), thirds()}, "[0 2] 3ea3d70a"},
		{taking{halting(), chances(0.6, 0.4)}, "[0 1] 3e4ccccc"},
		{taking{halting(), chances(0.2, 0.8)}, "[1 1] 3e4ccccc"},
		{taking{quarter(), halves()}, "[0 1] 3e800000"},
		// Nothing comes out for both first letters, and all are as good.
		{taking{losing(), chances(0.3, 0.7)}, "[0 0 1] 3e99999a"},
		{taking{losing(), halves()}, "[0 0 0] 3f000000"},
		{taking{straight(), chances(0, 1)}, "[0 1] 00000000"},
		{taking{channel(2, 2, num(minusZero), 1, 0, 1), halves()}, "[0 0] 3f000000"},
		{taking{straight(), halves()}, "[0 1] 00000000"},
		{taking{single(), chances(1)}, "[0] 00000000"},
		{taking{fromOne(), chances(1)}, "[0 0 0 0] 00000000"},
		{taking{toOne(), four()}, "[3] 3f19999a"},
		{taking{toOne(), down()}, "[0] 3f19999a"},
		{taking{full(), repeatedNumbers(0.125, 8)}, "[0 0 0 0 0 0 0 0] 3f600000"},
		{taking{letterwise(0.75, 0.25, 0), repeatedNumbers(0.125, 8)}, "[0 1 2 3 4 5 6 7] 3e800000"},
		{taking{letterwise(0.25, 0.75, 0), repeatedNumbers(0.125, 8)}, "[7 0 1 2 3 4 5 6] 3e800000"},
		// 1 less the sum is less than 0.
		{taking{single(), chances(highest())}, "[0] 00000000"},
		{taking{single(), chances(lowest())}, "[0] 3a831200"},
		{beyond(), "no"},
	}
	for _, c := range cases {
		wantText(t, fmt.Sprint("BestGuesses ", c.taking), toldGuesses(impl.BestGuesses(c.c, c.row)), c.want)
	}
	for _, a := range notTaken() {
		wantText(t, fmt.Sprint("BestGuesses ", a), toldGuesses(impl.BestGuesses(a.c, a.row)), "no")
	}
}

func TestPromise4MissBound(t *testing.T) {
	cases := []struct {
		taking
		want string
	}{
		{taking{uneven(), chances(0.3, 0.7)}, "3f22621b"},
		{taking{merging(), thirds()}, "3f9cb888"},
		{taking{halting(), chances(0.6, 0.4)}, "3f38d046"},
		{taking{quarter(), halves()}, "3f4fafec"},
		{taking{channel(2, 2, 0.5, 0.5, 0.5, 0.5), halves()}, "3f800000"},
		{taking{losing(), chances(0.3, 0.7)}, "3f619c49"},
		{taking{losing(), chances(1, 0)}, "00000000"},
		{taking{straight(), halves()}, "00000000"},
		{taking{toOne(), four()}, "3ff601be"},
		{taking{toOne(), down()}, "3ff601be"},
		{taking{full(), repeatedNumbers(0.125, 8)}, "40400000"},
		{taking{channel(2, 1, 1, 1), chances(lowest(), 0)}, "3c3ae711"},
		{taking{channel(2, 1, 1, 1), chances(highest(), 0)}, "00000000"},
		{taking{channel(2, 1, highest(), highest()), chances(highest(), 0)}, "no"},
		{taking{single(), chances(1)}, "no"},
		{taking{fromOne(), chances(1)}, "no"},
		{beyond(), "no"},
	}
	for _, c := range cases {
		wantText(t, fmt.Sprint("MissBound ", c.taking), toldNumber(impl.MissBound(c.c, c.row)), c.want)
	}
	for _, a := range notTaken() {
		wantText(t, fmt.Sprint("MissBound ", a), toldNumber(impl.MissBound(a.c, a.row)), "no")
	}
}

// channel returns a channel of some letters, in many of which some chances are 0.
func (d *drawn) channel(ins, outs int) impl.Channel {
	c := channel(int64(ins), int64(outs))
	for range ins {
		c.Chances = append(c.Chances, d.row(outs)...)
	}
	return c
}

func TestPromise4ChainsTellNoMore(t *testing.T) {
	d := &drawn{4}
	for range 3000 {
		ins, between, outs := 1+d.below(8), 1+d.below(8), 1+d.below(8)
		a, b, row := d.channel(ins, between), d.channel(between, outs), d.row(ins)
		chain, ok := impl.ChainChannels(a, b)
		if !ok {
			t.Fatalf("ChainChannels %v and %v fails", a, b)
		}
		middle, _ := impl.ThroughOf(a, row)
		whole, one := impl.ToldBits(chain, row)
		first, two := impl.ToldBits(a, row)
		second, three := impl.ToldBits(b, middle)
		if !one || !two || !three || whole > first+1e-5 || whole > second+1e-5 || whole < -1e-5 {
			t.Errorf("chain of %v and %v tells %v, and they %v and %v", a, b, whole, first, second)
		}
		behind, _ := impl.ThroughOf(b, middle)
		through, _ := impl.ThroughOf(chain, row)
		for k := range through {
			if !near(through[k], behind[k]) {
				t.Errorf("ThroughOf a chain is %v, and one behind the other %v", through, behind)
			}
		}
	}
}

func TestPromise4ToldAndMissed(t *testing.T) {
	d := &drawn{5}
	for range 2000 {
		ins, outs := 2+d.below(7), 1+d.below(8)
		c, row := d.channel(ins, outs), d.row(ins)
		told, _ := impl.ToldBits(c, row)
		ofRow, _ := impl.EntropyOf(row)
		through, _ := impl.ThroughOf(c, row)
		ofOuts, _ := impl.EntropyOf(through)
		if told > ofRow+1e-4 || told > ofOuts+1e-4 {
			t.Errorf("%v tells %v of %v, whose entropy is %v", c, told, row, ofRow)
		}
		bound, ok := impl.MissBound(c, row)
		if !ok || ofRow-told > bound+1e-4 {
			t.Errorf("%v leaves %v of %v, more than %v", c, ofRow-told, row, bound)
		}
		guesses, miss, _ := impl.BestGuesses(c, row)
		hit := 0.0
		for out, chance := range through {
			if chance == 0 {
				continue
			}
			back, ok := impl.BackOf(c, row, int64(out))
			if !ok {
				t.Fatalf("BackOf %v, %v and %d fails", c, row, out)
			}
			for _, x := range back {
				if x > back[guesses[out]] {
					t.Errorf("BackOf %v, %v and %d is %v, and the best guess %d", c, row, out, back, guesses[out])
				}
			}
			hit += float64(chance) * float64(back[guesses[out]])
		}
		if math.Abs(1-hit-float64(miss)) > 1e-5 {
			t.Errorf("guesses of %v and %v miss %v, not %v", c, row, 1-hit, miss)
		}
	}
}

func TestPromise4SidesTellTogether(t *testing.T) {
	d := &drawn{6}
	for range 1000 {
		a, b := d.channel(1+d.below(4), 1+d.below(4)), d.channel(1+d.below(2), 1+d.below(2))
		rowOfA, rowOfB := d.row(int(a.Ins)), d.row(int(b.Ins))
		side, ok := impl.SideChannels(a, b)
		joined, two := impl.JoinRows(rowOfA, rowOfB)
		if !ok || !two {
			t.Fatalf("SideChannels %v and %v fails", a, b)
		}
		whole, one := impl.ToldBits(side, joined.Chances)
		first, _ := impl.ToldBits(a, rowOfA)
		second, _ := impl.ToldBits(b, rowOfB)
		if !one || math.Abs(float64(whole-first-second)) > 1e-4 {
			t.Errorf("%v beside %v tells %v, and they %v and %v", a, b, whole, first, second)
		}
	}
}
