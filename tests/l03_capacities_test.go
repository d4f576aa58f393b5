package tests

import (
	"fmt"
	"math"
	"slices"
	"testing"

	"loop.example/g01364/impl"
)

func toldTurn(row []float32, told, most float32, ok bool) string {
	return outcome(fmt.Sprint(hex(row...), " ", hex(told), " ", hex(most)), len(row) == 0 && hex(told, most) == hex(0, 0), ok)
}

func toldCapacity(row []float32, told float32, times int64, ok bool) string {
	return outcome(fmt.Sprint(hex(row...), " ", hex(told), " ", times), len(row) == 0 && bitsOf(told) == plusZero && times == 0, ok)
}

func TestPromise4TurnOnce(t *testing.T) {
	cases := []struct {
		taking
		want string
	}{
		{taking{erasing(), halves()}, "3f000000,3f000000 3f400000 3f400000"},
		{taking{uneven(), chances(0.3, 0.7)}, "3ebf30bb,3f2067a3 3e93dbc6 3f1f2c02"},
		{taking{uneven(), halves()}, "3efdbe05,3f0120fe 3eaa5e59 3eb0e216"},
		{taking{merging(), thirds()}, "3e8dc564,3e5dbc6c,3f01ae33 3f056898 3f839f3c"},
		{taking{halting(), halves()}, "3f0930a4,3eed9eba 3e9f5fd9 3ed47fcc"},
		{taking{quarter(), chances(0.9, 0.1)}, "3f5adad8,3e1494a2 3d8f62ec 3f1ebe2f"},
		{taking{losing(), chances(0.3, 0.7)}, "3e99999a,3f333333 00000000 00000000"},
		{taking{losing(), chances(1, 0)}, "3f800000,00000000 00000000 00000000"},
		{taking{halting(), chances(0, 1)}, "00000000,3f800000 00000000 3f800000"},
		{taking{straight(), chances(1, 1e-20)}, "3f000006,3efffff5 2144178e 4284e08b"},
		{taking{faint(), halves()}, "3f000000,3f000000 0d22420f 0da2420f"},
		{taking{single(), chances(1)}, "3f800000 00000000 00000000"},
		{taking{fromOne(), chances(1)}, "3f800000 00000000 00000000"},
		{taking{toOne(), four()}, hex(four()...) + " 00000000 00000000"},
		{taking{high(), chances(1)}, "3f800000 00000000 00000000"},
		{taking{channel(2, 1, highest(), lowest()), halves()}, "3f0020c4,3effbe78 35361800 3abd2d80"},
		// A letter comes out for nothing, but one that has no chance would make it.
		{taking{straight(), chances(1, 0)}, "no"},
		{taking{erasing(), chances(1, 0)}, "no"},
		{taking{halting(), chances(1, 0)}, "no"},
		{taking{faint(), chances(1, 1e-30)}, "no"},
		// The news of the second letter are so great that its new chance is infinite before it is divided.
		{taking{straight(), chances(1, num(least))}, "no"},
		{beyond(), "no"},
	}
	for _, c := range cases {
		wantText(t, fmt.Sprint("TurnOnce ", c.taking), toldTurn(impl.TurnOnce(c.c, c.row)), c.want)
	}
	for _, a := range notTaken() {
		wantText(t, fmt.Sprint("TurnOnce ", a), toldTurn(impl.TurnOnce(a.c, a.row)), "no")
	}
}

// lazy is a channel whose capacity takes many rounds.
func lazy() impl.Channel { return channel(3, 2, 0.625, 0.375, 0.5, 0.5, 0.375, 0.625) }

func TestPromise4CapacityOf(t *testing.T) {
	cases := []struct {
		c    impl.Channel
		near float32
		most int64
		want string
	}{
		{erasing(), 0.01, 9, "3f000000,3f000000 3f400000 1"},
		{quarter(), 0, 1, "3f000000,3f000000 3e41404e 1"},
		{straight(), 0, 200, "3f000000,3f000000 3f800000 1"},
		{losing(), 0, 1, "3f000000,3f000000 00000000 1"},
		{channel(2, 2, 0.5, 0.5, 0.5, 0.5), 0, 200, "3f000000,3f000000 00000000 1"},
		{single(), 0, 1, "3f800000 00000000 1"},
		{fromOne(), 0, 1, "3f800000 00000000 1"},
		{toOne(), 0, 1, "3e800000,3e800000,3e800000,3e800000 00000000 1"},
		{full(), 0, 1, hex(repeatedNumbers(0.125, 8)...) + " 00000000 1"},
		{letterwise(0.75, 0.25, 0), 0, 1, hex(repeatedNumbers(0.125, 8)...) + " 400c1404 1"},
		{high(), 0, 200, "3f800000 00000000 1"},
		{halting(), 1, 1, "3f000000,3f000000 3e9f5fd9 1"},
		{halting(), 0.01, 200, "3f17056c,3ed1f529 3ea4c4db 6"},
		{halting(), 0.01, 6, "3f17056c,3ed1f529 3ea4c4db 6"},
		{halting(), 0.01, 5, "no"},
		{halting(), 0.01, 1, "no"},
		{halting(), 0.0001, 200, "3f199392,3eccd8dd 3ea4d3c1 16"},
		{uneven(), 0.0001, 200, "3efa929a,3f02b6b3 3eaa701e 11"},
		{merging(), 0.001, 200, "3ee96a64,3a250920,3f0b218b 3f432b84 14"},
		{merging(), 0, 200, "3ee99fe8,331f941d,3f0b300c 3f434a04 33"},
		{lazy(), 0.0003, 200, "3efe5212,3bd6f731,3efe5212 3d3969f3 138"},
		{lazy(), num(0x3831ec00), 199, "no"},
		{lazy(), num(0x3831ebff), 200, "no"},
		{quarter(), num(minusZero), 1, "3f000000,3f000000 3e41404e 1"},
		{quarter(), num(greatest), 1, "3f000000,3f000000 3e41404e 1"},
		{quarter(), num(0x80000001), 1, "no"},
		{quarter(), -1, 1, "no"},
		{quarter(), num(noNumber), 1, "no"},
		{quarter(), num(plusInf), 1, "no"},
		{quarter(), num(minusInf), 1, "no"},
		{quarter(), 0, 0, "no"},
		{quarter(), 0, 201, "no"},
		{quarter(), 0, -1, "no"},
		{quarter(), 0, math.MaxInt64, "no"},
		{quarter(), 0, math.MinInt64, "no"},
		// The sum of what comes out is too great.
		{channel(3, 1, highest(), highest(), num(0x3f8020c6)), 0.1, 200, "no"},
	}
	for _, c := range cases {
		wantText(t, fmt.Sprint("CapacityOf ", c.c, c.near, c.most), toldCapacity(impl.CapacityOf(c.c, c.near, c.most)), c.want)
	}
	_, _, times, ok := impl.CapacityOf(lazy(), num(0x3831ec00), 200)
	wantBool(t, "CapacityOf after 200 rounds", ok && times == 200, true)
	for _, bad := range badChannels() {
		wantText(t, "CapacityOf "+toldChannel(bad, true), toldCapacity(impl.CapacityOf(bad, 0.1, 200)), "no")
	}
}

func TestPromise4CapacityIsTheRounds(t *testing.T) {
	d := &drawn{8}
	for range 300 {
		ins, outs := 1+d.below(8), 1+d.below(8)
		c := d.channel(ins, outs)
		near := []float32{0, 0.0001, 0.01, 0.1}[d.below(4)]
		row, told, times, ok := impl.CapacityOf(c, near, 200)
		better := repeatedNumbers(1/float32(ins), ins)
		for round := int64(1); round <= 200; round++ {
			next, sum, most, turned := impl.TurnOnce(c, better)
			if !turned {
				wantBool(t, fmt.Sprint("CapacityOf when TurnOnce fails: ", c), ok, false)
				break
			}
			if most-sum <= near {
				wantText(t, fmt.Sprint("CapacityOf ", c), toldCapacity(row, told, times, ok), toldCapacity(better, sum, round, true))
				break
			}
			if round == 200 {
				wantBool(t, fmt.Sprint("CapacityOf, never: ", c), ok, false)
			}
			better = next
		}
	}
}

func TestPromise4NoRowIsMuchBetter(t *testing.T) {
	d := &drawn{9}
	for range 200 {
		ins, outs := 1+d.below(8), 1+d.below(8)
		c := d.channel(ins, outs)
		best, capacity, _, ok := impl.CapacityOf(c, 0.01, 200)
		if !ok {
			continue
		}
		if told, ok := impl.ToldBits(c, best); !ok || math.Abs(float64(told-capacity)) > 1e-4 {
			t.Errorf("CapacityOf %v is %v, and its row tells %v", c, capacity, told)
		}
		if float64(capacity) > math.Log2(float64(min(ins, outs)))+1e-4 || capacity < -1e-5 {
			t.Errorf("CapacityOf %v is %v", c, capacity)
		}
		for range 50 {
			row := d.row(ins)
			if told, ok := impl.ToldBits(c, row); !ok || told > capacity+0.01+1e-4 {
				t.Errorf("CapacityOf %v is %v, but %v tells %v", c, capacity, row, told)
			}
		}
	}
}

func TestPromise4KnownCapacities(t *testing.T) {
	entropy := func(x float64) float64 { return -x*math.Log2(x) - (1-x)*math.Log2(1-x) }
	for letters := int64(2); letters <= 7; letters++ {
		whole := math.Log2(float64(letters))
		for i := 1; i < 20; i++ {
			x := float64(i) / 20
			flip, _ := impl.FlipChannel(letters, float32(x))
			lose, _ := impl.LoseChannel(letters, float32(x))
			next, _ := impl.NextChannel(letters, float32(x))
			wantNear(t, flip, whole-entropy(x)-x*math.Log2(float64(letters-1)))
			wantNear(t, lose, whole*(1-x))
			wantNear(t, next, whole-entropy(x))
		}
	}
	// The capacity of the channel that halts is that of a known row.
	wantNear(t, halting(), math.Log2(1.25))
}

func wantNear(t *testing.T, c impl.Channel, want float64) {
	t.Helper()
	if _, capacity, _, ok := impl.CapacityOf(c, 1e-5, 200); !ok || math.Abs(float64(capacity)-want) > 1e-4 {
		t.Errorf("CapacityOf %v: got %v, want %v", c, capacity, want)
	}
}

func TestPromise4CapacitiesShared(t *testing.T) {
	all := []impl.Channel{erasing(), halting(), losing(), merging(), full(), single(), uneven(), lazy()}
	for count := range len(all) + 1 {
		list := all[:count]
		var capacities []float32
		for _, c := range list {
			_, told, _, ok := impl.CapacityOf(c, 0.001, 150)
			wantBool(t, "CapacityOf one of a list", ok, true)
			capacities = append(capacities, told)
		}
		for workers := int64(1); workers <= 8; workers++ {
			wantText(t, fmt.Sprint("CapacitiesShared by ", workers), toldRow(impl.CapacitiesShared(list, 0.001, 150, workers)), hex(capacities...))
		}
		wrong := []struct {
			near          float32
			most, workers int64
		}{
			{0.001, 150, 0}, {0.001, 150, 9}, {0.001, 150, -1}, {0.001, 150, math.MaxInt64}, {0.001, 150, math.MinInt64},
			{0.001, 0, 2}, {0.001, 201, 2}, {0.001, -1, 2}, {0.001, math.MaxInt64, 2}, {0.001, math.MinInt64, 2},
			{num(0x80000001), 150, 2}, {-1, 150, 2}, {num(noNumber), 150, 2}, {num(plusInf), 150, 2}, {num(minusInf), 150, 2},
		}
		for _, w := range wrong {
			wantText(t, fmt.Sprint("CapacitiesShared ", count, w), toldRow(impl.CapacitiesShared(list, w.near, w.most, w.workers)), "no")
		}
		for _, bad := range badChannels() {
			spoilt := slices.Insert(slices.Clone(list), count/2, bad)
			wantText(t, "CapacitiesShared of a bad one", toldRow(impl.CapacitiesShared(spoilt, 0.001, 150, 3)), "no")
		}
	}
	wantText(t, "CapacitiesShared of none", toldRow(impl.CapacitiesShared(nil, 0, 1, 1)), "")
	wantText(t, "CapacitiesShared of none, to the last", toldRow(impl.CapacitiesShared(nil, num(minusZero), 200, 8)), "")
	wantText(t, "CapacitiesShared, one never", toldRow(impl.CapacitiesShared(all, 0.0003, 137, 4)), "no")
	wantText(t, "CapacitiesShared of 8", toldRow(impl.CapacitiesShared(slices.Repeat([]impl.Channel{single()}, 8), 0, 1, 1)), hex(make([]float32, 8)...))
	wantText(t, "CapacitiesShared of 9", toldRow(impl.CapacitiesShared(slices.Repeat([]impl.Channel{single()}, 9), 0, 1, 1)), "no")
}

func TestPromise4IsFair(t *testing.T) {
	cases := []struct {
		what string
		c    impl.Channel
		want string
	}{
		{"quarters", quarter(), "true"},
		{"without faults", straight(), "true"},
		{"one letter", single(), "true"},
		{"all lost", losing(), "false"},
		{"some lost", erasing(), "false"},
		{"uneven", uneven(), "false"},
		{"even", full(), "true"},
		{"next", letterwise(0.75, 0.25, 0), "true"},
		{"flips", letterwise(0.3, 0.1, 0.1), "true"},
		{"from one letter", fromOne(), "false"},
		{"to one letter", toOne(), "true"},
		{"from one letter, evenly", channel(1, 2, 0.5, 0.5), "true"},
		{"to one letter, with other sums", channel(2, 1, highest(), 1), "false"},
		{"two zeros", channel(2, 2, num(minusZero), 1, 1, 0), "true"},
		{"two zeros in a row", channel(2, 3, 0, 0.5, 0.5, num(minusZero), 0.5, 0.5), "false"},
		{"two zeros in columns", channel(2, 4, 0, 0.5, 0.5, num(minusZero), 0.5, num(minusZero), 0, 0.5), "true"},
		{"more columns than rows", channel(2, 4, 0.375, 0.375, 0.125, 0.125, 0.125, 0.125, 0.375, 0.375), "true"},
		{"rows alone", channel(2, 4, 0.375, 0.125, 0.375, 0.125, 0.375, 0.125, 0.125, 0.375), "false"},
		{"columns alone", channel(3, 2, 0.5, 0.5, 0.25, 0.75, 0.75, 0.25), "false"},
		{"rows alone, but for the last column", channel(3, 3, 0.5, 0.25, 0.25, 0.5, 0.25, 0.25, 0.25, 0.25, 0.5), "false"},
		{"half and quarters", channel(3, 3, 0.5, 0.25, 0.25, 0.25, 0.5, 0.25, 0.25, 0.25, 0.5), "true"},
		{"all rows but the last", channel(3, 3, 0, 0.5, 0.5, 0.5, 0, 0.5, 0.5, 0.25, 0.25), "false"},
		{"as often, but others", channel(2, 3, 0.5, 0.25, 0.25, 0.25, 0.375, 0.375), "false"},
	}
	for _, c := range cases {
		wantText(t, "IsFair: "+c.what, toldBool(impl.IsFair(c.c)), c.want)
	}
	for _, bad := range badChannels() {
		wantText(t, "IsFair "+toldChannel(bad, true), toldBool(impl.IsFair(bad)), "no")
	}
}

func TestPromise4FairCapacitiesTakeOneRound(t *testing.T) {
	d := &drawn{10}
	for range 300 {
		n := 1 + d.below(8)
		row := d.row(n)
		c := channel(int64(n), int64(n))
		for i := range n {
			c.Chances = append(c.Chances, row[n-i:]...)
			c.Chances = append(c.Chances, row[:n-i]...)
		}
		wantText(t, fmt.Sprint("IsFair ", c), toldBool(impl.IsFair(c)), "true")
		if _, _, times, ok := impl.CapacityOf(c, 1e-5, 200); !ok || times != 1 {
			t.Errorf("CapacityOf %v takes %d rounds, %v", c, times, ok)
		}
	}
}
