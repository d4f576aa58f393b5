package tests

import (
	"fmt"
	"math"
	"slices"
	"testing"

	"loop.example/g01364/impl"
)

func toldRate(rate, cost float32, outs []float32, ok bool) string {
	return outcome(fmt.Sprint(hex(rate), " ", hex(cost), " ", hex(outs...)), hex(rate, cost) == hex(0, 0) && len(outs) == 0, ok)
}

// wrongs are the costs of both letters for each other one.
func wrongs() []float32 { return chances(0, 1, 1, 0) }

// squares are the costs of three letters on a line.
func squares() []float32 { return chances(0, 1, 4, 1, 0, 1, 4, 1, 0) }

// paying are arguments of functions about rates.
type paying struct {
	row, costs []float32
	slope      float32
}

func (a paying) String() string {
	return hex(a.row...) + " and " + hex(a.costs...) + " by " + hex(a.slope)
}

// notPaid are arguments that are not valid for rows of some letters that come out.
func notPaid(outs int) []paying {
	one := repeatedNumbers(1, outs)
	list := []paying{
		{nil, nil, 1}, {nil, one, 1}, {chances(1), nil, 1}, {chances(1), append(one, 1, 1), 1}, {halves(), one[:outs-1], 1}, {halves(), append(one, one[1:]...), 1}, {halves(), append(one, append(one, 1)...), 1},
		{chances(1), one, num(0x80000001)}, {chances(1), one, -1}, {chances(1), one, num(noNumber)}, {chances(1), one, num(plusInf)}, {chances(1), one, num(minusInf)},
	}
	for _, cost := range chances(num(0x80000001), -1, num(noNumber), num(plusInf), num(minusInf)) {
		for place := range 2 * outs {
			costs := append(one[:outs:outs], one...)
			costs[place] = cost
			list = append(list, paying{halves(), costs, 1}, paying{chances(1, 0), costs, 0})
		}
	}
	for _, row := range badRows() {
		list = append(list, paying{row, repeatedNumbers(1, len(row)*outs), 1})
	}
	return list
}

func TestPromise4RateOnce(t *testing.T) {
	low := chances(0.3, 0.7)
	cases := []struct {
		paying
		outs []float32
		want string
	}{
		{paying{halves(), wrongs(), 0}, halves(), "3f000000,3f000000"},
		{paying{halves(), wrongs(), 0}, low, hex(low...)},
		{paying{low, wrongs(), num(minusZero)}, halves(), "3f000000,3f000000"},
		{paying{low, wrongs(), 1}, halves(), "3ed0ade1,3f17a910"},
		{paying{thirds(), squares(), 0.7}, chances(0.25, 0.5, 0.25), "3e25d55c,3f09f75a,3e99269e"},
		{paying{thirds(), chances(0, 2, 1, 0, 0.5, 0.5), 3}, chances(0.4, 0.6), "3ed15ae7,3f17528e"},
		{paying{chances(1), chances(1, 2, 3, 4), 1}, four(), "3edab7d6,3ea0ec7d,3e319a06,3dae3ab6"},
		{paying{four(), chances(1, 2, 3, 4), 1}, chances(1), "3f800000"},
		{paying{chances(1), chances(0), 0}, chances(1), "3f800000"},
		{paying{chances(1), chances(num(minusZero), num(least)), num(least)}, halves(), "3f000000,3f000000"},
		{paying{low, wrongs(), 1}, chances(1, 0), "3f800000,00000000"},
		{paying{low, chances(0, 1000, 1000, 0), 1}, halves(), hex(low...)},
		{paying{low, chances(0, 1e38, 1e38, 0), 1e38}, halves(), hex(low...)},
		{paying{low, chances(0, 1000, 0, 1000), 1}, halves(), "3f800000,00000000"},
		{paying{chances(highest()), chances(1), 1}, chances(highest()), "3f8020c4"},
		{paying{chances(highest(), 0), chances(1, 2, 1, 2), 1}, chances(lowest(), 0), "3f8020c4,00000000"},
		{paying{chances(1), repeatedNumbers(1, 8), 1}, repeatedNumbers(0.125, 8), hex(repeatedNumbers(num(0x3e000001), 8)...)},
		{paying{repeatedNumbers(1.0/32, 32), repeatedNumbers(0.5, 256), 2}, repeatedNumbers(0.125, 8), hex(repeatedNumbers(num(0x3e000001), 8)...)},
		// The sum is too great.
		{paying{chances(highest()), repeatedNumbers(1, 8), 1}, repeatedNumbers(0.125, 8), "no"},
		// No letter can stand for one of the row, even if this one has no chance.
		{paying{low, chances(0, 1000, 1000, 1000), 1}, halves(), "no"},
		{paying{chances(1, 0), chances(0, 0, 1000, 1000), 1}, halves(), "no"},
		{paying{low, chances(0, 1000, 1000, 0), 1}, chances(1, 0), "no"},
		{paying{chances(1), repeatedNumbers(1, 9), 1}, repeatedNumbers(1.0/9, 9), "no"},
		{paying{halves(), wrongs(), 1}, chances(1), "no"},
		{paying{halves(), wrongs(), 1}, thirds(), "no"},
		{paying{chances(1), wrongs(), 1}, halves(), "no"},
		{paying{halves(), wrongs(), 1}, nil, "no"},
	}
	for _, c := range cases {
		wantText(t, fmt.Sprint("RateOnce ", c.paying, hex(c.outs...)), toldRow(impl.RateOnce(c.row, c.costs, c.outs, c.slope)), c.want)
	}
	for outs := 1; outs <= 3; outs++ {
		for _, a := range notPaid(outs) {
			wantText(t, fmt.Sprint("RateOnce ", a), toldRow(impl.RateOnce(a.row, a.costs, repeatedNumbers(1/float32(outs), outs), a.slope)), "no")
		}
	}
	for _, row := range badRows() {
		wantText(t, "RateOnce to "+hex(row...), toldRow(impl.RateOnce(chances(1), repeatedNumbers(1, len(row)), row, 1)), "no")
	}
}

func TestPromise4RateOf(t *testing.T) {
	low := chances(0.3, 0.7)
	edge := chances(highest())
	cases := []struct {
		paying
		rounds int64
		want   string
	}{
		{paying{halves(), wrongs(), 0}, 3, "00000000 3f000000 3f000000,3f000000"},
		{paying{halves(), wrongs(), 0}, 0, "00000000 3f000000 3f000000,3f000000"},
		{paying{low, wrongs(), 1}, 0, "3e23e660 3e89b2b1 3f000000,3f000000"},
		{paying{low, wrongs(), 1}, 1, "3e18bc8c 3e7bcf40 3ed0ade1,3f17a910"},
		{paying{low, wrongs(), 3}, 20, "3f1b1e4a 3d4241a1 3e8ede90,3f3890b9"},
		{paying{low, wrongs(), 3}, 200, "3f1b1e4a 3d4241a1 3e8ede90,3f3890b9"},
		{paying{low, wrongs(), 100}, 10, "3f619c49 0000001b 3e99999a,3f333333"},
		{paying{thirds(), squares(), 1.5}, 20, "3f2218c0 3e683b06 3e1f3475,3eadd3f0,3f0148ea"},
		{paying{thirds(), chances(0, 2, 1, 0, 0.5, 0.5), 2}, 5, "3ea61962 3e940984 3ee994ec,3f0b358a"},
		{paying{chances(1), chances(1, 2, 3, 4), 1}, 3, "3ca4861f 3f826359 3f734189,3d41c6a8,3b1a5c51,38f5ecdf"},
		{paying{chances(1), chances(1, 2, 3, 4), 1}, 0, "3f220bda 3fc0f0c3 3e800000,3e800000,3e800000,3e800000"},
		{paying{four(), chances(1, 2, 3, 4), 1}, 9, "00000000 40400000 3f800000"},
		{paying{chances(1), chances(0), 0}, 0, "00000000 00000000 3f800000"},
		{paying{chances(1), chances(num(minusZero)), num(minusZero)}, 0, "00000000 00000000 3f800000"},
		{paying{chances(1), chances(3e38, 3e38), 0}, 0, "00000000 7f61b1e6 3f000000,3f000000"},
		{paying{edge, chances(1), 1}, 0, "00000000 3f8020c4 3f800000"},
		{paying{edge, chances(1), 1}, 1, "babd2d80 3f8020c4 3f8020c4"},
		{paying{chances(1), repeatedNumbers(1, 8), 1}, 1, "00000000 3f800001 " + hex(repeatedNumbers(num(0x3e000001), 8)...)},
		{paying{repeatedNumbers(1.0/32, 32), repeatedNumbers(0.5, 256), 2}, 1, "00000000 3f000001 " + hex(repeatedNumbers(num(0x3e000001), 8)...)},
		// The sum of what the first round makes is too great.
		{paying{edge, repeatedNumbers(1, 8), 1}, 0, "348020c5 3f8020c5 " + hex(repeatedNumbers(0.125, 8)...)},
		{paying{edge, repeatedNumbers(1, 8), 1}, 1, "no"},
		// The cost is infinite.
		{paying{edge, repeatedNumbers(num(greatest), 2), 0}, 0, "no"},
		// No letter can stand for one of the row, even if this one has no chance.
		{paying{low, chances(0, 1000, 1000, 1000), 1}, 0, "no"},
		{paying{low, chances(0, 1000, 1000, 1000), 1}, 1, "no"},
		{paying{chances(1, 0), chances(0, 0, 1000, 1000), 1}, 0, "no"},
		{paying{chances(1), repeatedNumbers(1, 9), 1}, 1, "no"},
		{paying{halves(), chances(0, 1, 1), 1}, 1, "no"},
		{paying{halves(), chances(0), 1}, 0, "no"},
		{paying{low, wrongs(), 1}, -1, "no"},
		{paying{low, wrongs(), 1}, 201, "no"},
		{paying{low, wrongs(), 1}, math.MaxInt64, "no"},
		{paying{low, wrongs(), 1}, math.MinInt64, "no"},
	}
	for _, c := range cases {
		wantText(t, fmt.Sprint("RateOf ", c.paying, c.rounds), toldRate(impl.RateOf(c.row, c.costs, c.slope, c.rounds)), c.want)
	}
	for _, a := range notPaid(1) {
		if len(a.row) > 0 && len(a.costs)%len(a.row) == 0 && len(a.costs) > len(a.row) {
			continue
		}
		for rounds := range int64(3) {
			wantText(t, fmt.Sprint("RateOf ", a, rounds), toldRate(impl.RateOf(a.row, a.costs, a.slope, rounds)), "no")
		}
	}
	for _, row := range badRows() {
		wantText(t, "RateOf "+hex(row...), toldRate(impl.RateOf(row, repeatedNumbers(1, 3*len(row)), 1, 0)), "no")
	}
}

func TestPromise4RateOfIsTheRounds(t *testing.T) {
	d := &drawn{11}
	for range 200 {
		row, outs := d.row(1+d.below(8)), 1+d.below(8)
		var costs []float32
		for range len(row) * outs {
			costs = append(costs, float32(d.below(100))/20)
		}
		slope, better := float32(d.below(50))/10, repeatedNumbers(1/float32(outs), outs)
		rounds := d.below(20)
		for range rounds {
			better, _ = impl.RateOnce(row, costs, better, slope)
		}
		rate, cost, told, ok := impl.RateOf(row, costs, slope, int64(rounds))
		wantText(t, fmt.Sprint("RateOf ", row, costs, slope, rounds), toldRow(told, ok), hex(better...))
		if rate < -1e-5 || cost < 0 {
			t.Errorf("RateOf %v, %v, %v is %v, with the cost %v", row, costs, slope, rate, cost)
		}
		if free, _, _, ok := impl.RateOf(row, costs, 0, int64(rounds)); !ok || free > 1e-5 {
			t.Errorf("RateOf %v and %v by 0 is %v", row, costs, free)
		}
		ofRow, _ := impl.EntropyOf(row)
		steeper, cheaper, _, _ := impl.RateOf(row, costs, slope+0.5, 200)
		if flat, dear, _, ok := impl.RateOf(row, costs, slope, 200); !ok || steeper < flat-1e-2 || cheaper > dear+1e-2 || steeper > ofRow+1e-2 {
			t.Errorf("RateOf %v and %v: %v for %v by %v, %v for %v by more", row, costs, flat, dear, slope, steeper, cheaper)
		}
	}
}

// The rate for halves with the cost of wrong letters is 1 less the entropy of these.
func TestPromise4KnownRates(t *testing.T) {
	for slope := float32(0.25); slope < 6; slope += 0.25 {
		rate, cost, outs, ok := impl.RateOf(halves(), wrongs(), slope, 50)
		entropy, _ := impl.EntropyOf(chances(cost, 1-cost))
		if !ok || !near(rate, 1-entropy) || !near(outs[0], 0.5) || !near(cost, float32(1/(1+math.Exp(float64(slope))))) {
			t.Errorf("RateOf halves by %v: got %v for %v", slope, rate, cost)
		}
	}
}

func toldRest(row []float32, times int64, ok bool) string {
	return outcome(fmt.Sprint(hex(row...), " ", times), len(row) == 0 && times == 0, ok)
}

func weather() impl.Channel  { return channel(3, 3, 0.7, 0.2, 0.1, 0.3, 0.4, 0.3, 0.2, 0.3, 0.5) }
func swinging() impl.Channel { return channel(3, 3, 0, 1, 0, 1, 0, 0, 1, 0, 0) }
func slow() impl.Channel     { return channel(2, 2, 1, 0, 0.01, 0.99) }

// noSources are channels with as many letters that come out, or not, that are no sources.
func noSources() []impl.Channel {
	return append(badChannels(), uneven(), merging(), losing(), fromOne(), toOne(), channel(8, 1, repeatedNumbers(1, 8)...), channel(1, 8, repeatedNumbers(0.125, 8)...))
}

func TestPromise4RestRow(t *testing.T) {
	cases := []struct {
		c    impl.Channel
		near float32
		most int64
		want string
	}{
		{quarter(), 0, 9, "3f000000,3f000000 1"},
		{straight(), 0, 1, "3f000000,3f000000 1"},
		{single(), 0, 1, "3f800000 1"},
		{channel(3, 3, 0, 0, 1, 0, 0, 1, 0, 0, 1), 0, 2, "00000000,00000000,3f800000 2"},
		{channel(3, 3, 0, 0, 1, 0, 0, 1, 0, 0, 1), 0, 1, "no"},
		{weather(), 0.01, 200, "3ee6b50c,3e9182ab,3e87c84c 4"},
		{weather(), 0.01, 4, "3ee6b50c,3e9182ab,3e87c84c 4"},
		{weather(), 0.01, 3, "no"},
		{weather(), 0.01, 1, "no"},
		{weather(), 0.2, 1, "3ecccccd,3e99999a,3e99999a 1"},
		{weather(), 0, 200, "3ee9bd3a,3e90b218,3e8590b4 22"},
		{swinging(), 0.34, 200, "3f2aaaab,3eaaaaab,00000000 1"},
		{swinging(), 0.3, 200, "no"},
		{halting(), 0.01, 200, "3f7e0000,3c000000 6"},
		{full(), 0, 1, hex(repeatedNumbers(0.125, 8)...) + " 1"},
		{letterwise(0.75, 0.25, 0), 0, 1, hex(repeatedNumbers(0.125, 8)...) + " 1"},
		{slow(), num(0x3a316400), 200, "3f6ed9c0,3d893207 200"},
		{slow(), num(0x3a316400), 199, "no"},
		{slow(), num(0x3a3163ff), 200, "no"},
		{slow(), num(greatest), 1, "3f0147ae,3efd70a4 1"},
		// The first step changes the sum, and the second one makes it too great.
		{high(), 0.01, 1, "3f8020c4 1"},
		{high(), 0.0001, 9, "no"},
		{quarter(), num(minusZero), 1, "3f000000,3f000000 1"},
		{quarter(), num(0x80000001), 1, "no"},
		{quarter(), -1, 1, "no"},
		{quarter(), num(noNumber), 1, "no"},
		{quarter(), num(plusInf), 1, "no"},
		{quarter(), num(minusInf), 1, "no"},
		{quarter(), 0, 0, "no"},
		{quarter(), 0, 201, "no"},
		{quarter(), 0, -1, "no"},
		{quarter(), 0, math.MaxInt64, "no"},
		{quarter(), 0, math.MinInt64, "no"},
	}
	for _, c := range cases {
		wantText(t, fmt.Sprint("RestRow ", c.c, c.near, c.most), toldRest(impl.RestRow(c.c, c.near, c.most)), c.want)
	}
	for _, bad := range noSources() {
		wantText(t, "RestRow "+toldChannel(bad, true), toldRest(impl.RestRow(bad, 0.5, 200)), "no")
	}
}

func TestPromise4RestRowIsTheSteps(t *testing.T) {
	d := &drawn{12}
	for range 500 {
		n := 1 + d.below(8)
		c, near := d.channel(n, n), []float32{0, 1e-7, 0.001, 0.1}[d.below(4)]
		row, times, ok := impl.RestRow(c, near, 200)
		now, most := repeatedNumbers(1/float32(n), n), float32(1)
		step := int64(0)
		for ; step < 200 && most > near; step++ {
			next, _ := impl.ThroughOf(c, now)
			most = 0
			for i := range next {
				most = max(most, next[i]-now[i], now[i]-next[i])
			}
			now = next
		}
		if most > near {
			now, step = nil, 0
		}
		wantText(t, fmt.Sprint("RestRow ", c, near), toldRest(row, times, ok), toldRest(now, step, most <= near))
	}
}

func TestPromise4SourceBits(t *testing.T) {
	cases := []struct {
		c    impl.Channel
		near float32
		most int64
		want string
	}{
		{quarter(), 0, 9, "3f4fafec"},
		{channel(2, 2, 0.5, 0.5, 0.5, 0.5), 0, 9, "3f800000"},
		{straight(), 0, 1, "00000000"},
		{single(), 0, 1, "00000000"},
		{weather(), 0.01, 200, "3fae4ac9"},
		{weather(), 0.01, 3, "no"},
		{halting(), 0.001, 200, "3a800000"},
		{swinging(), 0.34, 200, "00000000"},
		{swinging(), 0.3, 200, "no"},
		{letterwise(0.75, 0.25, 0), 0, 1, "3f4fafee"},
		{full(), 0, 1, "40400000"},
		{high(), 0.01, 1, "babd5ded"},
		{quarter(), num(minusZero), 200, "3f4fafec"},
		{quarter(), num(0x80000001), 1, "no"},
		{quarter(), num(noNumber), 1, "no"},
		{quarter(), num(plusInf), 1, "no"},
		{quarter(), 0, 0, "no"},
		{quarter(), 0, 201, "no"},
	}
	for _, c := range cases {
		wantText(t, fmt.Sprint("SourceBits ", c.c, c.near, c.most), toldNumber(impl.SourceBits(c.c, c.near, c.most)), c.want)
	}
	for _, bad := range noSources() {
		wantText(t, "SourceBits "+toldChannel(bad, true), toldNumber(impl.SourceBits(bad, 0.5, 200)), "no")
	}
}

func TestPromise4WordChance(t *testing.T) {
	long := slices.Repeat([]int64{0, 1}, 32)
	cases := []struct {
		taking
		word []int64
		want string
	}{
		{taking{weather(), thirds()}, []int64{0}, "3e4ccccd"},
		{taking{weather(), thirds()}, []int64{2}, "3f000000"},
		{taking{weather(), thirds()}, []int64{0, 1, 1, 2, 0}, "3a7ba883"},
		{taking{weather(), thirds()}, []int64{2, 0, 2, 1}, "3b449ba7"},
		{taking{channel(2, 2, 0.5, 0.5, 0.5, 0.5), halves()}, []int64{0, 1, 1}, "3e000000"},
		{taking{channel(2, 2, 0.5, 0.5, 0.5, 0.5), halves()}, long, hex(0x1p-64)},
		{taking{straight(), chances(0.3, 0.7)}, []int64{1, 1, 1}, "3f333333"},
		{taking{straight(), chances(0.3, 0.7)}, []int64{1, 0, 1}, "00000000"},
		{taking{straight(), chances(1, 0)}, []int64{1}, "00000000"},
		{taking{straight(), chances(1, num(minusZero))}, []int64{1}, "80000000"},
		{taking{single(), chances(1)}, make([]int64, 64), "3f800000"},
		{taking{single(), chances(highest())}, []int64{0}, "3f8020c4"},
		{taking{high(), chances(highest())}, []int64{0, 0, 0}, "3f806265"},
		{taking{single(), chances(1)}, make([]int64, 65), "no"},
		{taking{channel(2, 2, 0.5, 0.5, 0.5, 0.5), halves()}, append(long, 0), "no"},
		{taking{weather(), thirds()}, nil, "no"},
		{taking{weather(), thirds()}, []int64{}, "no"},
		{taking{weather(), thirds()}, []int64{3}, "no"},
		{taking{weather(), thirds()}, []int64{0, 3}, "no"},
		{taking{weather(), thirds()}, []int64{-1}, "no"},
		{taking{weather(), thirds()}, []int64{0, -1, 0}, "no"},
		{taking{weather(), thirds()}, []int64{0, math.MaxInt64}, "no"},
		{taking{weather(), thirds()}, []int64{math.MinInt64, 0}, "no"},
		{taking{uneven(), halves()}, []int64{0}, "no"},
		{taking{merging(), thirds()}, []int64{0}, "no"},
	}
	for _, c := range cases {
		wantText(t, fmt.Sprint("WordChance ", c.taking, c.word), toldNumber(impl.WordChance(c.c, c.row, c.word)), c.want)
	}
	for _, a := range notTaken() {
		wantText(t, fmt.Sprint("WordChance ", a), toldNumber(impl.WordChance(a.c, a.row, []int64{0})), "no")
	}
	for _, bad := range noSources() {
		if n := bad.Ins; n >= 1 && n <= 8 {
			wantText(t, "WordChance "+toldChannel(bad, true), toldNumber(impl.WordChance(bad, repeatedNumbers(1/float32(n), int(n)), []int64{0})), "no")
		}
	}
}

func TestPromise4WordsOfOneLengthAreAll(t *testing.T) {
	d := &drawn{13}
	for range 50 {
		n := 1 + d.below(3)
		c, row := d.channel(n, n), d.row(n)
		for length := 1; length <= 4; length++ {
			sum, word := 0.0, make([]int64, length)
			for place := 0; place < length; {
				chance, ok := impl.WordChance(c, row, word)
				wantBool(t, "WordChance succeeds", ok, true)
				sum += float64(chance)
				for place = 0; place < length; place++ {
					if word[place]++; word[place] < int64(n) {
						break
					}
					word[place] = 0
				}
			}
			if math.Abs(sum-1) > 1e-5 {
				t.Errorf("words of %d letters of %v have the chance %v", length, c, sum)
			}
		}
	}
}
