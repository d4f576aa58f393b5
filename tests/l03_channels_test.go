package tests

import (
	"fmt"
	"math"
	"testing"

	"loop.example/g01364/impl"
)

func channel(ins, outs int64, chances ...float32) impl.Channel {
	return impl.Channel{Ins: ins, Outs: outs, Chances: chances}
}

func chances(list ...float32) []float32 { return list }

func halves() []float32 { return chances(0.5, 0.5) }
func thirds() []float32 { return chances(0.2, 0.3, 0.5) }

func uneven() impl.Channel   { return channel(2, 3, 0.1, 0.2, 0.7, 0.6, 0.3, 0.1) }
func merging() impl.Channel  { return channel(3, 2, 0.9, 0.1, 0.5, 0.5, 0, 1) }
func halting() impl.Channel  { return channel(2, 2, 1, 0, 0.5, 0.5) }
func quarter() impl.Channel  { return channel(2, 2, 0.75, 0.25, 0.25, 0.75) }
func straight() impl.Channel { return channel(2, 2, 1, 0, 0, 1) }
func losing() impl.Channel   { return channel(2, 3, 0, 0, 1, 0, 0, 1) }
func erasing() impl.Channel  { return channel(2, 3, 0.75, 0, 0.25, 0, 0.75, 0.25) }
func single() impl.Channel   { return channel(1, 1, 1) }
func fromOne() impl.Channel  { return channel(1, 4, four()...) }
func toOne() impl.Channel    { return channel(4, 1, 1, 1, 1, 1) }
func full() impl.Channel     { return channel(8, 8, repeatedNumbers(0.125, 64)...) }
func high() impl.Channel     { return channel(1, 1, highest()) }
func low() impl.Channel      { return channel(1, 1, lowest()) }
func faint() impl.Channel    { return channel(2, 2, 1, 0, 1, 1e-30) }

// letterwise returns the channel of 8 letters that leaves each one, makes the next one of it, or any other one, with these chances.
func letterwise(stays, next, other float32) impl.Channel {
	c := channel(8, 8, repeatedNumbers(other, 64)...)
	for i := range 8 {
		c.Chances[i*8+i], c.Chances[i*8+(i+1)%8] = stays, next
	}
	return c
}

func toldChannel(c impl.Channel, ok bool) string {
	return toldTable(impl.Table{Rows: c.Ins, Columns: c.Outs, Chances: c.Chances}, ok)
}

func toldGuesses(guesses []int64, miss float32, ok bool) string {
	return outcome(fmt.Sprint(guesses, " ", hex(miss)), len(guesses) == 0 && bitsOf(miss) == plusZero, ok)
}

// badChannels are channels that are not valid.
func badChannels() []impl.Channel {
	channels := []impl.Channel{
		{}, channel(1, 1), channel(0, 0, 1), channel(0, 1, 1), channel(1, 0, 1), channel(-1, -1, 1), channel(1, 2, 1), channel(2, 1, 1), channel(1, 1, 1, 1), channel(2, 2, 1, 0, 1),
		channel(9, 1, repeatedNumbers(1, 9)...), channel(1, 9, repeatedNumbers(1.0/9, 9)...), channel(8, 9, repeatedNumbers(1.0/9, 72)...), channel(9, 8, repeatedNumbers(0.125, 72)...),
		channel(math.MaxInt64, math.MaxInt64, 1), channel(math.MinInt64, math.MinInt64), channel(1<<32, 1<<32), channel(math.MaxInt64, 1, 1), channel(1, math.MaxInt64, 1),
		// The sum of all chances is that of a table, and that of the columns is that of rows.
		channel(2, 2, 0.5, 0, 0.25, 0.25), channel(2, 2, 0.5, 0.25, 0.5, 0.75),
	}
	for _, row := range badRows() {
		if n := len(row); n >= 1 && n <= 8 {
			good := repeatedNumbers(1/float32(n), n)
			channels = append(channels, channel(1, int64(n), row...), channel(2, int64(n), append(good, row...)...), channel(2, int64(n), append(row[:n:n], good...)...))
		}
	}
	return channels
}

func TestPromise4ValidChannel(t *testing.T) {
	channels := []impl.Channel{
		uneven(), merging(), halting(), quarter(), losing(), erasing(), single(), fromOne(), toOne(), full(), high(), low(), letterwise(0.75, 0.25, 0),
		channel(2, 1, highest(), lowest()), channel(1, 2, num(minusZero), 1), channel(8, 1, repeatedNumbers(1, 8)...), channel(1, 8, repeatedNumbers(0.125, 8)...),
	}
	for _, valid := range channels {
		wantBool(t, "ValidChannel "+toldChannel(valid, true), impl.ValidChannel(valid), true)
	}
	for _, bad := range badChannels() {
		wantBool(t, "ValidChannel "+toldChannel(bad, true), impl.ValidChannel(bad), false)
	}
}

func TestPromise4SameChannel(t *testing.T) {
	nothing := num(noNumber)
	cases := []struct {
		what string
		a, b impl.Channel
		want bool
	}{
		{"equal ones", uneven(), uneven(), true},
		{"another chance", halting(), channel(2, 2, 1, 0, 0.5, 0.25), false},
		{"another shape", channel(1, 2, 0.5, 0.5), channel(2, 1, 0.5, 0.5), false},
		{"other Ins", channel(1, 2, 0.5, 0.5), channel(2, 2, 0.5, 0.5), false},
		{"other Outs", channel(1, 1, 0.5, 0.5), channel(1, 2, 0.5, 0.5), false},
		{"more chances", channel(1, 1, 1), channel(1, 1, 1, 0), false},
		{"two zeros", channel(1, 2, 0, 1), channel(1, 2, num(minusZero), 1), false},
		{"negative zeros", channel(1, 2, num(minusZero), 1), channel(1, 2, num(minusZero), 1), true},
		{"not-a-numbers", channel(1, 1, nothing), channel(1, 1, num(0xffc00001)), true},
		{"a not-a-number", channel(1, 1, nothing), channel(1, 1, 1), false},
		{"nil and empty", channel(3, -4), impl.Channel{Ins: 3, Outs: -4, Chances: []float32{}}, true},
		{"zero values", impl.Channel{}, impl.Channel{}, true},
		{"invalid ones", channel(math.MaxInt64, math.MinInt64, 7), channel(math.MaxInt64, math.MinInt64, 7), true},
	}
	for _, c := range cases {
		wantBool(t, "SameChannel: "+c.what, impl.SameChannel(c.a, c.b), c.want)
		wantBool(t, "SameChannel, exchanged: "+c.what, impl.SameChannel(c.b, c.a), c.want)
	}
}

// ofLetters tells what a function makes of a number of letters and a chance.
type ofLetters struct {
	letters int64
	chance  float32
	want    string
}

// wantMade tests a function that makes channels of fewest to most letters.
func wantMade(t *testing.T, what string, made func(int64, float32) (impl.Channel, bool), fewest, most int64, cases []ofLetters) {
	t.Helper()
	for _, c := range cases {
		wantText(t, fmt.Sprint(what, c.letters, c.chance), toldChannel(made(c.letters, c.chance)), c.want)
	}
	for _, chance := range chances(0, num(minusZero), num(least), 0.3, num(0x3f7fffff), 1) {
		for letters := fewest; letters <= most; letters++ {
			c, ok := made(letters, chance)
			wantBool(t, fmt.Sprint(what, letters, chance, " makes a valid one"), ok && impl.ValidChannel(c) && c.Ins == letters, true)
		}
		for _, letters := range []int64{0, -1, fewest - 1, most + 1, math.MaxInt64, math.MinInt64} {
			wantText(t, fmt.Sprint(what, letters, chance), toldChannel(made(letters, chance)), "no")
		}
	}
	for _, chance := range chances(num(0x80000001), num(0x3f800001), -1, 2, num(noNumber), num(plusInf), num(minusInf)) {
		wantText(t, fmt.Sprint(what, fewest, chance), toldChannel(made(fewest, chance)), "no")
		wantText(t, fmt.Sprint(what, most, chance), toldChannel(made(most, chance)), "no")
	}
}

func TestPromise4FlipChannel(t *testing.T) {
	wantMade(t, "FlipChannel ", impl.FlipChannel, 2, 8, []ofLetters{
		{2, 0.25, "2x2:3f400000,3e800000,3e800000,3f400000"},
		{2, 0, "2x2:3f800000,00000000,00000000,3f800000"},
		{2, 1, "2x2:00000000,3f800000,3f800000,00000000"},
		{2, num(minusZero), "2x2:3f800000,80000000,80000000,3f800000"},
		{3, 0.3, "3x3:3f333333,3e19999a,3e19999a,3e19999a,3f333333,3e19999a,3e19999a,3e19999a,3f333333"},
		{8, 0.7, toldChannel(letterwise(num(0x3e99999a), num(0x3dcccccd), num(0x3dcccccd)), true)},
		{8, 1, toldChannel(letterwise(0, num(0x3e124925), num(0x3e124925)), true)},
		{8, 0, toldChannel(letterwise(1, 0, 0), true)},
	})
}

func TestPromise4LoseChannel(t *testing.T) {
	wantMade(t, "LoseChannel ", impl.LoseChannel, 1, 7, []ofLetters{
		{1, 0.25, "1x2:3f400000,3e800000"},
		{1, 0, "1x2:3f800000,00000000"},
		{1, 1, "1x2:00000000,3f800000"},
		{2, 0.3, "2x3:3f333333,00000000,3e99999a,00000000,3f333333,3e99999a"},
		{2, 1, toldChannel(losing(), true)},
		{2, num(minusZero), "2x3:3f800000,00000000,80000000,00000000,3f800000,80000000"},
		{3, 0, "3x4:3f800000,00000000,00000000,00000000,00000000,3f800000,00000000,00000000,00000000,00000000,3f800000,00000000"},
	})
	seven, _ := impl.LoseChannel(7, 0.1)
	for i := range int64(7) {
		want := make([]float32, 8)
		want[i], want[7] = num(0x3f666666), num(0x3dcccccd)
		wantText(t, "LoseChannel 7", hex(seven.Chances[i*8:i*8+8]...), hex(want...))
	}
}

func TestPromise4NextChannel(t *testing.T) {
	wantMade(t, "NextChannel ", impl.NextChannel, 2, 8, []ofLetters{
		{2, 0.25, "2x2:3f400000,3e800000,3e800000,3f400000"},
		{2, 1, "2x2:00000000,3f800000,3f800000,00000000"},
		{2, 0, "2x2:3f800000,00000000,00000000,3f800000"},
		{3, 0.3, "3x3:3f333333,3e99999a,00000000,00000000,3f333333,3e99999a,3e99999a,00000000,3f333333"},
		{3, num(minusZero), "3x3:3f800000,80000000,00000000,00000000,3f800000,80000000,80000000,00000000,3f800000"},
		{8, 0.9, toldChannel(letterwise(num(0x3dccccd0), num(0x3f666666), 0), true)},
		{8, 1, toldChannel(letterwise(0, 1, 0), true)},
	})
}

func TestPromise4ChainChannels(t *testing.T) {
	cases := []struct {
		a, b impl.Channel
		want string
	}{
		{straight(), uneven(), toldChannel(uneven(), true)},
		{quarter(), quarter(), "2x2:3f200000,3ec00000,3ec00000,3f200000"},
		{quarter(), uneven(), "2x3:3e666667,3e666667,3f0ccccc,3ef33334,3e8ccccd,3e800000"},
		{uneven(), merging(), "2x2:3e428f5c,3f4f5c29,3f30a3d8,3e9eb852"},
		{merging(), uneven(), "3x3:3e19999a,3e570a3d,3f23d70a,3eb33334,3e800000,3ecccccd,3f19999a,3e99999a,3dcccccd"},
		{losing(), merging(), "2x2:00000000,3f800000,00000000,3f800000"},
		{fromOne(), toOne(), "1x1:3f800000"},
		{toOne(), fromOne(), toldChannel(channel(4, 4, append(append(four(), four()...), append(four(), four()...)...)...), true)},
		{single(), fromOne(), toldChannel(fromOne(), true)},
		{full(), full(), toldChannel(full(), true)},
		{high(), single(), "1x1:3f8020c4"},
		{single(), low(), "1x1:3f7fbe77"},
		{high(), low(), "1x1:3f7fffee"},
		// The product is farther from 1 than both chances.
		{high(), high(), "no"},
		{low(), low(), "no"},
		{uneven(), uneven(), "no"},
		{quarter(), merging(), "no"},
		{merging(), single(), "no"},
	}
	for _, c := range cases {
		wantText(t, "ChainChannels "+toldChannel(c.a, true)+" and "+toldChannel(c.b, true), toldChannel(impl.ChainChannels(c.a, c.b)), c.want)
	}
	for _, bad := range badChannels() {
		for _, good := range []impl.Channel{single(), straight(), merging(), full()} {
			wantText(t, "ChainChannels, the first one "+toldChannel(bad, true), toldChannel(impl.ChainChannels(bad, good)), "no")
			wantText(t, "ChainChannels, the second one "+toldChannel(bad, true), toldChannel(impl.ChainChannels(good, bad)), "no")
		}
	}
	wantText(t, "ChainChannels of what would be one", toldChannel(impl.ChainChannels(channel(1, 1, 2), channel(1, 1, 0.5))), "no")
}

func TestPromise4SideChannels(t *testing.T) {
	cases := []struct {
		a, b impl.Channel
		want string
	}{
		{single(), uneven(), toldChannel(uneven(), true)},
		{uneven(), single(), toldChannel(uneven(), true)},
		{quarter(), halting(), "4x4:3f400000,00000000,3e800000,00000000,3ec00000,3ec00000,3e000000,3e000000,3e800000,00000000,3f400000,00000000,3e000000,3e000000,3ec00000,3ec00000"},
		{channel(1, 2, 0.25, 0.75), uneven(), "2x6:3ccccccd,3d4ccccd,3e333333,3d99999a,3e19999a,3f066666,3e19999a,3d99999a,3ccccccd,3ee66667,3e666667,3d99999a"},
		{uneven(), channel(1, 2, 0.25, 0.75), "2x6:3ccccccd,3d99999a,3d4ccccd,3e19999a,3e333333,3f066666,3e19999a,3ee66667,3d99999a,3e666667,3ccccccd,3d99999a"},
		{toOne(), channel(2, 8, append(chances(1, 0, 0, 0, 0, 0, 0, 0), repeatedNumbers(0.125, 8)...)...), "8x8:" + fourTimes("3f800000,00000000,00000000,00000000,00000000,00000000,00000000,00000000,"+hex(repeatedNumbers(0.125, 8)...))},
		{single(), full(), toldChannel(full(), true)},
		{high(), single(), "1x1:3f8020c4"},
		{high(), high(), "no"},
		{low(), low(), "no"},
		// Too many letters go in, or come out.
		{toOne(), merging(), "no"},
		{uneven(), uneven(), "no"},
		{channel(1, 3, 0.25, 0.5, 0.25), uneven(), "no"},
		{full(), straight(), "no"},
	}
	for _, c := range cases {
		wantText(t, "SideChannels "+toldChannel(c.a, true)+" and "+toldChannel(c.b, true), toldChannel(impl.SideChannels(c.a, c.b)), c.want)
	}
	for _, bad := range badChannels() {
		wantText(t, "SideChannels, the first one "+toldChannel(bad, true), toldChannel(impl.SideChannels(bad, single())), "no")
		wantText(t, "SideChannels, the second one "+toldChannel(bad, true), toldChannel(impl.SideChannels(single(), bad)), "no")
	}
	wantText(t, "SideChannels of what would be one", toldChannel(impl.SideChannels(channel(1, 1, 2), channel(1, 1, 0.5))), "no")
}

func fourTimes(s string) string { return s + "," + s + "," + s + "," + s }
