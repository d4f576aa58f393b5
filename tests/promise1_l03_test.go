package tests

import (
	"fmt"
	"slices"
	"strings"
	"testing"

	"loop.example/g01364/impl"
)

// channelArguments are one of each kind that functions of chapter 3 take.
type channelArguments struct {
	c, d              impl.Channel
	a, b, costs, outs []float32
	x                 float32
	n, most, workers  int64
	word              []int64
	list              []impl.Channel
}

// callChannels calls every function of chapter 3, and returns what each one returns.
func callChannels(a channelArguments) []string {
	return []string{
		resultText(impl.ValidChannel(a.c), impl.SameChannel(a.c, a.d)),
		toldChannel(impl.FlipChannel(a.n, a.x)),
		toldChannel(impl.LoseChannel(a.n, a.x)),
		toldChannel(impl.NextChannel(a.n, a.x)),
		toldRow(impl.ThroughOf(a.c, a.a)),
		toldTable(impl.JointOf(a.c, a.a)),
		toldNumber(impl.ToldBits(a.c, a.a)),
		toldChannel(impl.ChainChannels(a.c, a.d)),
		toldChannel(impl.SideChannels(a.c, a.d)),
		toldRow(impl.BackOf(a.c, a.a, a.n)),
		toldGuesses(impl.BestGuesses(a.c, a.a)),
		toldNumber(impl.MissBound(a.c, a.a)),
		toldTurn(impl.TurnOnce(a.c, a.a)),
		toldCapacity(impl.CapacityOf(a.c, a.x, a.most)),
		toldRow(impl.CapacitiesShared(a.list, a.x, a.most, a.workers)),
		toldBool(impl.IsFair(a.c)),
		toldRow(impl.RateOnce(a.a, a.costs, a.outs, a.x)),
		toldRate(impl.RateOf(a.a, a.costs, a.x, a.most)),
		toldRest(impl.RestRow(a.c, a.x, a.most)),
		toldNumber(impl.SourceBits(a.c, a.x, a.most)),
		toldNumber(impl.WordChance(a.c, a.a, a.word)),
		toldErrors(impl.TestErrors(a.a, a.b, a.n, a.x)),
		toldNumber(impl.FarBits(a.a, a.b, a.x)),
		toldFarthest(impl.FarthestBits(a.a, a.b)),
	}
}

// slices are all slices of numbers among the arguments.
func (a *channelArguments) slices() []*[]float32 {
	all := []*[]float32{&a.c.Chances, &a.d.Chances, &a.a, &a.b, &a.costs, &a.outs}
	for i := range a.list {
		all = append(all, &a.list[i].Chances)
	}
	return all
}

// lists tells all slices of the arguments with their unused capacity.
func (a *channelArguments) lists() string {
	var b strings.Builder
	for _, list := range a.slices() {
		b.WriteString(hex((*list)[:cap(*list)]...) + ";")
	}
	return b.String() + resultText(a.word[:cap(a.word)], a.list[:cap(a.list)])
}

// strangeChannel returns a channel, or what strange values make of it.
func (d *drawn) strangeChannel(ins, outs int) impl.Channel {
	c := d.channel(ins, outs)
	integers := strangeIntegers()
	switch d.below(12) {
	case 0:
		c.Ins = integers[d.below(len(integers))]
	case 1:
		c.Outs = integers[d.below(len(integers))]
	case 2:
		c.Chances = d.strangeRow(ins * outs)
	case 3:
		c.Chances = c.Chances[1:]
	}
	return c
}

// strangeChannels picks the i-th of many mixtures of channels, rows and strange values.
func strangeChannels(i int) channelArguments {
	d := &drawn{uint64(i)}
	for range 3 {
		d.below(2)
	}
	bits, integers := strangeBits(), strangeIntegers()
	sizes := []int{1, 2, 2, 3, 3, 4, 8, 9}
	ins, outs := sizes[d.below(8)], sizes[d.below(8)]
	if d.below(2) == 0 {
		outs = ins
	}
	a := channelArguments{
		c: d.strangeChannel(ins, outs), d: d.strangeChannel(outs, sizes[d.below(8)]), a: d.strangeRow(ins), b: d.strangeRow(ins), outs: d.strangeRow(outs),
		x: float32(d.below(1000)) / 999, n: int64(d.below(14)), most: int64(d.below(202)), workers: int64(1 + d.below(9)),
	}
	if d.below(2) == 0 {
		a.a, a.b = d.fullRow(ins), d.fullRow(ins)
	}
	switch d.below(8) {
	case 0:
		a.x = num(bits[d.below(len(bits))])
	case 1:
		a.n = integers[d.below(len(integers))]
	case 2:
		a.most = integers[d.below(len(integers))]
	case 3:
		a.workers = integers[d.below(len(integers))]
	}
	for range ins * outs {
		a.costs = append(a.costs, float32(d.below(50))/10)
	}
	if d.below(6) == 0 {
		a.costs[d.below(len(a.costs))] = num(bits[d.below(len(bits))])
	}
	for range d.below(66) {
		a.word = append(a.word, int64(d.below(ins)))
	}
	for range d.below(4) {
		a.list = append(a.list, d.strangeChannel(1+d.below(4), 1+d.below(4)))
	}
	return a
}

func TestPromise1ChannelsReturnAndRepeat(t *testing.T) {
	wantRepeats(t, 2500, func(i int) []string { return callChannels(strangeChannels(i)) })
}

// Without arguments that each function can take, the other tests of promise 1 would tell little.
func TestPromise1ChannelsTakeArguments(t *testing.T) {
	successes := make([]int, len(callChannels(channelArguments{})))
	for i := range 2500 {
		for k, text := range callChannels(strangeChannels(i)) {
			if text != "no" {
				successes[k]++
			}
		}
	}
	for k, count := range successes {
		if count < 50 {
			t.Errorf("function %d succeeds only %d times", k, count)
		}
	}
}

func TestPromise1ChannelsDifferByWorkersInNothing(t *testing.T) {
	for i := range 300 {
		a := strangeChannels(i)
		alone := toldRow(impl.CapacitiesShared(a.list, a.x, a.most, 1))
		for workers := int64(2); workers <= 8; workers++ {
			wantText(t, "CapacitiesShared", toldRow(impl.CapacitiesShared(a.list, a.x, a.most, workers)), alone)
		}
	}
}

func TestPromise1ChannelsStay(t *testing.T) {
	for i := range 1500 {
		a := strangeChannels(i)
		for _, list := range a.slices() {
			*list = roomy(*list, 77)
		}
		a.word, a.list = roomy(a.word, 77), roomy(a.list, high())
		before := a.lists()
		callChannels(a)
		if after := a.lists(); after != before {
			t.Fatalf("arguments %d: were %s, became %s", i, before, after)
		}
	}
}

func TestPromise1ChannelsNilAndEmpty(t *testing.T) {
	for _, c := range []impl.Channel{{}, {Ins: 1, Outs: 1}, {Ins: 0, Outs: 1}} {
		without := channelArguments{c: c, d: c, most: 1, workers: 1}
		with := channelArguments{most: 1, workers: 1, word: []int64{}, list: []impl.Channel{}}
		for _, list := range with.slices() {
			*list = []float32{}
		}
		with.c.Ins, with.c.Outs, with.d.Ins, with.d.Outs = c.Ins, c.Outs, c.Ins, c.Outs
		if one, two := callChannels(without), callChannels(with); !slices.Equal(one, two) {
			t.Errorf("nil lists: got %q, empty lists: got %q", one, two)
		}
	}
}

// channelResults returns all lists that functions of chapter 3 return of valid arguments.
func channelResults(c impl.Channel, row []float32) [][]float32 {
	var lists [][]float32
	keep := func(list []float32, _ bool) { lists = append(lists, list) }
	keepChannel := func(c impl.Channel, _ bool) { keep(c.Chances, true) }
	keepTable := func(t impl.Table, _ bool) { keep(t.Chances, true) }
	keepChannel(impl.FlipChannel(2, 0))
	keepChannel(impl.LoseChannel(2, 0))
	keepChannel(impl.NextChannel(2, 0))
	keep(impl.ThroughOf(straight(), row))
	keep(impl.ThroughOf(c, chances(1, 0)))
	keepTable(impl.JointOf(single(), chances(1)))
	keepTable(impl.JointOf(c, row))
	keepChannel(impl.ChainChannels(c, straight()))
	keepChannel(impl.ChainChannels(straight(), c))
	keepChannel(impl.SideChannels(c, single()))
	keepChannel(impl.SideChannels(single(), c))
	keep(impl.BackOf(c, row, 0))
	better, _, _, _ := impl.TurnOnce(c, row)
	best, _, _, _ := impl.CapacityOf(c, 0.1, 200)
	_, _, outs, _ := impl.RateOf(row, wrongs(), 0, 0)
	later, _, turned, _ := impl.RateOf(row, wrongs(), 0, 3)
	rest, _, _ := impl.RestRow(c, 1, 1)
	stays, _, _ := impl.RestRow(straight(), 0, 9)
	lists = append(lists, better, best, outs, turned, rest, stays, chances(later))
	keep(impl.RateOnce(row, wrongs(), row, 0))
	keep(impl.CapacitiesShared([]impl.Channel{c, c}, 0.1, 200, 2))
	return lists
}

func TestPromise1ChannelsAreNew(t *testing.T) {
	c, row := quarter(), chances(0.3, 0.7)
	want := resultText(c.Chances, row)
	first, text := channelResults(c, row), ""
	for i, list := range first {
		if len(list) == 0 {
			t.Errorf("result %d is empty", i)
		}
		text += hex(list...) + ";"
		spoil(list, float32(i))
	}
	for i, list := range first {
		if list[0] != float32(i) {
			t.Errorf("result %d shares memory with another one", i)
		}
	}
	wantText(t, "arguments after results are written over", resultText(c.Chances, row), want)
	again := ""
	for _, list := range channelResults(c, row) {
		again += hex(list...) + ";"
	}
	wantText(t, "results after others are written over", again, text)
	guesses, _, _ := impl.BestGuesses(c, row)
	before := fmt.Sprint(guesses)
	spoil(guesses, -1)
	guesses, _, _ = impl.BestGuesses(c, row)
	wantText(t, "guesses that are made again", fmt.Sprint(guesses), before)
}
