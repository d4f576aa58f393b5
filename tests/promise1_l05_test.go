package tests

import (
	"fmt"
	"slices"
	"strings"
	"testing"

	"loop.example/g01364/impl"
)

// textArguments are one of each kind that functions of chapter 5 take.
type textArguments struct {
	c, d                                       impl.Counts
	s                                          impl.States
	text, ofCounts, ofStates, pairs, triples   []int64
	shorter, rules                             []int64
	bits, coded, grown, sent                   []bool
	weights, chances                           []float32
	letters, letter, by, count, sentCount      int64
	power, state, deep, window, times, workers int64
	rate                                       float32
	bit                                        bool
	texts                                      [][]int64
}

// callTexts calls every function of chapter 5, and returns what each one returns.
func callTexts(a textArguments) []string {
	return []string{
		resultText(impl.IsText(a.text, a.letters), impl.ValidCounts(a.c), impl.SameCounts(a.c, a.d), impl.ValidShares(a.s)),
		toldCounts(impl.EvenCounts(a.letters)),
		toldCounts(impl.CountsOf(a.text, a.letters)),
		toldCounts(impl.PutCount(a.c, a.letter, a.by)),
		toldCounts(impl.HalveCounts(a.c)),
		toldBits(impl.RangeBits(a.c, a.ofCounts)),
		toldList(impl.RangeText(a.c, a.coded, a.count)),
		toldBits(impl.GrowingBits(a.letters, a.text)),
		toldList(impl.GrowingText(a.letters, a.grown, a.count)),
		toldNumber(impl.CostOfText(a.c, a.ofCounts)),
		toldList(impl.LongsShared(a.letters, a.texts, a.workers)),
		toldStates(impl.SharesOf(a.c, a.power)),
		toldList(impl.SpreadTable(a.s)),
		toldSent(impl.StateBits(a.s, a.ofStates)),
		toldList(impl.StateText(a.s, a.sent, a.state, a.sentCount)),
		toldNumber(impl.GuessBits(a.bits, a.deep)),
		toldNumber(impl.WeighBits(a.bits, a.deep)),
		toldNumber(impl.MixChance(a.weights, a.chances)),
		toldRow(impl.MixLearn(a.weights, a.chances, a.bit, a.rate)),
		toldList(impl.GrowPairs(a.text, a.letters)),
		toldList(impl.GrownText(a.pairs, a.letters)),
		toldList(impl.SlidePairs(a.text, a.letters, a.window)),
		toldList(impl.SlidText(a.triples, a.letters)),
		toldMerged(impl.MergeText(a.text, a.letters, a.times)),
		toldList(impl.UnmergeText(a.shorter, a.rules, a.letters)),
	}
}

// integerLists, bitLists and numberLists are all slices of the arguments.
func (a *textArguments) integerLists() []*[]int64 {
	all := []*[]int64{&a.c.Counts, &a.d.Counts, &a.s.Shares, &a.text, &a.ofCounts, &a.ofStates, &a.pairs, &a.triples, &a.shorter, &a.rules}
	for i := range a.texts {
		all = append(all, &a.texts[i])
	}
	return all
}

func (a *textArguments) bitLists() []*[]bool {
	return []*[]bool{&a.bits, &a.coded, &a.grown, &a.sent}
}

func (a *textArguments) numberLists() []*[]float32 {
	return []*[]float32{&a.weights, &a.chances}
}

// whole tells all slices of the arguments with their unused capacity.
func (a *textArguments) whole() string {
	var b strings.Builder
	for _, list := range a.integerLists() {
		b.WriteString(resultText((*list)[:cap(*list)]))
	}
	for _, list := range a.bitLists() {
		b.WriteString(resultText((*list)[:cap(*list)]))
	}
	for _, list := range a.numberLists() {
		b.WriteString(resultText((*list)[:cap(*list)]))
	}
	return b.String() + resultText(a.texts[:cap(a.texts)])
}

// strangeText returns a text, or what a strange letter makes of it.
func (d *drawn) strangeText(letters int) []int64 {
	text := d.text(letters, d.below([]int{12, 66}[d.below(2)]))
	return d.spoilt(text)
}

// spoilt seldom puts a strange integer to a list.
func (d *drawn) spoilt(list []int64) []int64 {
	if all := strangeIntegers(); len(list) > 0 && d.below(12) == 0 {
		list[d.below(len(list))] = all[d.below(len(all))]
	}
	return list
}

// shortened returns bits, often without some of them, or with others.
func (d *drawn) shortened(bits []bool) []bool {
	switch d.below(8) {
	case 0:
		return bits[:d.below(len(bits)+1)]
	case 1:
		return bools(d.digits(d.below(1030)))
	}
	return bits
}

// strangeTextsAt picks the i-th of many mixtures of texts, counts, states, bits, pairs and strange values.
func strangeTextsAt(i int) textArguments {
	d := &drawn{uint64(i) + 7000}
	for range 3 {
		d.below(2)
	}
	letters := 2 + d.below(15)
	a := textArguments{
		letters: int64(letters), letter: int64(d.below(17)), by: int64(d.below([]int{30, 16386}[d.below(2)])), count: int64(d.below(66)), power: int64(1 + d.below(8)), deep: int64(d.below(5)), window: int64(1 + d.below(64)), times: int64(d.below(9)), workers: int64(1 + d.below(8)),
		bit: d.below(2) == 0, rate: float32(d.below(100)) / 50, bits: bools(d.repetitive(d.below([]int{60, 1030}[d.below(2)]))), text: d.strangeText(letters),
	}
	a.c = d.counts(2 + d.below(15))
	a.s, _ = impl.SharesOf(a.c, a.power)
	a.c.Counts = d.spoilt(a.c.Counts)
	a.s.Shares = d.spoilt(a.s.Shares)
	a.d = []impl.Counts{a.c, d.counts(letters)}[d.below(2)]
	a.ofCounts, a.ofStates = d.strangeText(len(a.c.Counts)), d.strangeText(max(1, len(a.s.Shares)))
	a.fillFrom(d)
	all := strangeIntegers()
	switch d.below(12) {
	case 0:
		a.letters, a.letter = all[d.below(len(all))], all[d.below(len(all))]
	case 1:
		a.count, a.by, a.deep = all[d.below(len(all))], all[d.below(len(all))], all[d.below(len(all))]
	case 2:
		a.window, a.workers, a.times = all[d.below(len(all))], all[d.below(len(all))], all[d.below(len(all))]
	case 3:
		a.power, a.state, a.s.Power = all[d.below(len(all))], all[d.below(len(all))], all[d.below(len(all))]
	}
	return a
}

// fillFrom makes bits, pairs and so on, most of which lead back to the texts that are there.
func (a *textArguments) fillFrom(d *drawn) {
	coded, _ := impl.RangeBits(a.c, a.ofCounts)
	grown, _ := impl.GrowingBits(a.letters, a.text)
	sent, state, _ := impl.StateBits(a.s, a.ofStates)
	a.coded, a.grown, a.sent, a.state, a.sentCount = d.shortened(coded), d.shortened(grown), d.shortened(sent), state, int64(len(a.ofStates))
	a.pairs, _ = impl.GrowPairs(a.text, a.letters)
	a.triples, _ = impl.SlidePairs(a.text, a.letters, a.window)
	a.shorter, a.rules, _ = impl.MergeText(a.text, a.letters, a.times)
	a.pairs, a.triples, a.shorter, a.rules = d.spoilt(a.pairs), d.spoilt(a.triples), d.spoilt(a.shorter), d.spoilt(a.rules)
	for range d.below(17) {
		a.texts = append(a.texts, d.text(int(a.letters), d.below(65)))
	}
	strange := strangeBits()
	for range d.below(18) {
		weight, chance := float32(d.below(200)-100)/40, float32(1+d.below(99))/100
		if d.below(40) == 0 {
			weight = num(strange[d.below(len(strange))])
		}
		if d.below(40) == 0 {
			chance = num(strange[d.below(len(strange))])
		}
		a.weights, a.chances = append(a.weights, weight), append(a.chances, chance)
	}
	if d.below(10) == 0 {
		a.rate = num(strange[d.below(len(strange))])
	}
}

func TestPromise1TextsReturnAndRepeat(t *testing.T) {
	wantRepeats(t, 2000, func(i int) []string { return callTexts(strangeTextsAt(i)) })
}

func TestPromise1TextsTakeArguments(t *testing.T) {
	wantTaken(t, 2000, func(i int) []string { return callTexts(strangeTextsAt(i)) })
}

func TestPromise1TextsDifferByWorkersInNothing(t *testing.T) {
	for i := range 500 {
		a := strangeTextsAt(i)
		alone := toldList(impl.LongsShared(a.letters, a.texts, 1))
		for workers := int64(2); workers <= 8; workers++ {
			wantText(t, "LongsShared", toldList(impl.LongsShared(a.letters, a.texts, workers)), alone)
		}
	}
}

func TestPromise1TextsStay(t *testing.T) {
	for i := range 1000 {
		a := strangeTextsAt(i)
		for _, list := range a.integerLists() {
			*list = roomy(*list, 1)
		}
		for _, list := range a.bitLists() {
			*list = roomy(*list, true)
		}
		for _, list := range a.numberLists() {
			*list = roomy(*list, 0.5)
		}
		a.texts = roomy(a.texts, integers(0))
		before := a.whole()
		callTexts(a)
		if after := a.whole(); after != before {
			t.Fatalf("arguments %d: were %s, became %s", i, before, after)
		}
	}
}

func TestPromise1TextsNilAndEmpty(t *testing.T) {
	without := textArguments{c: counts(1, 1), s: states(1, 1, 1), letters: 2, power: 1, state: 2, window: 1, workers: 1, texts: [][]int64{nil}}
	with := without
	with.texts = [][]int64{{}}
	for _, list := range with.integerLists() {
		if len(*list) == 0 {
			*list = []int64{}
		}
	}
	for _, list := range with.bitLists() {
		*list = []bool{}
	}
	for _, list := range with.numberLists() {
		*list = []float32{}
	}
	if one, two := callTexts(without), callTexts(with); !slices.Equal(one, two) {
		t.Errorf("nil lists: got %q, empty lists: got %q", one, two)
	}
	one, _ := impl.LongsShared(2, nil, 1)
	two, ok := impl.LongsShared(2, [][]int64{}, 1)
	wantBool(t, "LongsShared of no texts", ok && len(one) == 0 && len(two) == 0, true)
}

// textResults returns all lists of integers, bits and numbers that functions of chapter 5 return of valid arguments.
func textResults(c impl.Counts, s impl.States, text []int64, weights []float32) ([][]int64, [][]bool, []float32) {
	var lists [][]int64
	var bits [][]bool
	keep := func(list []int64, _ bool) { lists = append(lists, list) }
	keepCounts := func(c impl.Counts, _ bool) { keep(c.Counts, true) }
	keepBits := func(list []bool, _ bool) { bits = append(bits, list) }
	keepCounts(impl.EvenCounts(2))
	keepCounts(impl.CountsOf(text, 2))
	keepCounts(impl.PutCount(c, 0, 0))
	keepCounts(impl.PutCount(c, 1, 5))
	keepCounts(impl.HalveCounts(c))
	keepCounts(impl.HalveCounts(counts(1, 1)))
	keepBits(impl.RangeBits(c, text))
	keepBits(impl.GrowingBits(2, text))
	keep(impl.RangeText(c, bits[0], 4))
	keep(impl.GrowingText(2, bits[1], 4))
	keep(impl.LongsShared(2, [][]int64{text, text}, 2))
	shares, _ := impl.SharesOf(c, 4)
	keep(shares.Shares, true)
	keep(impl.SpreadTable(s))
	sent, state, _ := impl.StateBits(s, text)
	keepBits(sent, true)
	keep(impl.StateText(s, sent, state, int64(len(text))))
	keep(impl.GrowPairs(text, 2))
	keep(impl.GrownText(lists[len(lists)-1], 2))
	keep(impl.SlidePairs(text, 2, 3))
	keep(impl.SlidText(lists[len(lists)-1], 2))
	// Without merges, the text is not the argument either.
	for times := range int64(3) {
		merged, rules, _ := impl.MergeText(text, 2, times)
		keep(merged, true)
		if times > 0 {
			keep(rules, true)
		}
		keep(impl.UnmergeText(merged, rules, 2))
	}
	learned, _ := impl.MixLearn(weights, halves(), true, 0)
	return lists, bits, learned
}

func TestPromise1TextsAreNew(t *testing.T) {
	c, s, text, weights := counts(3, 1), states(3, 5, 3), integers(0, 1, 0, 0, 1, 0, 1, 1), chances(1, 2)
	before := fmt.Sprint(c, s, text, weights)
	lists, bits, learned := textResults(c, s, text, weights)
	told := fmt.Sprint(lists, bits, learned)
	for i, list := range lists {
		if len(list) == 0 {
			t.Errorf("result %d is empty", i)
		}
		spoil(list, int64(i)+100)
	}
	for i, list := range lists {
		if slices.Min(list) != int64(i)+100 || slices.Max(list) != int64(i)+100 {
			t.Errorf("result %d shares memory with another one", i)
		}
	}
	for _, list := range bits {
		wantBool(t, "bits are there", len(list) > 0, true)
		spoil(list, true)
	}
	spoil(learned, -1)
	wantText(t, "arguments after results are written over", fmt.Sprint(c, s, text, weights), before)
	lists, bits, learned = textResults(c, s, text, weights)
	wantText(t, "results after others are written over", fmt.Sprint(lists, bits, learned), told)
}
