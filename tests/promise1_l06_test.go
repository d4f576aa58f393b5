package tests

import (
	"fmt"
	"slices"
	"strings"
	"testing"

	"loop.example/g01364/impl"
)

// parityArguments are one of each kind that functions of chapter 6 take.
type parityArguments struct {
	p, q                                      impl.Parity
	r, n, poly, message, word, sent, far      int64
	a, b, workers                             int64
	words, more, places, shares, terms, wrong []int64
	prime, secret, count, need, k             int64
	bits, long, seed                          int64
}

// callParities calls every function of chapter 6, and returns what each one returns.
func callParities(a parityArguments) []string {
	return []string{
		resultText(impl.ValidParity(a.p), impl.SameParity(a.p, a.q)),
		toldParity(impl.HammingOf(a.r)),
		toldParity(impl.RepeatParity(a.n)),
		toldParity(impl.CyclicOf(a.n, a.poly)),
		toldParity(impl.EchelonOf(a.p)),
		toldParity(impl.DualOf(a.p)),
		toldInt(impl.EncodeBits(a.p, a.message)),
		toldBool(impl.InCode(a.p, a.word)),
		toldInt(impl.DecodeBits(a.p, a.sent)),
		toldInt(impl.SyndromeOf(a.p, a.word)),
		toldList(impl.LeadersOf(a.p)),
		toldMended(impl.MendWord(a.p, a.word)),
		toldList(impl.ListWords(a.p, a.word, a.far)),
		toldList(impl.WeightsOf(a.p)),
		toldInt(impl.DistanceOf(a.p)),
		toldBool(impl.IsPerfect(a.p)),
		toldInt(impl.FarOfBits(a.a, a.b)),
		toldParity(impl.ExtendParity(a.p)),
		toldParity(impl.ShortenParity(a.p)),
		toldList(impl.MendsShared(a.p, a.words, a.workers)),
		toldList(impl.ShareSecret(a.prime, a.secret, a.more, a.count)),
		toldInt(impl.JoinShares(a.prime, a.places, a.shares)),
		toldBool(impl.FitsShares(a.prime, a.need, a.places, a.shares)),
		toldList(impl.ValuesOver(a.prime, a.terms, a.count)),
		toldMendedValues(impl.MendValues(a.prime, a.k, a.wrong)),
		toldInt(impl.KeyOfBits(a.bits, a.long, a.seed)),
	}
}

// lists are all slices of the arguments.
func (a *parityArguments) lists() []*[]int64 {
	return []*[]int64{&a.p.Rows, &a.q.Rows, &a.words, &a.more, &a.places, &a.shares, &a.terms, &a.wrong}
}

// whole tells all slices of the arguments with their unused capacity.
func (a *parityArguments) whole() string {
	var b strings.Builder
	for _, list := range a.lists() {
		b.WriteString(resultText((*list)[:cap(*list)]))
	}
	return b.String()
}

// strangeParity returns a parity, or what a strange integer or another Row makes of it.
func (d *drawn) strangeParity() impl.Parity {
	p := d.parity(1 + d.below(16))
	p.Rows = d.spoilt(p.Rows)
	switch d.below(20) {
	case 0:
		p.Wide = strangeIntegers()[d.below(len(strangeIntegers()))]
	case 1:
		p.Rows = append(p.Rows, int64(d.below(8)))
	}
	return p
}

// wordsOf returns words of some bits, some of which belong to the code.
func (d *drawn) wordsOf(p impl.Parity, count int) []int64 {
	var words []int64
	for range count {
		word := int64(d.below(1 << min(16, max(0, p.Wide))))
		if encoded, ok := impl.EncodeBits(p, int64(d.below(2))); ok && d.below(2) == 0 {
			word = encoded
		}
		words = append(words, word)
	}
	return words
}

// strangeParitiesAt picks the i-th of many mixtures of parities, words, shares, values and strange integers.
func strangeParitiesAt(i int) parityArguments {
	d := &drawn{uint64(i) + 8000}
	for range 3 {
		d.below(2)
	}
	p := d.strangeParity()
	a := parityArguments{
		p: p, q: []impl.Parity{p, d.strangeParity()}[d.below(2)], r: int64(1 + d.below(4)), n: int64(1 + d.below(16)), message: int64(d.below(1 << min(8, len(p.Rows)))), far: int64(d.below(17)), workers: int64(1 + d.below(8)),
		a: int64(d.below(65536)), b: int64(d.below(65536)), count: int64(1 + d.below(6)), need: int64(1 + d.below(8)), k: int64(1 + d.below(3)), bits: int64(d.below(65536)), long: int64(1 + d.below(16)), seed: int64(d.below(1 << 31)),
	}
	a.poly = 2*int64(d.below(1<<(a.n-1))) + int64(1-d.below(20)/19)
	if d.below(2) == 0 {
		a.n = min(16, 2*a.n)
	}
	a.word, a.sent = d.wordsOf(p, 1)[0], d.wordsOf(p, 1)[0]
	a.words = d.spoilt(d.wordsOf(p, d.below([]int{5, 66}[d.below(2)])))
	a.fillOver(d)
	all := strangeIntegers()
	strange := func() int64 { return all[d.below(len(all))] }
	switch d.below(16) {
	case 0:
		a.r, a.n, a.poly, a.message = strange(), strange(), strange(), strange()
	case 1:
		a.word, a.sent, a.far, a.workers = strange(), strange(), strange(), strange()
	case 2:
		a.prime, a.secret, a.count, a.need, a.k = strange(), strange(), strange(), strange(), strange()
	case 3:
		a.a, a.b, a.bits, a.long, a.seed = strange(), strange(), strange(), strange(), strange()
	}
	return a
}

// fillOver makes numbers over a prime, most of which lead back to others.
func (a *parityArguments) fillOver(d *drawn) {
	a.prime = allPrimes()[d.below(7)]
	a.secret, a.more, a.terms = int64(d.below(int(a.prime))), d.over(a.prime, d.below(8)), d.over(a.prime, 1+d.below(8))
	a.places = d.places(a.prime, 1+d.below(int(min(8, a.prime-1))))
	for _, place := range a.places {
		a.shares = append(a.shares, valueAt(a.prime, a.terms[:min(3, len(a.terms))], place))
	}
	for place := range 1 + d.below(int(min(8, a.prime-1))) {
		a.wrong = append(a.wrong, (int64(place)*int64(d.below(2))+a.secret)%a.prime)
	}
	for _, list := range []*[]int64{&a.more, &a.terms, &a.places, &a.shares, &a.wrong} {
		*list = d.spoilt(*list)
	}
}

func TestPromise1ParitiesReturnAndRepeat(t *testing.T) {
	wantRepeats(t, 2000, func(i int) []string { return callParities(strangeParitiesAt(i)) })
}

func TestPromise1ParitiesTakeArguments(t *testing.T) {
	wantTaken(t, 2000, func(i int) []string { return callParities(strangeParitiesAt(i)) })
}

func TestPromise1ParitiesDifferByWorkersInNothing(t *testing.T) {
	for i := range 300 {
		a := strangeParitiesAt(i)
		alone := toldList(impl.MendsShared(a.p, a.words, 1))
		for workers := int64(2); workers <= 8; workers++ {
			wantText(t, "MendsShared", toldList(impl.MendsShared(a.p, a.words, workers)), alone)
		}
	}
}

func TestPromise1ParitiesStay(t *testing.T) {
	for i := range 1000 {
		a := strangeParitiesAt(i)
		for _, list := range a.lists() {
			*list = roomy(*list, 1)
		}
		before := a.whole()
		callParities(a)
		if after := a.whole(); after != before {
			t.Fatalf("arguments %d: were %s, became %s", i, before, after)
		}
	}
}

func TestPromise1ParitiesNilAndEmpty(t *testing.T) {
	for _, p := range []impl.Parity{{}, parity(3), hamming()} {
		without := parityArguments{p: p, q: p, workers: 1, prime: 7, secret: 3, count: 2, need: 1, k: 1}
		with := without
		for _, list := range with.lists() {
			if len(*list) == 0 {
				*list = []int64{}
			}
		}
		if one, two := callParities(without), callParities(with); !slices.Equal(one, two) {
			t.Errorf("nil lists: got %q, empty lists: got %q", one, two)
		}
	}
}

// parityResults returns all lists that functions of chapter 6 return of valid arguments.
func parityResults(p impl.Parity, words, more, places, shares []int64) [][]int64 {
	var lists [][]int64
	keep := func(list []int64, _ bool) { lists = append(lists, list) }
	keepParity := func(p impl.Parity, _ bool) { keep(p.Rows, true) }
	keepParity(impl.HammingOf(2))
	keepParity(impl.HammingOf(3))
	keepParity(impl.RepeatParity(5))
	keepParity(impl.CyclicOf(7, 11))
	// The Rows are those of the arguments, but they are others all the same.
	keepParity(impl.EchelonOf(p))
	keepParity(impl.EchelonOf(p))
	keepParity(impl.DualOf(p))
	keepParity(impl.ExtendParity(p))
	keepParity(impl.ShortenParity(p))
	keep(impl.LeadersOf(p))
	keep(impl.ListWords(p, 1, 16))
	keep(impl.WeightsOf(p))
	keep(impl.MendsShared(p, words, 2))
	keep(impl.ShareSecret(7, 2, more, 3))
	keep(impl.ValuesOver(7, shares, 4))
	keep(impl.ValuesOver(7, places, 6))
	mended, _, ok := impl.MendValues(7, 1, shares)
	keep(mended, ok)
	mended, _, ok = impl.MendValues(7, 3, shares)
	keep(mended, ok)
	return lists
}

func TestPromise1ParitiesAreNew(t *testing.T) {
	p, words, more, places, shares := parity(5, 0b10110, 0b01011), integers(0, 22, 11), integers(1, 2, 3), integers(1, 2, 4), integers(3, 3, 3)
	before := fmt.Sprint(p, words, more, places, shares)
	lists := parityResults(p, words, more, places, shares)
	told := fmt.Sprint(lists)
	for i, list := range lists {
		if len(list) == 0 {
			t.Errorf("result %d is empty", i)
		}
		spoil(list, int64(i)+100)
	}
	for i, list := range lists {
		if len(list) > 0 && (slices.Min(list) != int64(i)+100 || slices.Max(list) != int64(i)+100) {
			t.Errorf("result %d shares memory with another one", i)
		}
	}
	wantText(t, "arguments after results are written over", fmt.Sprint(p, words, more, places, shares), before)
	wantText(t, "results after others are written over", fmt.Sprint(parityResults(p, words, more, places, shares)), told)
}
