package tests

import (
	"fmt"
	"slices"
	"strings"
	"testing"

	"loop.example/g01364/impl"
)

// codeArguments are one of each kind that functions of chapter 4 take.
type codeArguments struct {
	c, d                           impl.Code
	weights, letters, places, runs []int64
	row                            []float32
	words                          []string
	bits, coded, text, last        string
	n, k, kind, most, at, workers  int64
	first                          bool
	lists                          [][]int64
}

// callCodes calls every function of chapter 4, and returns what each one returns.
func callCodes(a codeArguments) []string {
	return []string{
		resultText(impl.ValidCode(a.c), impl.SameCode(a.c, a.d)),
		toldCode(impl.MergedCode(a.weights)),
		toldCode(impl.BoundedCode(a.weights, a.most)),
		toldCode(impl.OrderedCode(a.weights)),
		toldCode(impl.SurpriseCode(a.row)),
		toldTexts(impl.WordsOf(a.c)),
		toldNumber(impl.MeanLong(a.c, a.row)),
		toldInt(impl.TotalLong(a.c, a.weights)),
		toldInt(impl.KraftOf(a.c)),
		toldText(impl.EncodeLetters(a.c, a.letters)),
		toldList(impl.DecodeLetters(a.c, a.bits)),
		toldBool(impl.IsPrefixFree(a.words)),
		toldBool(impl.IsUnique(a.words)),
		toldText(impl.TwoReadings(a.words)),
		toldText(impl.UnaryOf(a.n)),
		toldText(impl.GammaOf(a.n)),
		toldText(impl.DeltaOf(a.n)),
		toldText(impl.FibonacciOf(a.n)),
		toldText(impl.RiceOf(a.n, a.k)),
		toldList(impl.NumbersOfBits(a.kind, a.k, a.coded)),
		toldList(impl.RunsOf(a.bits)),
		toldText(impl.BitsOfRuns(a.first, a.runs)),
		toldList(impl.FrontOf(a.places, a.most)),
		toldList(impl.BackOfFront(a.places, a.most)),
		toldTurns(impl.TurnsOf(a.text)),
		toldText(impl.BackOfTurns(a.last, a.at)),
		toldTexts(impl.CodesShared(a.c, a.lists, a.workers)),
	}
}

// integerLists are all slices of integers among the arguments.
func (a *codeArguments) integerLists() []*[]int64 {
	all := []*[]int64{&a.c.Longs, &a.d.Longs, &a.weights, &a.letters, &a.places, &a.runs}
	for i := range a.lists {
		all = append(all, &a.lists[i])
	}
	return all
}

// whole tells all slices of the arguments with their unused capacity.
func (a *codeArguments) whole() string {
	var b strings.Builder
	for _, list := range a.integerLists() {
		b.WriteString(resultText((*list)[:cap(*list)]))
	}
	return b.String() + resultText(a.row[:cap(a.row)], a.words[:cap(a.words)], a.lists[:cap(a.lists)])
}

// digits returns a text of count binary digits.
func (d *drawn) digits(count int) string {
	var text strings.Builder
	for range count {
		text.WriteByte("01"[d.below(2)])
	}
	return text.String()
}

// strangeCode returns a code, or what strange values make of it.
func (d *drawn) strangeCode() impl.Code {
	codes := append(goodCodes(), badCodes()...)
	if d.below(3) > 0 {
		codes = goodCodes()
	}
	return codes[d.below(len(codes))]
}

// strangeList returns count integers below a limit, or what a strange one makes of them.
func (d *drawn) strangeList(count, limit int) []int64 {
	var list []int64
	for range count {
		list = append(list, int64(d.below(limit)))
	}
	if all := strangeIntegers(); count > 0 && d.below(8) == 0 {
		list[d.below(count)] = all[d.below(len(all))]
	}
	return list
}

// strangeBitsOf returns texts of words, one behind the other, or what strange signs make of them.
func (d *drawn) strangeBitsOf(words []string, count int) string {
	var text strings.Builder
	for range count {
		text.WriteString(words[d.below(len(words))])
	}
	bits := text.String()
	switch d.below(10) {
	case 0:
		return bits + "2"
	case 1:
		return bits[:len(bits)/2]
	case 2:
		return strangeTexts()[d.below(len(strangeTexts()))]
	}
	return bits
}

// strangeCodes picks the i-th of many mixtures of codes, words, bits and strange values.
func strangeCodes(i int) codeArguments {
	d := &drawn{uint64(i)}
	for range 3 {
		d.below(2)
	}
	all := strangeIntegers()
	a := codeArguments{
		c: d.strangeCode(), d: d.strangeCode(), kind: int64(d.below(6)), k: int64(d.below(22)), n: int64(1 + d.below([]int{20, 600, 1000001}[d.below(3)])),
		most: int64(1 + d.below(17)), workers: int64(1 + d.below(9)), first: d.below(2) == 0, runs: d.strangeList(d.below(60), 12),
	}
	letters := max(1, len(a.c.Longs))
	a.weights, a.letters, a.places = d.strangeList(letters, 50), d.strangeList(d.below(100), letters), d.strangeList(d.below(514), max(1, int(a.most)))
	for range d.below(18) {
		a.lists = append(a.lists, d.strangeList(d.below(12), letters))
	}
	a.row = d.row(letters)
	if d.below(2) == 0 {
		a.row = quotients(1+d.below(15), letters)
	}
	for range 1 + d.below(7) {
		a.words = append(a.words, d.strangeBitsOf([]string{"0", "1", "01", "100"}, 1+d.below(8)))
	}
	words, ok := impl.WordsOf(a.c)
	if !ok {
		words = []string{"0", "1"}
	}
	a.bits = d.strangeBitsOf(words, d.below(60))
	text, _ := textOfKind(a.kind, a.k, a.n)
	a.coded = d.strangeBitsOf([]string{text}, d.below(4))
	a.text = d.strangeBitsOf([]string{"a", "ab", "\xff", "b"}, 1+d.below(36))
	a.last, a.at, _ = impl.TurnsOf(a.text)
	switch d.below(12) {
	case 0:
		a.n, a.most = all[d.below(len(all))], all[d.below(len(all))]
	case 1:
		a.k, a.kind = all[d.below(len(all))], all[d.below(len(all))]
	case 2:
		a.at, a.workers = all[d.below(len(all))], all[d.below(len(all))]
	case 3:
		a.last = a.text
	}
	return a
}

// quotients returns a row whose first chance has some of all parts, and whose others share the rest.
func quotients(some, n int) []float32 {
	row := repeatedNumbers(1, n)
	row[0] = float32(some)
	for i := range row {
		row[i] /= float32(some + n - 1)
	}
	return row
}

func TestPromise1CodesReturnAndRepeat(t *testing.T) {
	wantRepeats(t, 3000, func(i int) []string { return callCodes(strangeCodes(i)) })
}

// Without arguments that each function can take, the other tests of promise 1 would tell little.
func TestPromise1CodesTakeArguments(t *testing.T) {
	successes := make([]int, len(callCodes(codeArguments{})))
	for i := range 3000 {
		for k, text := range callCodes(strangeCodes(i)) {
			if text != "no" {
				successes[k]++
			}
			if strings.HasPrefix(text, "no, but") {
				t.Errorf("function %d fails, but returns %s", k, text)
			}
		}
	}
	for k, count := range successes {
		if count < 100 {
			t.Errorf("function %d succeeds only %d times", k, count)
		}
	}
}

func TestPromise1CodesDifferByWorkersInNothing(t *testing.T) {
	for i := range 500 {
		a := strangeCodes(i)
		alone := toldTexts(impl.CodesShared(a.c, a.lists, 1))
		for workers := int64(2); workers <= 8; workers++ {
			wantText(t, "CodesShared", toldTexts(impl.CodesShared(a.c, a.lists, workers)), alone)
		}
	}
}

func TestPromise1CodesStay(t *testing.T) {
	for i := range 2000 {
		a := strangeCodes(i)
		for _, list := range a.integerLists() {
			*list = roomy(*list, 1)
		}
		a.row, a.words, a.lists = roomy(a.row, 0.5), roomy(a.words, "0"), roomy(a.lists, integers(0))
		before := a.whole()
		callCodes(a)
		if after := a.whole(); after != before {
			t.Fatalf("arguments %d: were %s, became %s", i, before, after)
		}
	}
}

func TestPromise1CodesNilAndEmpty(t *testing.T) {
	for _, c := range []impl.Code{{}, code(1)} {
		without := codeArguments{c: c, n: 1, most: 1, workers: 1, lists: [][]int64{nil}}
		with := codeArguments{c: c, row: []float32{}, words: []string{}, n: 1, most: 1, workers: 1, lists: [][]int64{nil}}
		for _, list := range with.integerLists() {
			if *list == nil {
				*list = []int64{}
			}
		}
		if one, two := callCodes(without), callCodes(with); !slices.Equal(one, two) {
			t.Errorf("nil lists: got %q, empty lists: got %q", one, two)
		}
	}
	one, _ := impl.CodesShared(code(1), nil, 1)
	two, ok := impl.CodesShared(code(1), [][]int64{}, 1)
	wantBool(t, "CodesShared of no words", ok && len(one) == 0 && len(two) == 0, true)
}

// codeResults returns all lists that functions of chapter 4 return of valid arguments.
func codeResults(weights, letters []int64, row []float32) ([][]int64, [][]string) {
	var lists [][]int64
	keep := func(list []int64, _ bool) { lists = append(lists, list) }
	keepCode := func(c impl.Code, _ bool) { keep(c.Longs, true) }
	keepCode(impl.MergedCode(weights))
	keepCode(impl.MergedCode(weights[:1]))
	keepCode(impl.BoundedCode(weights, 5))
	keepCode(impl.BoundedCode(weights[:1], 1))
	keepCode(impl.OrderedCode(weights))
	keepCode(impl.OrderedCode(weights[:1]))
	keepCode(impl.SurpriseCode(row))
	keep(impl.DecodeLetters(code(2, 2, 1), "10011"))
	keep(impl.NumbersOfBits(1, 0, "1010011"))
	keep(impl.NumbersOfBits(4, 2, "1001000"))
	keep(impl.RunsOf("0011101"))
	keep(impl.FrontOf(letters, 3))
	keep(impl.BackOfFront(letters, 3))
	keep(impl.FrontOf(letters[:1], 16))
	keep(impl.BackOfFront(letters[:1], 16))
	words, _ := impl.WordsOf(code(2, 2, 1))
	shared, _ := impl.CodesShared(code(2, 2, 1), [][]int64{letters, letters}, 2)
	return lists, [][]string{words, shared}
}

func TestPromise1CodesAreNew(t *testing.T) {
	weights, letters, row := integers(1, 1, 2, 5), integers(2, 2, 0), halves()
	before := fmt.Sprint(weights, letters, row)
	first, texts := codeResults(weights, letters, row)
	told := fmt.Sprint(first, texts)
	for i, list := range first {
		if len(list) == 0 {
			t.Errorf("result %d is empty", i)
		}
		spoil(list, int64(i))
	}
	for i, list := range first {
		if list[0] != int64(i) {
			t.Errorf("result %d shares memory with another one", i)
		}
	}
	for _, list := range texts {
		spoil(list, "spoilt")
	}
	wantText(t, "arguments after results are written over", fmt.Sprint(weights, letters, row), before)
	again, textsAgain := codeResults(weights, letters, row)
	wantText(t, "results after others are written over", fmt.Sprint(again, textsAgain), told)
}
