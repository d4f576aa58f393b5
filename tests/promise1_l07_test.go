package tests

import (
	"fmt"
	"slices"
	"strings"
	"testing"

	"loop.example/g01364/impl"
)

// softArguments are one of each kind that functions of chapter 7 take.
type softArguments struct {
	c, d                                 impl.Coder
	g, h                                 impl.Graph
	bits, pairs, near, turned, sent      []bool
	soft, told, hard, read               []float32
	strong, noise, lost                  float32
	points                               []complex64
	many                                 [][]float32
	workers, most, power, count, n, seed int64
	places, blocks, seeds, drops         []int64
	s                                    impl.Saved
	list                                 []impl.Saved
	one, all                             string
}

// callSoft calls every function of chapter 7, and returns what each one returns.
func callSoft(a softArguments) []string {
	recovered := toldRecovered(impl.RecoverAll(a.all))
	return []string{
		resultText(impl.IsSoft(a.soft), impl.ValidCoder(a.c), impl.SameCoder(a.c, a.d), impl.ValidGraph(a.g), impl.SameGraph(a.g, a.h), impl.ValidSaved(a.s), impl.SameSaved(a.list, []impl.Saved{a.s}), recovered),
		toldDigits(impl.SendBits(a.c, a.bits)),
		toldRow(impl.SoftOf(a.pairs, a.strong)),
		toldDigits(impl.HardOf(a.hard)),
		toldPoints(impl.PointsOf(a.pairs)),
		toldRow(impl.SoftPoints(a.points, a.noise)),
		toldWay(impl.BestWay(a.c, a.soft)),
		toldRow(impl.AllWays(a.c, a.soft)),
		toldMany(impl.WaysShared(a.c, a.many, a.workers)),
		toldBool(impl.IsMember(a.g, a.near)),
		toldRounds(impl.FlipRounds(a.g, a.near, a.most)),
		toldRounds(impl.LeastRounds(a.g, a.told, a.most)),
		toldDigits(impl.PolarTurn(a.turned)),
		toldRow(impl.PolarLosses(a.power, a.lost)),
		toldList(impl.PolarBest(a.power, a.lost, a.count)),
		toldDigits(impl.PolarSend(a.power, a.places, a.sent)),
		toldDigits(impl.PolarRead(a.power, a.places, a.read)),
		toldList(impl.DropPlaces(a.n, a.seed)),
		toldInt(impl.DropOf(a.blocks, a.seed)),
		toldList(impl.PeelDrops(a.n, a.seeds, a.drops)),
		toldText(impl.StoreSaved(a.s)),
		toldSaved(impl.LoadSaved(a.one)),
		toldText(impl.StoreAll(a.list)),
	}
}

// integerLists, bitLists and numberLists are all slices of the arguments, also those within others.
func (a *softArguments) integerLists() []*[]int64 {
	lists := []*[]int64{&a.c.Masks, &a.d.Masks, &a.places, &a.blocks, &a.seeds, &a.drops}
	for i := range a.g.Rows {
		lists = append(lists, &a.g.Rows[i])
	}
	for i := range a.h.Rows {
		lists = append(lists, &a.h.Rows[i])
	}
	return lists
}

func (a *softArguments) bitLists() []*[]bool {
	lists := []*[]bool{&a.bits, &a.pairs, &a.near, &a.turned, &a.sent, &a.s.Bits}
	for i := range a.list {
		lists = append(lists, &a.list[i].Bits)
	}
	return lists
}

func (a *softArguments) numberLists() []*[]float32 {
	lists := []*[]float32{&a.soft, &a.told, &a.hard, &a.read, &a.s.Soft}
	for i := range a.many {
		lists = append(lists, &a.many[i])
	}
	for i := range a.list {
		lists = append(lists, &a.list[i].Soft)
	}
	return lists
}

// whole tells all slices of the arguments with their unused capacity.
func (a *softArguments) whole() string {
	var b strings.Builder
	for _, list := range a.integerLists() {
		b.WriteString(resultText((*list)[:cap(*list)]))
	}
	for _, list := range a.bitLists() {
		b.WriteString(resultText((*list)[:cap(*list)]))
	}
	for _, list := range a.numberLists() {
		b.WriteString(resultText((*list)[:cap(*list)]))
	}
	b.WriteString(resultText(a.points[:cap(a.points)], a.g.Rows[:cap(a.g.Rows)], a.h.Rows[:cap(a.h.Rows)]))
	for _, soft := range a.many[:cap(a.many)] {
		b.WriteString(hex(soft...) + ";")
	}
	for _, s := range a.list[:cap(a.list)] {
		b.WriteString(savedText(s) + ";")
	}
	return b.String()
}

// makeRoomy gives all slices of the arguments further values in their unused capacity.
func (a *softArguments) makeRoomy() {
	for _, list := range a.integerLists() {
		*list = roomy(*list, 1)
	}
	for _, list := range a.bitLists() {
		*list = roomy(*list, true)
	}
	for _, list := range a.numberLists() {
		*list = roomy(*list, 77)
	}
	a.points = roomy(a.points, 77)
	a.g.Rows, a.h.Rows = roomy(a.g.Rows, integers(0)), roomy(a.h.Rows, integers(0))
	a.many, a.list = roomy(a.many, chances(1, 2)), roomy(a.list, saved("more", "1", 1))
}

// strangeNumbers returns soft numbers, one of which is seldom another number.
func (d *drawn) strangeNumbers(soft []float32) []float32 {
	if all := strangeBits(); len(soft) > 0 && d.below(10) == 0 {
		soft[d.below(len(soft))] = num(all[d.below(len(all))])
	}
	return soft
}

// cutOrChanged returns a text, often without its end, or with another byte.
func (d *drawn) cutOrChanged(s string) string {
	switch bytes := []byte(s); d.below(6) {
	case 0:
		return s[:d.below(len(s)+1)]
	case 1:
		if len(bytes) > 0 {
			bytes[d.below(len(bytes))] ^= 1 << d.below(8)
		}
		return string(bytes)
	case 2:
		return s + strangeTexts()[d.below(len(strangeTexts()))]
	}
	return s
}

// strangeSoftAt picks the i-th of many mixtures of coders, graphs, soft numbers, places, drops, stored ones and strange values.
func strangeSoftAt(i int) softArguments {
	d := &drawn{uint64(i) + 9000}
	for range 3 {
		d.below(2)
	}
	a := softArguments{c: d.coder(), bits: d.bits(d.below(44)), workers: int64(1 + d.below(8)), most: int64(d.below(65)), power: int64(d.below(6)), n: int64(1 + d.below(32)), seed: d.seed(), strong: d.soft(1)[0], noise: float32(1+d.below(9)) / 4, lost: float32(d.below(11)) / 10}
	a.c.Masks = d.spoilt(a.c.Masks)
	a.d = []impl.Coder{a.c, d.coder()}[d.below(2)]
	a.pairs = d.bits([]int{2 * d.below(80), d.below(170)}[d.below(2)])
	a.hard = d.strangeNumbers(d.soft(d.below(175)))
	for _, x := range d.strangeNumbers(d.soft(d.below(85))) {
		a.points = append(a.points, complex(x, d.soft(1)[0]))
	}
	a.fillWays(d)
	a.fillGraphs(d)
	a.fillSplits(d)
	a.fillSaved(d)
	all := strangeIntegers()
	strange := func() int64 { return all[d.below(len(all))] }
	switch d.below(16) {
	case 0:
		a.workers, a.most, a.n, a.seed = strange(), strange(), strange(), strange()
	case 1:
		a.power, a.count, a.c.Memory, a.g.Bits = strange(), strange(), strange(), strange()
	case 2:
		a.strong, a.noise, a.lost = num(noNumber), num(plusInf), -1
	}
	return a
}

// fillWays makes soft numbers of what a coder sends.
func (a *softArguments) fillWays(d *drawn) {
	sent, _ := impl.SendBits(a.c, a.bits)
	soft, _ := impl.SoftOf(sent, 1)
	for i := range soft {
		if d.below(5) == 0 {
			soft[i] = d.soft(1)[0]
		}
	}
	a.soft = d.strangeNumbers(soft)
	for range d.below([]int{4, 10}[d.below(2)]) {
		a.many = append(a.many, slices.Clone(a.soft))
	}
}

// fillGraphs makes a graph with bits and numbers that are often near to a member.
func (a *softArguments) fillGraphs(d *drawn) {
	a.g = d.graph(12)
	n := int(a.g.Bits)
	a.near, a.told = d.bits(n), d.strangeNumbers(d.soft(n))
	if d.below(2) == 0 {
		a.near, a.told = make([]bool, n), repeatedNumbers(-1, n)
		a.near[d.below(n)], a.told[d.below(n)] = true, 0.5
	}
	a.near = d.shortened(a.near)
	row := d.below(len(a.g.Rows))
	a.g.Rows[row] = d.spoilt(a.g.Rows[row])
	a.h = []impl.Graph{a.g, d.graph(12)}[d.below(2)]
	a.h.Rows = slices.Clone(a.h.Rows)
	for i, row := range a.h.Rows {
		a.h.Rows[i] = slices.Clone(row)
	}
}

// fillSplits makes places, and bits and numbers for them, and blocks with their drops.
func (a *softArguments) fillSplits(d *drawn) {
	size := 1 << a.power
	a.turned, a.count = d.shortened(d.bits(size)), int64(d.below(size+1))
	a.places = d.set(size, 1+d.below(4))
	a.sent, a.read = d.shortened(d.bits(len(a.places))), d.strangeNumbers(d.soft(size))
	a.places = d.spoilt(a.places)
	a.blocks = d.blocks(int(a.n))
	for range min(64, 3*a.n+2) {
		seed := d.seed()
		drop, _ := impl.DropOf(a.blocks, seed)
		a.seeds, a.drops = append(a.seeds, seed), append(a.drops, drop)
	}
	a.blocks, a.seeds, a.drops = d.spoilt(a.blocks), d.spoilt(a.seeds), d.spoilt(a.drops)
}

// fillSaved makes what is stored, and its bytes, some of which are cut or changed.
func (a *softArguments) fillSaved(d *drawn) {
	some := func() impl.Saved {
		s := d.saved(d.below([]int{20, 163}[d.below(2)]), d.below([]int{20, 163}[d.below(2)]))
		s.Soft = d.strangeNumbers(s.Soft)
		return s
	}
	a.s = some()
	a.one, _ = impl.StoreSaved(a.s)
	for range d.below([]int{4, 10}[d.below(2)]) {
		s := some()
		one, _ := impl.StoreSaved(s)
		a.list, a.all = append(a.list, s), a.all+one
	}
	a.one, a.all = d.cutOrChanged(a.one), d.cutOrChanged(a.all)
}

func TestPromise1SoftReturnsAndRepeats(t *testing.T) {
	wantRepeats(t, 1500, func(i int) []string { return callSoft(strangeSoftAt(i)) })
}

func TestPromise1SoftTakesArguments(t *testing.T) {
	wantTaken(t, 2000, func(i int) []string { return callSoft(strangeSoftAt(i)) })
}

func TestPromise1SoftDiffersByWorkersInNothing(t *testing.T) {
	for i := range 300 {
		a := strangeSoftAt(i)
		alone := toldMany(impl.WaysShared(a.c, a.many, 1))
		for workers := int64(2); workers <= 8; workers++ {
			wantText(t, "WaysShared", toldMany(impl.WaysShared(a.c, a.many, workers)), alone)
		}
	}
}

func TestPromise1SoftStays(t *testing.T) {
	for i := range 1000 {
		a := strangeSoftAt(i)
		a.makeRoomy()
		before := a.whole()
		callSoft(a)
		if after := a.whole(); after != before {
			t.Fatalf("arguments %d: were %s, became %s", i, before, after)
		}
	}
}

func TestPromise1SoftNilAndEmpty(t *testing.T) {
	for _, a := range []softArguments{
		{c: coder(1, 1), d: coder(1), g: graph(2, integers(0)), h: graph(2, integers(0)), many: [][]float32{nil}, list: []impl.Saved{{}}, workers: 1, noise: 1, n: 1},
		{c: coder(1), d: coder(1), g: graph(2, nil), h: graph(2, nil), s: saved("a", ""), list: []impl.Saved{saved("a", "")}, workers: 1, noise: 1, n: 1},
		{c: coder(1, 1), d: coder(1), g: graph(2), h: graph(2), s: saved("a", ""), workers: 1, noise: 1, n: 1, one: "SFT1\x01a\x00\x00\xb4\xf7", all: "SFT1\x01a\x00\x00\xb4\xf7"},
	} {
		without := callSoft(a)
		emptied(a.integerLists())
		emptied(a.bitLists())
		emptied(a.numberLists())
		emptied([]*[]complex64{&a.points})
		emptied([]*[][]int64{&a.g.Rows, &a.h.Rows})
		emptied([]*[][]float32{&a.many})
		emptied([]*[]impl.Saved{&a.list})
		if with := callSoft(a); !slices.Equal(without, with) {
			t.Errorf("nil lists: got %q, empty lists: got %q", without, with)
		}
	}
}

// emptied makes lists that are nil empty ones.
func emptied[T any](lists []*[]T) {
	for _, list := range lists {
		if *list == nil {
			*list = []T{}
		}
	}
}

// resultMemory is the memory of one result: how it is told, and what writes over it.
type resultMemory struct {
	told  func() string
	spoil func()
}

func memoryOf[T any](list []T, with T) resultMemory {
	return resultMemory{func() string { return resultText(list) }, func() { spoil(list, with) }}
}

// tellAll tells all results but one.
func tellAll(all []resultMemory, but int) string {
	var b strings.Builder
	for i, memory := range all {
		if i != but {
			fmt.Fprintln(&b, memory.told())
		}
	}
	return b.String()
}

// wantNewMemory writes over each result, and wants the other ones, the arguments, and the results of further calls to stay as they were.
func wantNewMemory(t *testing.T, results func() []resultMemory, arguments func() string) {
	t.Helper()
	before, told := arguments(), tellAll(results(), -1)
	for i := range results() {
		all := results()
		if all[i].told() == "[] " || all[i].told() == "" {
			t.Errorf("result %d is empty", i)
		}
		others := tellAll(all, i)
		all[i].spoil()
		wantText(t, fmt.Sprint("results after result ", i, " is written over"), tellAll(all, i), others)
		wantText(t, fmt.Sprint("arguments after result ", i, " is written over"), arguments(), before)
		wantText(t, fmt.Sprint("results again after result ", i, " is written over"), tellAll(results(), -1), told)
	}
}

// softResults returns the memory of all lists that functions of chapter 7 return of valid arguments.
func softResults(a *softArguments) []resultMemory {
	var all []resultMemory
	keepBits := func(bits []bool, _ bool) { all = append(all, memoryOf(bits, len(bits) > 0 && !bits[0])) }
	keepNumbers := func(numbers []float32, _ bool) { all = append(all, memoryOf(numbers, 77)) }
	keepIntegers := func(list []int64, _ bool) { all = append(all, memoryOf(list, 77)) }
	keepSaved := func(s impl.Saved) {
		keepBits(s.Bits, true)
		keepNumbers(s.Soft, true)
	}
	keepBits(impl.SendBits(a.c, a.bits))
	keepNumbers(impl.SoftOf(a.bits, 2))
	keepBits(impl.HardOf(a.soft))
	points, _ := impl.PointsOf(a.bits)
	all = append(all, memoryOf(points, 77))
	keepNumbers(impl.SoftPoints(a.points, 1))
	bits, _, _ := impl.BestWay(a.c, a.soft)
	keepBits(bits, true)
	keepNumbers(impl.AllWays(a.c, a.soft))
	ways, _ := impl.WaysShared(a.c, a.many, 2)
	for _, way := range ways {
		keepBits(way, true)
	}
	bits, _, _ = impl.FlipRounds(a.g, a.near, 0)
	keepBits(bits, true)
	bits, _, _ = impl.LeastRounds(a.g, a.told, 64)
	keepBits(bits, true)
	keepBits(impl.PolarTurn(a.turned))
	keepBits(impl.PolarTurn(a.turned[:1]))
	keepNumbers(impl.PolarLosses(2, 0.5))
	keepIntegers(impl.PolarBest(2, 0.5, 3))
	keepBits(impl.PolarSend(1, a.places, a.sent))
	keepBits(impl.PolarRead(1, a.places, a.read))
	keepIntegers(impl.DropPlaces(4, 5))
	keepIntegers(impl.PeelDrops(1, a.seeds, a.drops))
	keepSaved(a.loaded())
	recovered, _, _ := impl.RecoverAll(a.all)
	for _, s := range recovered {
		keepSaved(s)
	}
	return all
}

// loaded returns what is loaded of the bytes of one.
func (a *softArguments) loaded() impl.Saved {
	s, _ := impl.LoadSaved(a.one)
	return s
}

func TestPromise1SoftResultsAreNew(t *testing.T) {
	a := softArguments{
		c: coder(1, 1, 3), g: graph(2, integers(0, 1)), bits: bools("1101"), near: bools("11"), turned: bools("10"), soft: signs("110100"), told: chances(1, -2), points: []complex64{1},
		many: [][]float32{signs("110100"), signs("110100")}, places: integers(0, 1), sent: bools("10"), read: chances(1, 2), seeds: integers(5, 5), drops: integers(7, 7), s: saved("a", "101", 1, 2),
	}
	a.one, _ = impl.StoreSaved(a.s)
	a.all = a.one + a.one
	wantNewMemory(t, func() []resultMemory { return softResults(&a) }, a.whole)
}
