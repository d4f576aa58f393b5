package tests

import (
	"fmt"
	"slices"
	"strings"
	"testing"

	"loop.example/g01364/impl"
)

// deskArguments are one of each kind that functions of chapter 8 take.
type deskArguments struct {
	d, e                               impl.Desk
	c                                  impl.Code
	p                                  impl.Parity
	codeText, parityText, line, script string
	outputs, journal, broken           string
	lines                              []string
}

// callDesks calls every function of chapter 8, and returns what each one returns.
func callDesks(a deskArguments) []string {
	return []string{
		resultText(impl.ValidDesk(a.d), impl.SameDesk(a.d, a.e), impl.SameDesk(a.e, a.d), deskText(impl.NewDesk())),
		toldText(impl.CodeText(a.c)),
		toldCode(impl.ReadCode(a.codeText)),
		toldText(impl.ParityText(a.p)),
		toldParity(impl.ReadParity(a.parityText)),
		toldStep(impl.DeskCommand(a.d, a.line)),
		toldStep(impl.RunDesk(a.d, a.script)),
		toldCounted(impl.CountOutputs(a.outputs)),
		toldText(impl.JournalOf(a.lines)),
		toldJournal(impl.RecoverJournal(a.broken)),
		toldCarried(impl.RunJournal(a.d, a.journal)),
	}
}

// integerLists and numberLists are all slices of integers or numbers of the arguments.
func (a *deskArguments) integerLists() []*[]int64 {
	return []*[]int64{&a.d.Code.Longs, &a.d.Parity.Rows, &a.e.Code.Longs, &a.e.Parity.Rows, &a.c.Longs, &a.p.Rows}
}

func (a *deskArguments) numberLists() []*[]float32 { return []*[]float32{&a.d.Row, &a.e.Row} }

// whole tells all slices of the arguments with their unused capacity.
func (a *deskArguments) whole() string {
	var b strings.Builder
	for _, list := range a.integerLists() {
		b.WriteString(resultText((*list)[:cap(*list)]))
	}
	for _, list := range a.numberLists() {
		b.WriteString(resultText((*list)[:cap(*list)]))
	}
	fmt.Fprintf(&b, "%q", a.lines[:cap(a.lines)])
	return b.String() + fmt.Sprint(a.d.Parity.Wide, a.d.Bits, a.e.Parity.Wide, a.e.Bits, a.p.Wide)
}

// strangeDesk returns a desk, or what a strange part makes of it.
func (d *drawn) strangeDesk() impl.Desk {
	all := someDesks()
	at := all[d.below(len(all))]
	switch d.below(12) {
	case 0:
		at.Row = d.strangeNumbers(at.Row)
	case 1:
		at.Code = d.strangeCode()
	case 2:
		at.Parity = d.strangeParity()
	case 3:
		at.Bits = d.digits(d.below(130))
	case 4:
		at = notDesks()[d.below(len(notDesks()))]
	}
	return at
}

// strangeDesksAt picks the i-th of many mixtures of desks, texts, lines, scripts, journals and strange values.
func strangeDesksAt(i int) deskArguments {
	d := &drawn{uint64(i) + 10000}
	for range 3 {
		d.below(2)
	}
	a := deskArguments{d: d.strangeDesk(), c: d.strangeCode(), p: d.strangeParity(), line: d.line()}
	a.e = []impl.Desk{a.d, d.strangeDesk()}[d.below(2)]
	a.e.Row, a.e.Code.Longs, a.e.Parity.Rows = slices.Clone(a.e.Row), slices.Clone(a.e.Code.Longs), slices.Clone(a.e.Parity.Rows)
	a.codeText = d.cutOrChanged(listAsTold(a.c.Longs))
	a.parityText = d.cutOrChanged(fmt.Sprintf("%d;%s", a.p.Wide, listAsTold(a.p.Rows)))
	var lines []string
	for range d.below(8) {
		lines = append(lines, d.line())
	}
	a.lines = lines
	if d.below(16) == 0 {
		a.lines = append(a.lines, []string{"a\nb", strings.Repeat("x", 16000), "\n"}[d.below(3)])
	}
	a.script = d.cutOrChanged(scriptOf(lines))
	a.outputs = d.cutOrChanged(strings.Repeat("no\nok\nwhat\n", d.below(4)) + scriptOf(lines))
	a.journal, a.broken = d.cutOrChanged(journalAsTold(lines)), d.cutOrChanged(journalAsTold(lines))
	if all := strangeTexts(); d.below(20) == 0 {
		a.line, a.script, a.broken = all[d.below(len(all))], all[d.below(len(all))], all[d.below(len(all))]
	}
	return a
}

func TestPromise1DesksReturnAndRepeat(t *testing.T) {
	wantRepeats(t, 2000, func(i int) []string { return callDesks(strangeDesksAt(i)) })
}

func TestPromise1DesksTakeArguments(t *testing.T) {
	wantTaken(t, 2000, func(i int) []string { return callDesks(strangeDesksAt(i)) })
}

func TestPromise1DesksStay(t *testing.T) {
	for i := range 1000 {
		a := strangeDesksAt(i)
		for _, list := range a.integerLists() {
			*list = roomy(*list, 1)
		}
		for _, list := range a.numberLists() {
			*list = roomy(*list, 77)
		}
		a.lines = roomy(a.lines, "more")
		before := a.whole()
		callDesks(a)
		if after := a.whole(); after != before {
			t.Fatalf("arguments %d: were %s, became %s", i, before, after)
		}
	}
}

// All lines leave the desk that they are given as it was, also where they return another one.
func TestPromise1LinesLeaveTheirDesk(t *testing.T) {
	for _, d := range someDesks() {
		a := deskArguments{d: d}
		for _, list := range a.integerLists() {
			*list = roomy(*list, 1)
		}
		a.d.Row = roomy(a.d.Row, 77)
		before := a.whole()
		for _, line := range changingLines() {
			impl.DeskCommand(a.d, line)
			impl.RunDesk(a.d, line+"\n"+line+"\n")
			impl.RunJournal(a.d, journalAsTold([]string{line, line}))
			wantText(t, fmt.Sprintf("the desk behind %.40q", line), a.whole(), before)
		}
	}
}

// changingLines are lines that change one of the parts of some desks, and others that change nothing.
func changingLines() []string {
	return []string{"row 3f800000", "code 2,1", "parity 3;5", "bits 1", "even 4", "surprise", "merge 1,2,3", "encode 0", "dual", "extend", "shorten", "row", "code", "parity", "bits", "words", "decode", "weights", "mend 1", "x", "", "row none", "even 33"}
}

func TestPromise1DesksNilAndEmpty(t *testing.T) {
	without := deskArguments{e: impl.Desk{Bits: "0"}, line: "row", script: "row\n", journal: "0 \n"}
	with := without
	emptied(with.integerLists())
	emptied(with.numberLists())
	with.lines = []string{}
	if one, two := callDesks(without), callDesks(with); !slices.Equal(one, two) {
		t.Errorf("nil lists: got %q, empty lists: got %q", one, two)
	}
}

// deskResults returns the memory of all lists that functions of chapter 8 return of a valid desk.
func deskResults(d impl.Desk) []resultMemory {
	var all []resultMemory
	keep := func(d impl.Desk) {
		all = append(all, memoryOf(d.Row, 77), memoryOf(d.Code.Longs, 77), memoryOf(d.Parity.Rows, 77))
	}
	keep(impl.NewDesk())
	c, _ := impl.ReadCode("2,1")
	p, _ := impl.ReadParity("3;5")
	all = append(all, memoryOf(c.Longs, 77), memoryOf(p.Rows, 77))
	for _, line := range changingLines() {
		after, _, _ := impl.DeskCommand(d, line)
		keep(after)
		after, _, _ = impl.RunDesk(d, line+"\n")
		keep(after)
	}
	after, _, _ := impl.RunDesk(d, "")
	keep(after)
	for _, text := range []string{"", "x", journalAsTold([]string{"bits 1"}), journalAsTold([]string{"even 2", "x"})} {
		after, _, _ = impl.RunJournal(d, text)
		keep(after)
	}
	lines, _, _ := impl.RecoverJournal(journalAsTold([]string{"bits 1", "x"}))
	return append(all, memoryOf(lines, "other"))
}

func TestPromise1DesksAreNew(t *testing.T) {
	d := fresh()
	wantNewMemory(t, func() []resultMemory { return deskResults(d) }, func() string { return deskText(d) })
}
