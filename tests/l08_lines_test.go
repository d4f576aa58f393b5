package tests

import (
	"fmt"
	"slices"
	"strings"
	"testing"

	"loop.example/g01364/impl"
)

// toldStep tells a desk after a line, or after lines, and what was output.
func toldStep(d impl.Desk, output string, ok bool) string {
	return outcome(fmt.Sprintf("%s %q", deskText(d), output), isZeroDesk(d) && output == "", ok)
}

// lineForms are the names of all forms of lines, each with how many words can be behind it.
func lineForms() map[string][]int {
	return map[string][]int{
		"row": {0, 1}, "code": {0, 1}, "parity": {0, 1}, "bits": {0, 1}, "even": {1}, "entropy": {0}, "draw": {2}, "surprise": {0}, "merge": {1}, "mean": {0}, "words": {0}, "encode": {1}, "decode": {0}, "runs": {0}, "gamma": {1}, "fibonacci": {1}, "dual": {0}, "extend": {0}, "shorten": {0}, "distance": {0}, "weights": {0}, "mend": {1}, "syndrome": {1},
	}
}

// sortedNames returns the names of all forms in order.
func sortedNames() []string {
	var names []string
	for name := range lineForms() {
		names = append(names, name)
	}
	slices.Sort(names)
	return names
}

// blankWords returns the words of a line between its blanks.
func blankWords(line string) []string {
	words := []string{""}
	for _, b := range []byte(line) {
		if b == ' ' {
			words = append(words, "")
		} else {
			words[len(words)-1] += string([]byte{b})
		}
	}
	return words
}

// changed returns the desk that a line makes by the functions that the table names, and whether all of them succeed.
func changed(d impl.Desk, name, word string) (impl.Desk, bool) {
	ok := true
	list, listed := impl.ReadList(word)
	n, isNumber := impl.ReadDecimal(word)
	switch name {
	case "row":
		d.Row, ok = impl.ReadNumbers(word)
	case "code":
		d.Code, ok = impl.ReadCode(word)
	case "parity":
		d.Parity, ok = impl.ReadParity(word)
	case "bits":
		d.Bits = word
	case "even":
		d.Row, ok = impl.EvenRow(n)
		ok = ok && isNumber
	case "surprise":
		d.Code, ok = impl.SurpriseCode(d.Row)
	case "merge":
		d.Code, ok = impl.MergedCode(list)
		ok = ok && listed
	case "encode":
		d.Bits, ok = impl.EncodeLetters(d.Code, list)
		ok = ok && listed
	case "dual":
		d.Parity, ok = impl.DualOf(d.Parity)
	case "extend":
		d.Parity, ok = impl.ExtendParity(d.Parity)
	case "shorten":
		d.Parity, ok = impl.ShortenParity(d.Parity)
	}
	return d, ok && impl.ValidDesk(d)
}

// toldNow returns what a line without numbers outputs by the functions that the table names.
func toldNow(d impl.Desk, name string) (string, bool) {
	var text string
	var ok bool
	var list []int64
	var x float32
	switch name {
	case "row":
		return impl.NumbersText(d.Row)
	case "code":
		return impl.CodeText(d.Code)
	case "parity":
		return impl.ParityText(d.Parity)
	case "bits":
		return d.Bits, true
	case "entropy":
		x, ok = impl.EntropyOf(d.Row)
		return hex(x), ok
	case "mean":
		x, ok = impl.MeanLong(d.Code, d.Row)
		return hex(x), ok
	case "words":
		words, ok := impl.WordsOf(d.Code)
		return strings.Join(words, ","), ok
	case "decode":
		list, ok = impl.DecodeLetters(d.Code, d.Bits)
		text, _ = impl.ListText(list)
	case "runs":
		list, ok = impl.RunsOf(d.Bits)
		text, _ = impl.ListText(list)
	case "distance":
		n, ok := impl.DistanceOf(d.Parity)
		return fmt.Sprint(n), ok
	case "weights":
		list, ok = impl.WeightsOf(d.Parity)
		text, _ = impl.ListText(list)
	}
	return text, ok
}

// toldOfNumbers returns what a line with numbers outputs by the functions that the table names.
func toldOfNumbers(d impl.Desk, name string, words []string) (string, bool) {
	var numbers []int64
	for _, word := range words {
		n, ok := impl.ReadDecimal(word)
		if !ok {
			return "", false
		}
		numbers = append(numbers, n)
	}
	switch name {
	case "draw":
		letters, _, ok := impl.DrawLetters(d.Row, numbers[0], numbers[1])
		text, _ := impl.ListText(letters)
		return text, ok
	case "gamma":
		return impl.GammaOf(numbers[0])
	case "fibonacci":
		return impl.FibonacciOf(numbers[0])
	case "mend":
		word, wrong, ok := impl.MendWord(d.Parity, numbers[0])
		return fmt.Sprintf("%d,%d", word, wrong), ok
	case "syndrome":
		syndrome, ok := impl.SyndromeOf(d.Parity, numbers[0])
		return fmt.Sprint(syndrome), ok
	}
	return "", false
}

// lineAsTold carries out a line at a valid desk as the table tells it.
func lineAsTold(d impl.Desk, line string) (impl.Desk, string) {
	words := append(blankWords(line), "")
	name, behind := words[0], len(words)-2
	if !slices.Contains(lineForms()[name], behind) {
		return d, "what"
	}
	var output string
	var ok bool
	switch {
	case slices.Contains([]string{"draw", "gamma", "fibonacci", "mend", "syndrome"}, name):
		output, ok = toldOfNumbers(d, name, words[1:1+behind])
	case behind == 0 && !slices.Contains([]string{"surprise", "dual", "extend", "shorten"}, name):
		output, ok = toldNow(d, name)
	default:
		after, ok := changed(d, name, words[1])
		if !ok {
			return d, "no"
		}
		return after, "ok"
	}
	if !ok {
		return d, "no"
	}
	return d, output
}

// wantLine checks a line at a desk, and returns the desk after it.
func wantLine(t *testing.T, d impl.Desk, line string) impl.Desk {
	t.Helper()
	want, output := lineAsTold(d, line)
	after, got, ok := impl.DeskCommand(d, line)
	wantText(t, fmt.Sprintf("DeskCommand %.60q at %s", line, deskText(d)), toldStep(after, got, ok), toldStep(want, output, true))
	return after
}

// lineCase is a line at a new desk: what it outputs, and how another desk comes of it, where one does.
type lineCase struct {
	line, output string
	change       func(d *impl.Desk)
}

func wantLineCases(t *testing.T, d impl.Desk, cases []lineCase) {
	t.Helper()
	for _, c := range cases {
		want := d
		if c.change != nil {
			c.change(&want)
		}
		after, output, ok := impl.DeskCommand(d, c.line)
		wantText(t, fmt.Sprintf("DeskCommand %.60q", c.line), toldStep(after, output, ok), toldStep(want, c.output, true))
		wantLine(t, d, c.line)
	}
}

func TestPromise9LinesOfRows(t *testing.T) {
	with := func(row ...float32) func(*impl.Desk) { return func(d *impl.Desk) { d.Row = row } }
	wantLineCases(t, fresh(), []lineCase{
		{"row", "3f000000,3e800000,3e800000", nil}, {"row 3f800000", "ok", with(1)}, {"row 3f000000,3f000000", "ok", with(0.5, 0.5)}, {"row 80000000,3f800000", "ok", with(num(minusZero), 1)}, {"row 00000000,3f800000", "ok", with(0, 1)},
		{"row " + strings.Repeat("3d000000,", 31) + "3d000000", "ok", with(repeatedNumbers(1.0/32, 32)...)}, {"row " + strings.Repeat("00000000,", 32) + "3f800000", "no", nil},
		{"row none", "no", nil}, {"row ", "no", nil}, {"row 3f80000", "no", nil}, {"row 3F800000", "no", nil}, {"row 3f800000,", "no", nil}, {"row 1", "no", nil}, {"row 40000000", "no", nil}, {"row 3f000000", "no", nil}, {"row bf800000,40000000", "no", nil}, {"row 7fc00000", "no", nil}, {"row 7f800000", "no", nil}, {"row ffc00000", "no", nil}, {"row 3f800000\n", "no", nil}, {"row 3f000000, 3f000000", "what", nil},
		{"even 1", "ok", with(1)}, {"even 2", "ok", with(0.5, 0.5)}, {"even 32", "ok", with(repeatedNumbers(1.0/32, 32)...)},
		{"even 0", "no", nil}, {"even 33", "no", nil}, {"even -1", "no", nil}, {"even +2", "no", nil}, {"even 02", "no", nil}, {"even 2.0", "no", nil}, {"even two", "no", nil}, {"even ", "no", nil}, {"even 1000000000000001", "no", nil}, {"even 4294967298", "no", nil}, {"even 18446744073709551618", "no", nil}, {"even", "what", nil}, {"even 1 2", "what", nil},
		{"draw 0 0", "none", nil}, {"draw 0 1", "0", nil}, {"draw 4294967295 1", "0", nil}, {"draw 1 65", "no", nil}, {"draw -1 1", "no", nil}, {"draw 1 -1", "no", nil}, {"draw 4294967296 1", "no", nil}, {"draw x 1", "no", nil}, {"draw 1 x", "no", nil}, {"draw  1", "no", nil}, {"draw 1 ", "no", nil}, {"draw  ", "no", nil}, {"draw 01 1", "no", nil}, {"draw 1 01", "no", nil}, {"draw", "what", nil}, {"draw 1", "what", nil}, {"draw 1 1 1", "what", nil}, {"draw 1 1 ", "what", nil},
		{"entropy ", "what", nil}, {"entropy 1", "what", nil}, {"mean ", "what", nil}, {"mean 1", "what", nil}, {"mean", "3fc00000", nil},
	})
	_, output, _ := impl.DeskCommand(fresh(), "entropy")
	entropy, ok := impl.ReadNumbers(output)
	wantBool(t, "entropy outputs 1.5, nearly", ok && len(entropy) == 1 && near(entropy[0], 1.5), true)
	wantLine(t, fresh(), "entropy")
	wantLine(t, fresh(), "draw 12345 64")
	one := desk(chances(1), code(1), parity(3, 5), "")
	wantLineCases(t, one, []lineCase{{"entropy", "00000000", nil}, {"mean", "3f800000", nil}, {"draw 7 3", "0,0,0", nil}, {"draw 1 64", strings.Repeat("0,", 63) + "0", nil}})
	wantLineCases(t, desk(halves(), code(1), parity(3, 5), ""), []lineCase{{"mean", "no", nil}, {"entropy", "3f800000", nil}})
}

func TestPromise9LinesOfCodes(t *testing.T) {
	with := func(longs ...int64) func(*impl.Desk) { return func(d *impl.Desk) { d.Code = code(longs...) } }
	wantLineCases(t, fresh(), []lineCase{
		{"code", "1,2,2", nil}, {"code 2,1", "ok", with(2, 1)}, {"code 32", "ok", with(32)}, {"code " + strings.Repeat("4,", 15) + "4", "ok", with(sixteen(4)...)},
		{"code 1,1,1", "no", nil}, {"code none", "no", nil}, {"code ", "no", nil}, {"code 0", "no", nil}, {"code 33", "no", nil}, {"code -1", "no", nil}, {"code 2,1,", "no", nil}, {"code 02,1", "no", nil}, {"code a", "no", nil}, {"code " + strings.Repeat("5,", 16) + "5", "no", nil}, {"code 2 1", "what", nil},
		{"words", "0,10,11", nil}, {"words ", "what", nil}, {"words 1", "what", nil},
		{"surprise", "ok", with(1, 2, 2)}, {"surprise ", "what", nil}, {"surprise 1", "what", nil},
		{"merge 1,1,2", "ok", with(2, 2, 1)}, {"merge 7", "ok", with(1)}, {"merge 0,0", "ok", with(1, 1)}, {"merge 1000000,1000000", "ok", with(1, 1)}, {"merge " + strings.Repeat("1,", 15) + "1", "ok", with(sixteen(4)...)},
		{"merge none", "no", nil}, {"merge ", "no", nil}, {"merge 1,-1", "no", nil}, {"merge 1,1000001", "no", nil}, {"merge 1,01", "no", nil}, {"merge 1,", "no", nil}, {"merge " + strings.Repeat("1,", 16) + "1", "no", nil}, {"merge", "what", nil}, {"merge 1 1", "what", nil},
	})
	uneven := fresh()
	uneven.Row = chances(0.75, 0.125, 0.125)
	wantLineCases(t, uneven, []lineCase{{"surprise", "ok", with(1, 3, 3)}, {"mean", "3fa00000", nil}})
	gap := fresh()
	gap.Row = chances(1, 0)
	wantLineCases(t, gap, []lineCase{{"surprise", "no", nil}, {"mean", "no", nil}})
	many := fresh()
	many.Row = repeatedNumbers(1.0/32, 32)
	wantLineCases(t, many, []lineCase{{"surprise", "no", nil}, {"entropy", "40a00000", nil}})
}

func TestPromise9LinesOfBits(t *testing.T) {
	with := func(bits string) func(*impl.Desk) { return func(d *impl.Desk) { d.Bits = bits } }
	wantLineCases(t, fresh(), []lineCase{
		{"bits", "01011", nil}, {"bits 1", "ok", with("1")}, {"bits ", "ok", with("")}, {"bits " + ones(64), "ok", with(ones(64))}, {"bits " + zeros(65), "no", nil}, {"bits 2", "no", nil}, {"bits 01a", "no", nil}, {"bits 01\n", "no", nil}, {"bits none", "no", nil}, {"bits 0,1", "no", nil}, {"bits 0 1", "what", nil}, {"bits  ", "what", nil},
		{"encode 2,0", "ok", with("110")}, {"encode 0", "ok", with("0")}, {"encode none", "ok", with("")}, {"encode " + strings.Repeat("0,", 63) + "0", "ok", with(zeros(64))}, {"encode " + strings.Repeat("2,", 31) + "2", "ok", with(ones(64))},
		{"encode " + strings.Repeat("2,", 31) + "2,0", "no", nil}, {"encode " + strings.Repeat("0,", 64) + "0", "no", nil}, {"encode 3", "no", nil}, {"encode -1", "no", nil}, {"encode 00", "no", nil}, {"encode ", "no", nil}, {"encode 0,", "no", nil}, {"encode x", "no", nil}, {"encode", "what", nil}, {"encode 0 1", "what", nil},
		{"decode", "0,1,2", nil}, {"decode ", "what", nil}, {"decode 01", "what", nil}, {"runs", "1,1,1,2", nil}, {"runs ", "what", nil}, {"runs 01", "what", nil},
		{"gamma 1", "1", nil}, {"gamma 5", "00101", nil}, {"gamma 1000000", "0000000000000000000" + "11110100001001000000", nil}, {"gamma 0", "no", nil}, {"gamma -5", "no", nil}, {"gamma 1000001", "no", nil}, {"gamma 05", "no", nil}, {"gamma five", "no", nil}, {"gamma ", "no", nil}, {"gamma 9223372036854775808", "no", nil}, {"gamma", "what", nil}, {"gamma 5 5", "what", nil},
		{"fibonacci 1", "11", nil}, {"fibonacci 5", "00011", nil}, {"fibonacci 11", "001011", nil}, {"fibonacci 0", "no", nil}, {"fibonacci -1", "no", nil}, {"fibonacci 1000001", "no", nil}, {"fibonacci +5", "no", nil}, {"fibonacci x", "no", nil}, {"fibonacci ", "no", nil}, {"fibonacci", "what", nil}, {"fibonacci 5 5", "what", nil},
	})
	for bits, outputs := range map[string][3]string{"": {"", "none", "none"}, "1": {"1", "no", "1"}, "01": {"01", "no", "1,1"}, zeros(64): {zeros(64), strings.Repeat("0,", 63) + "0", "64"}, strings.Repeat("10", 32): {strings.Repeat("10", 32), strings.Repeat("1,", 31) + "1", strings.Repeat("1,", 63) + "1"}} {
		d := fresh()
		d.Bits = bits
		wantLineCases(t, d, []lineCase{{"bits", outputs[0], nil}, {"decode", outputs[1], nil}, {"runs", outputs[2], nil}})
	}
}

func TestPromise9LinesOfParities(t *testing.T) {
	with := func(wide int64, rows ...int64) func(*impl.Desk) {
		return func(d *impl.Desk) { d.Parity = parity(wide, rows...) }
	}
	wantLineCases(t, fresh(), []lineCase{
		{"parity", "7;7,25,42,75", nil}, {"parity 3;5", "ok", with(3, 5)}, {"parity 16;65535", "ok", with(16, 65535)}, {"parity 3;8", "no", nil}, {"parity 3;0", "no", nil}, {"parity 3;5,5", "no", nil}, {"parity 17;1", "no", nil}, {"parity 0;1", "no", nil}, {"parity 3;none", "no", nil}, {"parity 3;", "no", nil}, {"parity ;5", "no", nil}, {"parity 3", "no", nil}, {"parity 3;5;", "no", nil}, {"parity 3;05", "no", nil}, {"parity ", "no", nil}, {"parity 3; 5", "what", nil}, {"parity 3 5", "what", nil},
		{"dual", "ok", with(7, 85, 102, 120)}, {"extend", "ok", with(8, 135, 153, 170, 75)}, {"shorten", "ok", with(6, 42, 25, 7)},
		{"dual ", "what", nil}, {"dual 1", "what", nil}, {"extend ", "what", nil}, {"extend 1", "what", nil}, {"shorten ", "what", nil}, {"shorten 1", "what", nil},
		{"distance", "3", nil}, {"distance ", "what", nil}, {"distance 1", "what", nil}, {"weights", "1,0,0,7,7,0,0,1", nil}, {"weights ", "what", nil}, {"weights 1", "what", nil},
		{"mend 0", "0,0", nil}, {"mend 1", "0,1", nil}, {"mend 45", "45,0", nil}, {"mend 37", "45,1", nil}, {"mend 127", "127,0", nil}, {"mend 128", "no", nil}, {"mend -1", "no", nil}, {"mend 01", "no", nil}, {"mend x", "no", nil}, {"mend ", "no", nil}, {"mend 1000000000000001", "no", nil}, {"mend", "what", nil}, {"mend 1 1", "what", nil},
		{"syndrome 0", "0", nil}, {"syndrome 1", "1", nil}, {"syndrome 64", "7", nil}, {"syndrome 45", "0", nil}, {"syndrome 128", "no", nil}, {"syndrome -1", "no", nil}, {"syndrome 00", "no", nil}, {"syndrome x", "no", nil}, {"syndrome ", "no", nil}, {"syndrome 1000000000000001", "no", nil}, {"syndrome", "what", nil}, {"syndrome 1 1", "what", nil},
	})
	at := func(p impl.Parity) impl.Desk { return desk(halves(), code(1, 1), p, "01") }
	wantLineCases(t, at(parity(16, 1)), []lineCase{{"dual", "no", nil}, {"mend 0", "no", nil}, {"syndrome 0", "no", nil}, {"extend", "no", nil}, {"distance", "1", nil}, {"weights", "1,1" + strings.Repeat(",0", 15), nil}, {"shorten", "ok", with(15, 1)}})
	wantLineCases(t, at(parity(1, 1)), []lineCase{{"dual", "no", nil}, {"mend 1", "no", nil}, {"syndrome 1", "no", nil}, {"shorten", "no", nil}, {"extend", "ok", with(2, 3)}, {"weights", "1,1", nil}})
	wantLineCases(t, at(parity(4, 15)), []lineCase{{"shorten", "no", nil}, {"mend 1", "0,1", nil}, {"mend 7", "15,1", nil}, {"mend 3", "0,2", nil}, {"mend 16", "no", nil}, {"distance", "4", nil}, {"dual", "ok", with(4, 9, 10, 12)}, {"extend", "ok", with(5, 15)}})
	wantLineCases(t, at(doubled()), []lineCase{{"extend", "no", nil}, {"mend 65535", "65535,0", nil}, {"mend 65536", "no", nil}, {"mend 255", "0,8", nil}, {"syndrome 65535", "0", nil}, {"weights", "1,0,8,0,28,0,56,0,70,0,56,0,28,0,8,0,1", nil}})
}

// Lines of all names, also of others, with few or many words behind them, some of which are empty.
func TestPromise9LinesByForms(t *testing.T) {
	names := append(sortedNames(), "", "Row", "ROW", "rows", "ro", "row\n", "row\t", "evenn", "eve", "draws", "delta", "word", "what", "no", "ok", "none", "decode,", "desk", "bits;", "\x00", "é", "\xff", "mendsyndrome")
	behind := []string{"", "1", "2", "0,1", "none", "3f800000", "2,1", "3;5", "01", "-1", "x", "1000000000000000", "1000000000000001", "\n", "\t", "row", " ", "  "}
	for _, name := range names {
		wantLine(t, fresh(), name)
		for _, one := range behind {
			for _, line := range []string{name + " " + one, " " + name + " " + one, name + "  " + one, name + " " + one + " ", name + "\t" + one, name + one, name + "," + one} {
				wantLine(t, fresh(), line)
			}
			for _, two := range behind {
				wantLine(t, fresh(), name+" "+one+" "+two)
				wantLine(t, fresh(), name+" "+one+" "+two+" 1")
			}
		}
	}
}

// What a line that is not told to change the desk returns is the same desk, also where it has a form.
func TestPromise9LinesChangeNothing(t *testing.T) {
	for _, d := range someDesks() {
		for _, line := range []string{"", " ", "  ", "x", "\n", "row none", "row 40000000", "code 1,1,1", "code 0", "parity 3;8", "parity 17;1", "bits 2", "bits " + zeros(65), "even 33", "even x", "merge none", "merge 1,-1", "encode 16", "encode " + strings.Repeat("0,", 64) + "0", "draw 1 65", "gamma 0", "fibonacci 0", "mend 65536", "syndrome -1", "row a b", "entropy 1", "dual x", "surprise ", " surprise", "dual  ", strings.Repeat(" ", 20000), strings.Repeat("x", 20000), "bits " + strings.Repeat("0", 100000), "row " + strings.Repeat("3f800000,", 20000)} {
			after, output, ok := impl.DeskCommand(d, line)
			what := fmt.Sprintf("DeskCommand %.60q", line)
			wantText(t, what, deskText(after), deskText(d))
			wantBool(t, what+" outputs no or what", ok && (output == "no" || output == "what"), true)
		}
		for _, line := range []string{"row", "code", "parity", "bits", "entropy", "draw 1 2", "mean", "words", "decode", "runs", "gamma 9", "fibonacci 9", "distance", "weights", "mend 1", "syndrome 1"} {
			wantText(t, fmt.Sprintf("DeskCommand %q", line), deskText(wantLine(t, d, line)), deskText(d))
		}
	}
}

func TestPromise9LinesAtNoDesk(t *testing.T) {
	for i, d := range notDesks() {
		for _, line := range []string{"", "x", "row", "row 3f800000", "even 2", "code 1", "parity 3;5", "bits 1", "entropy", "runs", "gamma 1", "dual"} {
			wantText(t, fmt.Sprintf("DeskCommand %q at no desk %d", line, i), toldStep(impl.DeskCommand(d, line)), "no")
		}
	}
}

// line returns a line, most often one that can be carried out.
func (d *drawn) line() string {
	names := sortedNames()
	name := names[d.below(len(names))]
	counts := lineForms()[name]
	if d.below(30) == 0 {
		counts = []int{0, 1, 2, 3}
	}
	line := name
	for range counts[d.below(len(counts))] {
		line += " " + d.wordOf(name)
	}
	switch d.below(40) {
	case 0:
		return line + " "
	case 1:
		return " " + line
	case 2:
		return line[:d.below(len(line)+1)]
	}
	return line
}

// wordOf returns a word that can stand behind a name.
func (d *drawn) wordOf(name string) string {
	if d.below(20) == 0 {
		return strangeTexts()[d.below(15)]
	}
	switch name {
	case "row":
		return hex(d.row(1 + d.below(6))...)
	case "code":
		return listAsTold(goodCodes()[d.below(12)].Longs)
	case "parity":
		p := d.parity(1 + d.below(10))
		return fmt.Sprintf("%d;%s", p.Wide, listAsTold(p.Rows))
	case "bits":
		return d.digits(d.below(66))
	case "merge":
		return listAsTold(d.weights(1 + d.below(17)))
	case "encode":
		return listAsTold(d.text(3, 1+d.below(30)))
	case "even":
		return fmt.Sprint(d.below(34))
	}
	return fmt.Sprint(d.below([]int{4, 70, 1000, 1 << 30}[d.below(4)]))
}

// Many lines one after another, each at the desk that is there then.
func TestPromise9LinesAsTold(t *testing.T) {
	d := &drawn{110}
	answers := map[string]int{}
	for range 60 {
		at := someDesks()[d.below(len(someDesks()))]
		for range 60 {
			line := d.line()
			_, output := lineAsTold(at, line)
			at = wantLine(t, at, line)
			answers[strings.SplitN(line, " ", 2)[0]+" "+map[bool]string{true: "no", false: "yes"}[output == "no"]]++
		}
	}
	for _, name := range sortedNames() {
		never := slices.Contains([]string{"entropy", "words", "runs", "distance", "weights"}, name)
		if answers[name+" yes"] < 3 || answers[name+" no"] < 1 && !never {
			t.Errorf("%s is carried out %d times, and not %d times", name, answers[name+" yes"], answers[name+" no"])
		}
	}
}

// A row, a code, a parity and bits that are output are taken again.
func TestPromise9PartsAreTakenAgain(t *testing.T) {
	for _, d := range someDesks() {
		at := fresh()
		for _, name := range []string{"row", "code", "parity", "bits"} {
			_, output, _ := impl.DeskCommand(d, name)
			after, answer, ok := impl.DeskCommand(at, name+" "+output)
			wantBool(t, fmt.Sprintf("%s %s is taken", name, output), ok && answer == "ok", true)
			at = after
		}
		wantBool(t, "SameDesk with parts that are taken again", impl.SameDesk(at, d), true)
	}
}
