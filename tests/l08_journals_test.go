package tests

import (
	"fmt"
	"slices"
	"strings"
	"testing"

	"loop.example/g01364/impl"
)

// entryAsTold returns a line of a journal, and its check number, as the document tells them.
func entryAsTold(check int, line string) (string, int) {
	for i := range len(line) {
		check = (929*check + int(line[i]) + 193) % 65003
	}
	return fmt.Sprintf("%d %s\n", check, line), check
}

// journalAsTold returns the journal of lines as the document tells it.
func journalAsTold(lines []string) string {
	var journal strings.Builder
	check := 0
	for _, line := range lines {
		entry, next := entryAsTold(check, line)
		journal.WriteString(entry)
		check = next
	}
	return journal.String()
}

func toldJournal(lines []string, length int64, ok bool) string {
	return outcome(fmt.Sprintf("%d %q", length, lines), len(lines) == 0 && length == 0, ok)
}

func toldCarried(d impl.Desk, count int64, ok bool) string {
	return outcome(fmt.Sprintf("%d %s", count, deskText(d)), isZeroDesk(d) && count == 0, ok)
}

// recoveredFrom looks for the lines of a text one by one, as long as each one is what its journal has there.
func recoveredFrom(text string) ([]string, int64) {
	var lines []string
	start, check := 0, 0
	for end := range len(text) {
		if text[end] != '\n' {
			continue
		}
		blank := strings.Index(text[start:end], " ")
		if blank < 0 {
			break
		}
		line := text[start+blank+1 : end]
		entry, next := entryAsTold(check, line)
		if entry != text[start:end+1] {
			break
		}
		lines, start, check = append(lines, line), end+1, next
	}
	return lines, int64(start)
}

// wantRecovered checks what is recovered of a text, and what is carried out of it.
func wantRecovered(t *testing.T, text string) {
	t.Helper()
	lines, length := recoveredFrom(text)
	wantText(t, fmt.Sprintf("RecoverJournal %.60q", text), toldJournal(impl.RecoverJournal(text)), toldJournal(lines, length, true))
	after, _ := runAsTold(fresh(), lines)
	wantText(t, fmt.Sprintf("RunJournal %.60q", text), toldCarried(impl.RunJournal(fresh(), text)), toldCarried(after, int64(len(lines)), true))
}

func someLines() [][]string {
	return [][]string{
		nil, {""}, {"", "", ""}, {"words"}, {"words", "runs"}, {" "}, {" words ", "  "}, {"bits 1", "", "bits", "x"}, {"bits 0110", "encode 1,2", "decode", "code 2,1", "merge 1,1,1,1"}, {"row 3f000000,3f000000", "surprise", "even 3", "draw 1 2"}, {"parity 3;5", "extend", "dual", "shorten", "mend 1"},
		{"\r", "\x00", "\xff\xfe", "é", "\t"}, {"0 words", "290 a", "words"}, {"bits 1", "bits 1", "bits 1"}, {strings.Repeat("x", 5000), "bits 0"}, slices.Repeat([]string{"bits "}, 1000), {"1", "12", "123"}, {"-1", "+1", "01", "none"},
	}
}

func TestPromise9JournalOf(t *testing.T) {
	cases := []struct {
		lines []string
		want  string
	}{
		{nil, ""}, {[]string{""}, "0 \n"}, {[]string{"", ""}, "0 \n0 \n"}, {[]string{"a"}, "290 a\n"}, {[]string{"a", "b"}, "290 a\n9689 b\n"}, {[]string{"ab"}, "9689 ab\n"}, {[]string{"a", "", "b"}, "290 a\n290 \n9689 b\n"}, {[]string{" "}, "225  \n"}, {[]string{"\xff"}, "448 \xff\n"},
	}
	for _, c := range cases {
		wantText(t, fmt.Sprintf("JournalOf %q", c.lines), toldText(impl.JournalOf(c.lines)), toldText(c.want, true))
	}
	for _, lines := range someLines() {
		wantText(t, fmt.Sprintf("JournalOf %.60q", lines), toldText(impl.JournalOf(lines)), toldText(journalAsTold(lines), true))
	}
}

func TestPromise9JournalOfFails(t *testing.T) {
	bad := [][]string{{"\n"}, {"a\nb"}, {"\na"}, {"a\n"}, {"", "\n"}, {"\n", ""}, {"words", "runs\n"}, {"words\n", "runs"}, {"a", "b", "c\n\n", "d"}, {"\r\n"}, {strings.Repeat("x", 15000) + "\n"}, {strings.Repeat("x", 16000)}, {strings.Repeat("x", 1000000)}, {strings.Repeat("\n", 16000)}, slices.Repeat([]string{""}, 5334), slices.Repeat([]string{""}, 100000), slices.Repeat([]string{strings.Repeat("y", 100)}, 160)}
	for _, lines := range bad {
		wantText(t, fmt.Sprintf("JournalOf %.60q", lines), toldText(impl.JournalOf(lines)), "no")
	}
}

// filled returns lines with a journal of as many bytes.
func filled(t *testing.T, before []string, size int) []string {
	t.Helper()
	// How many digits the last check number has depends on the last line.
	for letter := 'a'; letter <= 'z'; letter++ {
		for digits := 1; digits <= 5; digits++ {
			count := size - len(journalAsTold(before)) - digits - 2
			if lines := append(slices.Clone(before), strings.Repeat(string(letter), count)); len(journalAsTold(lines)) == size {
				return lines
			}
		}
	}
	t.Fatalf("no lines have a journal of %d bytes", size)
	return nil
}

func TestPromise9LongJournals(t *testing.T) {
	for _, before := range [][]string{nil, {"bits 0"}, slices.Repeat([]string{"bits"}, 1000), slices.Repeat([]string{""}, 5000)} {
		lines := filled(t, before, 16000)
		text := journalAsTold(lines)
		wantText(t, "JournalOf of 16000 bytes", toldText(impl.JournalOf(lines)), toldText(text, true))
		wantText(t, "RecoverJournal of 16000 bytes", toldJournal(impl.RecoverJournal(text)), toldJournal(lines, 16000, true))
		after, _ := runAsTold(fresh(), lines)
		wantText(t, "RunJournal of 16000 bytes", toldCarried(impl.RunJournal(fresh(), text)), toldCarried(after, int64(len(lines)), true))
		wantText(t, "RecoverJournal of 16001 bytes", toldJournal(impl.RecoverJournal(text+"x")), "no")
		wantText(t, "RunJournal of 16001 bytes", toldCarried(impl.RunJournal(fresh(), text+"x")), "no")
		wantText(t, "JournalOf of 16001 bytes", toldText(impl.JournalOf(filled(t, before, 16001))), "no")
		wantText(t, "JournalOf of one line more", toldText(impl.JournalOf(append(lines, ""))), "no")
		wantRecovered(t, text[:15999])
		wantRecovered(t, text[:15999]+"x")
	}
	for _, text := range []string{strings.Repeat("0 \n", 5334), strings.Repeat("x", 16001), strings.Repeat("\n", 100000)} {
		wantText(t, "RecoverJournal of a long text", toldJournal(impl.RecoverJournal(text)), "no")
		wantText(t, "RunJournal of a long text", toldCarried(impl.RunJournal(fresh(), text)), "no")
	}
	wantRecovered(t, strings.Repeat("0 \n", 5333)+"0")
	wantRecovered(t, strings.Repeat("x", 16000))
	wantRecovered(t, strings.Repeat("\n", 16000))
}

func TestPromise9RecoverJournal(t *testing.T) {
	cases := []struct{ text, want string }{
		{"", "0 []"}, {"0 \n", `3 [""]`}, {"0 \n0 \n0", `6 ["" ""]`}, {"290 a\n", `6 ["a"]`}, {"290 a", "0 []"}, {"290 a\n9689 b\n", `13 ["a" "b"]`}, {"290 a\n290 b\n", `6 ["a"]`}, {"290 a\n9689 b", `6 ["a"]`}, {"290 a\n290 \n9689 b\nx", `18 ["a" "" "b"]`},
		{"0290 a\n", "0 []"}, {"+290 a\n", "0 []"}, {"-290 a\n", "0 []"}, {" 290 a\n", "0 []"}, {"290  a\n", "0 []"}, {"290 a \n", "0 []"}, {"290\ta\n", "0 []"}, {"290a\n", "0 []"}, {"290 a\r\n", "0 []"}, {"291 a\n", "0 []"}, {"65293 a\n", "0 []"}, {"290 b\n", "0 []"}, {"290.0 a\n", "0 []"}, {"122 a\n", "0 []"}, {"a\n", "0 []"}, {" a\n", "0 []"}, {"\n", "0 []"}, {" \n", "0 []"}, {"0\n", "0 []"}, {"00 \n", "0 []"}, {"-0 \n", "0 []"}, {"65003 \n", "0 []"}, {"none\n", "0 []"}, {"\n290 a\n", "0 []"}, {"290 a\n\n9689 b\n", `6 ["a"]`}, {"290 a\n09689 b\n", `6 ["a"]`}, {"9689 b\n290 a\n", "0 []"}, {"٢٩٠ a\n", "0 []"},
	}
	for _, c := range cases {
		wantText(t, fmt.Sprintf("RecoverJournal %q", c.text), toldJournal(impl.RecoverJournal(c.text)), c.want)
		wantRecovered(t, c.text)
	}
}

func TestPromise9JournalsComeBack(t *testing.T) {
	for _, lines := range someLines() {
		text, _ := impl.JournalOf(lines)
		wantText(t, "RecoverJournal of JournalOf", toldJournal(impl.RecoverJournal(text)), toldJournal(lines, int64(len(text)), true))
		wantRecovered(t, text)
		for _, behind := range []string{"x", "\n", " ", "0 \n", "290 a\n", "\x00", "no", text} {
			if len(text+behind) <= 16000 {
				wantRecovered(t, text+behind)
			}
		}
	}
	random := &drawn{130}
	for range 100 {
		var lines []string
		for range random.below(20) {
			lines = append(lines, strings.ReplaceAll(random.line(), "\n", ""))
		}
		if text := journalAsTold(lines); len(text) <= 16000 {
			wantText(t, "JournalOf", toldText(impl.JournalOf(lines)), toldText(text, true))
			wantRecovered(t, text)
			broken := random.cutOrChanged(text)
			wantRecovered(t, broken[:min(len(broken), 16000)])
		}
	}
}

// Of a journal that is cut or changed at a place, the lines before it are recovered.
func TestPromise9JournalsAreRecovered(t *testing.T) {
	lines := []string{"bits 1", "", "merge 1,1,2", "words", " ", "row none", "bits 0110", "decode"}
	text := journalAsTold(lines)
	intact, length := 0, 0
	for place := range len(text) + 1 {
		if next := journalAsTold(lines[:min(len(lines), intact+1)]); place == len(next) {
			intact, length = min(len(lines), intact+1), place
		}
		want := toldJournal(lines[:intact], int64(length), true)
		wantText(t, fmt.Sprint("RecoverJournal cut at ", place), toldJournal(impl.RecoverJournal(text[:place])), want)
		wantRecovered(t, text[:place])
		if place == len(text) {
			break
		}
		for change := 1; change < 256; change++ {
			bytes := []byte(text)
			bytes[place] ^= byte(change)
			wantText(t, fmt.Sprintf("RecoverJournal with another byte %d at %d", bytes[place], place), toldJournal(impl.RecoverJournal(string(bytes))), want)
		}
		wantRecovered(t, text[:place]+"x"+text[place:])
		wantRecovered(t, text[:place]+"\n"+text[place:])
		wantRecovered(t, text[:place]+"0"+text[place:])
		wantRecovered(t, text[:place]+text[place+1:])
		wantRecovered(t, text[place:])
	}
	wantInt(t, "the lines of the whole text", int64(intact), int64(len(lines)))
}

func TestPromise9RunJournal(t *testing.T) {
	text, _ := impl.JournalOf([]string{"bits 1", "row 3f000000,3f000000", "bits 2", "x", "surprise"})
	after := desk(halves(), code(1, 1), hamming(), "1")
	wantText(t, "RunJournal", toldCarried(impl.RunJournal(fresh(), text)), toldCarried(after, 5, true))
	wantText(t, "RunJournal of a beginning", toldCarried(impl.RunJournal(fresh(), text[:len(text)-1])), toldCarried(desk(halves(), code(1, 2, 2), hamming(), "1"), 4, true))
	wantText(t, "RunJournal with bytes behind", toldCarried(impl.RunJournal(fresh(), text+"9 bits 0\n")), toldCarried(after, 5, true))
	for _, none := range []string{"", "x", "bits 1\n", "1 bits 1\n", "\n", "0\n"} {
		wantText(t, fmt.Sprintf("RunJournal %q", none), toldCarried(impl.RunJournal(fresh(), none)), toldCarried(fresh(), 0, true))
	}
	for _, d := range someDesks() {
		for _, lines := range someLines() {
			want, _ := runAsTold(d, lines)
			wantText(t, fmt.Sprintf("RunJournal of %.60q", lines), toldCarried(impl.RunJournal(d, journalAsTold(lines))), toldCarried(want, int64(len(lines)), true))
		}
	}
	for i, d := range notDesks() {
		for _, text := range []string{"", "x", text, "0 \n"} {
			wantText(t, fmt.Sprintf("RunJournal %.20q at no desk %d", text, i), toldCarried(impl.RunJournal(d, text)), "no")
		}
	}
}
