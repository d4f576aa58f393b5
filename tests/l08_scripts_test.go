package tests

import (
	"fmt"
	"strings"
	"testing"

	"loop.example/g01364/impl"
)

// runAsTold carries out lines one after another as the table tells them.
func runAsTold(d impl.Desk, lines []string) (impl.Desk, string) {
	var outputs strings.Builder
	for _, line := range lines {
		after, output := lineAsTold(d, line)
		d = after
		outputs.WriteString(output + "\n")
	}
	return d, outputs.String()
}

// scriptOf returns lines, each of which ends with a newline.
func scriptOf(lines []string) string {
	var script strings.Builder
	for _, line := range lines {
		script.WriteString(line + "\n")
	}
	return script.String()
}

func wantRun(t *testing.T, d impl.Desk, lines ...string) {
	t.Helper()
	want, outputs := runAsTold(d, lines)
	after, got, ok := impl.RunDesk(d, scriptOf(lines))
	wantText(t, fmt.Sprintf("RunDesk %.60q", scriptOf(lines)), toldStep(after, got, ok), toldStep(want, outputs, true))
}

func TestPromise9RunDesk(t *testing.T) {
	d := fresh()
	cases := []struct{ script, outputs, bits string }{
		{"", "", "01011"}, {"\n", "what\n", "01011"}, {"\n\n\n", "what\nwhat\nwhat\n", "01011"}, {"words\ndecode\n", "0,10,11\n0,1,2\n", "01011"},
		{"bits \nbits\nruns\n", "ok\n\nnone\n", ""}, {"bits 1\n\nbits 2\nbits\n", "ok\nwhat\nno\n1\n", "1"}, {"encode 2,0\r\nbits\n", "no\n01011\n", "01011"}, {"bits\r\n", "what\n", "01011"}, {" bits\nbits \n", "what\nok\n", ""}, {"bits 1\nbits 11\nbits\n", "ok\nok\n11\n", "11"}, {"bits\x00\nbits\t1\n", "what\nwhat\n", "01011"},
	}
	for _, c := range cases {
		want := d
		want.Bits = c.bits
		after, outputs, ok := impl.RunDesk(d, c.script)
		wantText(t, fmt.Sprintf("RunDesk %q", c.script), toldStep(after, outputs, ok), toldStep(want, c.outputs, true))
	}
	for _, script := range []string{"words", "words\nruns", "\nx", " ", "\n ", "words\n\r", "words\r", "\x00", "é", "no", strings.Repeat("words\n", 10) + "words"} {
		wantText(t, fmt.Sprintf("RunDesk %q", script), toldStep(impl.RunDesk(d, script)), "no")
	}
}

func TestPromise9RunDeskByLines(t *testing.T) {
	for _, d := range someDesks() {
		wantRun(t, d)
		wantRun(t, d, "")
		wantRun(t, d, "bits ", "", "bits", "row", "what", "ok")
		wantRun(t, d, "even 4", "surprise", "words", "code 1", "words", "merge 5,4,3,2,1", "words", "mean", "encode 0,1,2", "decode", "code 2", "decode")
		wantRun(t, d, "parity 4;15", "extend", "dual", "distance", "shorten", "weights", "parity", "mend 3", "syndrome 9")
	}
	random := &drawn{120}
	for range 100 {
		var lines []string
		for range random.below(30) {
			lines = append(lines, strings.ReplaceAll(random.line(), "\n", ""))
		}
		if len(scriptOf(lines)) <= 16000 {
			wantRun(t, someDesks()[random.below(12)], lines...)
		}
	}
}

func TestPromise9RunDeskOfLongScripts(t *testing.T) {
	for _, line := range []string{"bits 0101010101010101010101010101", "runs", "", "bits 1 ", "x"} {
		script := strings.Repeat(line+"\n", 16000/(len(line)+1))
		script = strings.Repeat("\n", 16000-len(script)) + script
		after, outputs, ok := impl.RunDesk(fresh(), script)
		want, told := runAsTold(fresh(), strings.Split(script[:len(script)-1], "\n"))
		wantText(t, "RunDesk of 16000 bytes", toldStep(after, outputs, ok), toldStep(want, told, true))
		wantText(t, "RunDesk of 16001 bytes", toldStep(impl.RunDesk(fresh(), "\n"+script)), "no")
	}
	one := "bits" + strings.Repeat(" ", 15995) + "\n"
	wantText(t, "RunDesk of a long line", toldStep(impl.RunDesk(fresh(), one)), toldStep(fresh(), "what\n", true))
	wantText(t, "RunDesk of a line too long", toldStep(impl.RunDesk(fresh(), " "+one)), "no")
	for _, script := range []string{strings.Repeat("\n", 16001), strings.Repeat("\n", 100000), strings.Repeat("x", 16000), strings.Repeat("x", 100000) + "\n"} {
		wantText(t, "RunDesk of a long script", toldStep(impl.RunDesk(fresh(), script)), "no")
	}
}

func TestPromise9RunDeskAtNoDesk(t *testing.T) {
	for i, d := range notDesks() {
		for _, script := range []string{"", "\n", "row 3f800000\ncode 1\nparity 3;5\nbits 1\n", "x", "gamma 1\n"} {
			wantText(t, fmt.Sprintf("RunDesk %q at no desk %d", script, i), toldStep(impl.RunDesk(d, script)), "no")
		}
	}
}

func toldCounted(without, with int64, ok bool) string {
	return outcome(fmt.Sprint(without, with), without == 0 && with == 0, ok)
}

func TestPromise9CountOutputs(t *testing.T) {
	cases := map[string]string{
		"": "0 0", "\n": "0 1", "\n\n": "0 2", "no\n": "1 0", "what\n": "1 0", "ok\n": "0 1", "no\nwhat\nno\n": "3 0", "ok\nno\n1,2\nwhat\n\n": "2 3",
		"none\nnot\nno \n no\nno1\nNo\nNO\nn\no\n": "0 9", "whatever\nwhat \n what\nWhat\nwha\nwhat1\nwha t\n": "0 7", "no,what\nno what\nwhatno\nnowhat\n": "0 4", "no\r\nwhat\r\n": "0 2", "\nno\n\nwhat\n": "2 2", "no\x00\n\x00no\n\xff\n": "0 3", "what\nno\n no\n": "2 1",
	}
	for text, want := range cases {
		wantText(t, fmt.Sprintf("CountOutputs %q", text), toldCounted(impl.CountOutputs(text)), want)
	}
	for _, text := range []string{"no", "what", "ok", "x", " ", "no\nno", "\nwhat", "ok\n ", "\n\x00", "no\r", "\r", "é"} {
		wantText(t, fmt.Sprintf("CountOutputs %q", text), toldCounted(impl.CountOutputs(text)), "no")
	}
	long := map[string]string{
		strings.Repeat("\n", 16000): "0 16000", strings.Repeat("what\n", 3200): "3200 0", strings.Repeat("no\n", 5333) + "\n": "5333 1", strings.Repeat("x", 15999) + "\n": "0 1", "no\n" + strings.Repeat("no", 7998) + "\n": "1 1",
		strings.Repeat("\n", 16001): "no", "\n" + strings.Repeat("what\n", 3200): "no", strings.Repeat("no\n", 5334): "no", strings.Repeat("x", 16000) + "\n": "no", strings.Repeat("x", 16000): "no", strings.Repeat("no\n", 100000): "no", strings.Repeat("no", 100000): "no",
	}
	for text, want := range long {
		wantText(t, fmt.Sprintf("CountOutputs of %d bytes, %.10q", len(text), text), toldCounted(impl.CountOutputs(text)), want)
	}
}

// What lines output is counted.
func TestPromise9CountsWhatWasRun(t *testing.T) {
	_, outputs, _ := impl.RunDesk(fresh(), "words\nbits 2\nx\n\nbits \nbits\ngamma 0\nrow\ndraw 0 0\n")
	wantText(t, "CountOutputs of what was run", toldCounted(impl.CountOutputs(outputs)), "4 5")
	random := &drawn{121}
	for range 100 {
		var lines []string
		refused := 0
		for range random.below(40) {
			line := strings.ReplaceAll(random.line(), "\n", "")
			lines = append(lines, line)
		}
		_, outputs := runAsTold(fresh(), lines)
		for _, output := range strings.Split(outputs, "\n") {
			if output == "no" || output == "what" {
				refused++
			}
		}
		if len(outputs) <= 16000 {
			wantText(t, fmt.Sprintf("CountOutputs %.60q", outputs), toldCounted(impl.CountOutputs(outputs)), fmt.Sprint(refused, len(lines)-refused))
		}
	}
}
