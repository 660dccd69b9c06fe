package run_test

import (
	"math/rand"
	"slices"
	"strings"
	"sync"
	"testing"

	"granary/run"
)

// asked is a line, and the answer to it.
type asked struct{ line, answer string }

// table is the chapter's example.
func table() []asked {
	return []asked{
		{"crc 49", "2212294583"}, {"read 0", "none"}, {"disk 1 6 2 24 2 0", "ok"}, {"write 1 7,8,9", "ok"},
		{"keep", "ok"}, {"read 1", "7,8,9"}, {"fly", "bad"},
	}
}

// whole gives lines as one text, and their answers.
func whole(all []asked) (text, answers string) {
	for _, a := range all {
		text += a.line + "\n"
		answers += a.answer + "\n"
	}
	return text, answers
}

func tableText() string {
	text, _ := whole(table())
	return text
}

// wantAll asks for the answers to lines that are one text, with an end behind the last one and without.
func wantAll(t *testing.T, all []asked) {
	t.Helper()
	text, answers := whole(all)
	wantRun(t, text, answers)
	if len(all) > 0 && all[len(all)-1].line != "" {
		wantRun(t, text[:len(text)-1], answers)
	}
}

// wantEach asks for the answer to each line alone.
func wantEach(t *testing.T, all []asked) {
	t.Helper()
	for _, a := range all {
		wantAll(t, []asked{a})
	}
}

func TestX1TableLineByLine(t *testing.T) {
	for n := range len(table()) + 1 {
		wantAll(t, table()[:n])
	}
}

func TestX1HowLong(t *testing.T) {
	list := strings.Repeat(",0", 3997)
	bads := func(n int) string { return strings.Repeat("bad\n", n) }
	for _, c := range []struct {
		name, text, want string
	}{
		{"no bytes", "", ""},
		{"8000 line ends", strings.Repeat("\n", 8000), bads(8000)},
		{"8001 line ends", strings.Repeat("\n", 8001), "too long\n"},
		{"one line of 8000", strings.Repeat("x", 8000), bads(1)},
		{"one line of 7999, and its end", strings.Repeat("x", 7999) + "\n", bads(1)},
		{"one line of 8001", strings.Repeat("x", 8001), "too long\n"},
		{"one line of 8000, and its end", strings.Repeat("x", 8000) + "\n", "too long\n"},
		{"a list in 8000", "trim 0\nbatch 1" + list[:7986], "none\nErrShape\n"},
		{"bytes of all, not characters, 8000", strings.Repeat("é", 4000), bads(1)},
		{"bytes of all, not characters, 8002", strings.Repeat("é", 4001), "too long\n"},
		{"bytes of no characters, 8000", strings.Repeat("\xff", 8000), bads(1)},
		{"bytes of no characters, 8001", strings.Repeat("\xff", 8001), "too long\n"},
		{"lines in 8001, of which none is done", strings.Repeat("crc -\n", 1333) + "\n\n\n", "too long\n"},
		{"lines in 8000", strings.Repeat("crc -\n", 1333) + "\n\n", strings.Repeat("0\n", 1333) + bads(2)},
		{"far too long", strings.Repeat("crc -\n", 100000), "too long\n"},
	} {
		t.Run(c.name, func(t *testing.T) {
			wantRun(t, c.text, c.want)
		})
	}
	// All 8000 bytes are read, also the last one.
	wantLike(t, "crc 10"+list)
	wantLike(t, "crc 0"+list+"\n")
	wantRun(t, "crc 0"+list+",", "bad\n")
	wantRun(t, "crc 10"+list+"\n", "too long\n")
}

func TestX1Lines(t *testing.T) {
	for text, want := range map[string]string{
		"\n":                   "bad\n",
		"\n\n":                 "bad\nbad\n",
		"\n\n\n":               "bad\nbad\nbad\n",
		"crc -":                "0\n",
		"crc -\n":              "0\n",
		"crc -\n\n":            "0\nbad\n",
		"\ncrc -":              "bad\n0\n",
		"\ncrc -\n":            "bad\n0\n",
		"crc -\n\ncrc -":       "0\nbad\n0\n",
		"crc -\ncrc -":         "0\n0\n",
		"crc -\ncrc -\n":       "0\n0\n",
		" ":                    "bad\n",
		" \n":                  "bad\n",
		"\n ":                  "bad\nbad\n",
		"  ":                   "bad\n",
		"crc -\r\ncrc -\n":     "bad\n0\n",
		"crc -\rcrc -\n":       "bad\n",
		"\r\n":                 "bad\n",
		"\r":                   "bad\n",
		"keep\r\nkeep":         "bad\nnone\n",
		"crc 49\r\n\rcrc 49":   "bad\nbad\n",
		"crc -\x00\ncrc -":     "bad\n0\n",
		"crc -\x0bcrc -":       "bad\n",
		"crc -\x0ccrc -\n":     "bad\n",
		"crc -\u0085crc -":     "bad\n",
		"crc -\u2028crc -\n":   "bad\n",
		"crc\u00a0-\ncrc\t-":   "bad\nbad\n",
		"\ufeffcrc -\ncrc -":   "bad\n0\n",
		"crc -\\ncrc -":        "bad\n",
		"crc -;crc -\ncrc - #": "bad\nbad\n",
	} {
		wantRun(t, text, want)
	}
}

// Whatever bytes stand ahead of a line's end or behind it, the line ends there.
func TestX1BytesAbove127(t *testing.T) {
	for b := 128; b < 256; b++ {
		one := string([]byte{byte(b)})
		for _, odd := range []string{one, one + one, one + "\x80", "\xe2" + one, "\xf0\x9f" + one, "é" + one} {
			wantRun(t, odd, "bad\n")
			wantRun(t, odd+"\n", "bad\n")
			wantRun(t, odd+"\ncrc -", "bad\n0\n")
			wantRun(t, "crc -\n"+odd+"\ncrc -\n", "0\nbad\n0\n")
			wantRun(t, "crc -"+odd+"\ncrc -", "bad\n0\n")
			wantRun(t, "crc 4"+odd+"9\ncrc -", "bad\n0\n")
			wantRun(t, "crc"+odd+"-\ncrc -", "bad\n0\n")
			wantRun(t, "crc 1,"+odd+"\ncrc -", "bad\n0\n")
		}
	}
}

// Each byte but the one that ends a line stands in it.
func TestX1EachByteInALine(t *testing.T) {
	for b := range 256 {
		one := string([]byte{byte(b)})
		switch {
		case one == "\n":
			wantRun(t, "crc 1\ncrc -", "2768625435\n0\n")
		case one == "-":
			wantRun(t, one, "bad\n")
		case one >= "0" && one <= "9" && len(one) == 1:
			wantLike(t, "crc 1"+one)
		default:
			wantRun(t, "crc 1"+one, "bad\n")
			wantRun(t, "crc "+one, "bad\n")
			wantRun(t, one+"crc 1", "bad\n")
		}
	}
}

// longTexts are texts of which X2 and P2 are asked.
func longTexts() []string {
	texts := []string{
		tableText(), strings.Repeat("\n", 300), "\n" + tableText() + "\n\n", tableText() + strings.Repeat("write 0 1,2,3\nkeep\nread 0\ntrim 0\n", 20),
	}
	for _, kind := range kinds() {
		text, _ := whole(kind)
		texts = append(texts, text)
	}
	r := rand.New(rand.NewSource(3))
	for range 60 {
		texts = append(texts, someText(r, 60))
	}
	for i, text := range texts {
		if len(text) > mostText {
			texts[i] = text[:mostText]
		}
	}
	return texts
}

func TestX2FirstLines(t *testing.T) {
	for _, text := range longTexts() {
		all := slices.Collect(strings.Lines(text))
		answers := slices.Collect(strings.Lines(run.Run(text)))
		if len(answers) != len(all) {
			t.Fatalf("Run of %s: %d lines are answered by %d", short(text), len(all), len(answers))
		}
		for n := range len(all) + 1 {
			first := strings.Join(all[:n], "")
			wantRun(t, first, strings.Join(answers[:n], ""))
			wantRun(t, strings.TrimSuffix(first, "\n"), strings.Join(answers[:n-trimmed(first)], ""))
		}
	}
}

// trimmed tells how many lines fewer a text has when its last byte 10 is taken away: one, if the last line is empty.
func trimmed(text string) int {
	if text == "\n" || strings.HasSuffix(text, "\n\n") {
		return 1
	}
	return 0
}

// A text that is too long says nothing of its first lines, however good they are.
func TestX2AsFarAsItIsNotTooLong(t *testing.T) {
	text := tableText()
	for len(text) < mostText {
		text += "\n"
	}
	if got := run.Run(text); !strings.HasPrefix(got, run.Run(tableText())) {
		t.Errorf("8000 bytes: got %s", short(got))
	}
	wantRun(t, text+"\n", "too long\n")
}

// Nothing is kept from text to text, nor seen by one of another that is answered at the same time.
func TestX1TextsAreOnTheirOwn(t *testing.T) {
	wantRun(t, "disk 1 6 2 24 2 0\nwrite 1 7,8,9\nkeep\n", "ok\nok\nok\n")
	wantRun(t, "read 1\n", "none\n")
	wantRun(t, "disk 1 6 2 24 2 0\nread 1\n", "ok\n0,0,0\n")
	texts := longTexts()
	first := make([]string, len(texts))
	for i, text := range texts {
		first[i] = run.Run(text)
	}
	again := make([]string, len(texts))
	var group sync.WaitGroup
	for i, text := range texts {
		group.Go(func() { again[i] = run.Run(text) })
	}
	group.Wait()
	for i, text := range texts {
		if first[i] != again[i] {
			t.Errorf("Run of %s: %s, then %s", short(text), short(first[i]), short(again[i]))
		}
	}
}
