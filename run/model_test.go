package run_test

import (
	"fmt"
	"math/rand"
	"regexp"
	"strconv"
	"strings"
	"testing"

	"granary/api"
	"granary/code"
	"granary/frame"
	"granary/pick"
	"granary/plain"
	"granary/record"
	"granary/run"
	"granary/sweep"
)

// mostText is the number as the chapter has it.
const mostText = 8000

// form is a line as the chapter's table writes it.
type form string

// forms are all lines of the table.
func forms() []form {
	return []form{
		"crc BYTES", "protect BYTES", "mend BYTES BYTES", "pack NUMBER NUMBER NUMBER NUMBER BYTES", "batch NUMBERS",
		"plan NUMBER NUMBER NUMBERS", "turns NUMBERS NUMBERS NUMBER", "disk NUMBER NUMBER NUMBER NUMBER NUMBER NUMBER",
		"write NUMBER BYTES", "trim NUMBER", "read NUMBER", "keep",
	}
}

// name is the form's first word, by which it is asked for.
func (f form) name() string {
	name, _, _ := strings.Cut(string(f), " ")
	return name
}

// patterns tell of each form which lines have it.
func patterns() map[string]*regexp.Regexp {
	number := "(?:0|[1-9][0-9]{0,8})"
	byteOnly := "(?:[0-9]|[1-9][0-9]|1[0-9][0-9]|2[0-4][0-9]|25[0-5])"
	list := func(of string) string { return "((?:" + of + ",)*" + of + "|-)" }
	replacer := strings.NewReplacer("NUMBERS", list(number), "NUMBER", "("+number+")", "BYTES", list(byteOnly))
	all := map[string]*regexp.Regexp{}
	for _, f := range forms() {
		all[f.name()] = regexp.MustCompile(`\A` + replacer.Replace(string(f)) + `\z`)
	}
	return all
}

var linePatterns = patterns()

// model is what the chapter says of a text's lines. A disk is a list of blocks.
type model struct {
	size   int      // 0 if there is no disk
	blocks [][]byte // of the disk
}

// likeRun is what the chapter says of Run.
func likeRun(text string) string {
	if len(text) > mostText {
		return "too long\n"
	}
	pieces := strings.Split(text, "\n")
	if pieces[len(pieces)-1] == "" {
		pieces = pieces[:len(pieces)-1]
	}
	var m model
	answers := ""
	for _, line := range pieces {
		answers += m.answer(line) + "\n"
	}
	return answers
}

// answer finds the form that a line has.
func (m *model) answer(line string) string {
	for name, pattern := range linePatterns {
		if found := pattern.FindStringSubmatch(line); found != nil {
			return m.do(name, found[1:])
		}
	}
	return "bad"
}

func (m *model) do(name string, words []string) string {
	switch name {
	case "write", "trim", "read", "keep":
		if m.size == 0 {
			return "none"
		}
		return m.onDisk(name, words)
	case "disk":
		return m.newDisk(ints(words))
	}
	return calls(name, words)
}

// ints reads words that are known to be numbers.
func ints(words []string) []int {
	numbers := make([]int, 0, len(words))
	for _, word := range words {
		n, err := strconv.Atoi(word)
		if err != nil {
			panic(err)
		}
		numbers = append(numbers, n)
	}
	return numbers
}

// listed reads a word that is known to be a list.
func listed(word string) []int {
	if word == "-" {
		return nil
	}
	return ints(strings.Split(word, ","))
}

func bytesOf(word string) []byte {
	var data []byte
	for _, n := range listed(word) {
		data = append(data, byte(n))
	}
	return data
}

// dashed writes a list as it is told: %v puts blanks between, and brackets around.
func dashed(list any) string {
	told := strings.ReplaceAll(strings.Trim(fmt.Sprintf("%v", list), "[]"), " ", ",")
	if told == "" {
		return "-"
	}
	return told
}

// either tells an error's name, or what was answered, if there is none.
func either(answer string, err error) string {
	if e := plain.Told(err); e != api.OK {
		return e.Error()
	}
	return answer
}

// calls are the lines that need no disk.
func calls(name string, words []string) string {
	switch name {
	case "crc":
		return fmt.Sprint(code.Crc(bytesOf(words[0])))
	case "protect":
		check, err := code.Protect(bytesOf(words[0]))
		return either(dashed(check), err)
	case "mend":
		data, turned, err := code.Mend(bytesOf(words[0]), bytesOf(words[1]))
		return either(fmt.Sprint(dashed(data), " ", turned), err)
	case "pack":
		n := ints(words[:4])
		page, err := frame.Pack(n[0], api.Frame{Kind: n[1], Lba: n[2], Seq: n[3], Data: bytesOf(words[4])})
		return either(dashed(page), err)
	case "batch":
		return batch(listed(words[0]))
	case "plan":
		n := ints(words[:2])
		var blocks []sweep.Block
		for _, live := range listed(words[2]) {
			blocks = append(blocks, sweep.Block{Used: true, Live: live, Wear: 0})
		}
		plan, err := sweep.Plan(blocks, n[0], n[1])
		return either(dashed(plan), err)
	}
	return turns(listed(words[0]), listed(words[1]), ints(words[2:])[0])
}

func batch(numbers []int) string {
	var entries []api.Entry
	for len(numbers) > 2 {
		entries = append(entries, api.Entry{Kind: numbers[0], A: numbers[1], B: numbers[2]})
		numbers = numbers[3:]
	}
	if len(numbers) > 0 {
		return "ErrShape"
	}
	data, err := record.Write([][]api.Entry{entries})
	return either(dashed(data), err)
}

func turns(weights, waits []int, most int) string {
	if most > 100 {
		return "ErrRange"
	}
	p, err := pick.New(weights)
	if err != nil {
		return either("", err)
	}
	var queues []int
	for i := 0; i < most; i++ {
		queue, err := p.Next(waits)
		if err != nil {
			return either("", err)
		}
		queues = append(queues, queue)
	}
	return dashed(queues)
}

// newDisk has the errors of chapters 2 and 11.
func (m *model) newDisk(n []int) string {
	dies, blocks, pages, bytes, lbas, spare := n[0], n[1], n[2], n[3], n[4], n[5]
	switch {
	case dies < 1 || dies > 4 || blocks < 1 || blocks > 16 || pages < 1 || pages > 16 || bytes < 8 || bytes > 256 || bytes%8 != 0:
		return "ErrRange"
	case bytes < 24:
		return "ErrShape"
	case lbas < 1 || lbas > 256:
		return "ErrRange"
	case lbas > (dies*blocks-spare-4)*pages:
		return "ErrFull"
	}
	m.size, m.blocks = bytes-21, nil
	for range lbas {
		m.blocks = append(m.blocks, make([]byte, m.size))
	}
	return "ok"
}

// onDisk are the lines that need a disk, which there is.
func (m *model) onDisk(name string, words []string) string {
	if name == "keep" {
		return "ok"
	}
	lba := ints(words[:1])[0]
	if lba >= len(m.blocks) {
		return "ErrRange"
	}
	switch name {
	case "write":
		data := bytesOf(words[1])
		if len(data) != m.size {
			return "ErrShape"
		}
		m.blocks[lba] = data
	case "trim":
		m.blocks[lba] = make([]byte, m.size)
	case "read":
		return dashed(m.blocks[lba])
	}
	return "ok"
}

// wantLike holds Run against the model.
func wantLike(t *testing.T, text string) {
	t.Helper()
	wantRun(t, text, likeRun(text))
}

// wantRun asks for the answers to a text.
func wantRun(t *testing.T, text, want string) {
	t.Helper()
	if got := run.Run(text); got != want {
		t.Fatalf("Run of %s: got %s, want %s", short(text), short(got), short(want))
	}
}

// short is a text as it can be shown.
func short(text string) string {
	if len(text) > 1000 {
		return fmt.Sprintf("%q .. %q (%d bytes)", text[:500], text[len(text)-400:], len(text))
	}
	return strconv.Quote(text)
}

// pickOf takes one at random.
func pickOf[T any](r *rand.Rand, of ...T) T {
	return of[r.Intn(len(of))]
}

// someNumbers is a list that is told.
func someNumbers(r *rand.Rand, count, below int) string {
	var list []int
	for range count {
		list = append(list, r.Intn(below))
	}
	return dashed(list)
}

// someLine is a line that is often done well, of whatever kind.
func someLine(r *rand.Rand) string {
	switch name := pickOf(r, forms()...).name(); name {
	case "crc":
		return "crc " + someNumbers(r, r.Intn(9), 256)
	case "protect":
		return "protect " + someNumbers(r, pickOf(r, 0, 8, 16, 24, 7), 256)
	case "mend":
		return someMend(r)
	case "pack":
		n := pickOf(r, 23, 24, 32, 40, 4097)
		return fmt.Sprint("pack ", n, " ", r.Intn(5), " ", r.Intn(1e9), " ", r.Intn(1e9), " ", someNumbers(r, max(0, n-21-pickOf(r, -1, 0, 1, 5))%20, 256))
	case "batch":
		return "batch " + someNumbers(r, pickOf(r, 0, 1, 2, 3, 6, 9), pickOf(r, 10, 300, 1_000_000_000))
	case "plan":
		pages := 1 + r.Intn(5)
		return fmt.Sprint("plan ", pages, " ", r.Intn(10), " ", someNumbers(r, r.Intn(6), pages+1+r.Intn(2)))
	case "turns":
		queues := 1 + r.Intn(4)
		return fmt.Sprint("turns ", someNumbers(r, queues, 17), " ", someNumbers(r, queues+r.Intn(9)/8, 3), " ", r.Intn(12))
	case "disk":
		return fmt.Sprint("disk ", 1+r.Intn(2), " ", 4+r.Intn(5), " ", 1+r.Intn(3), " ", pickOf(r, 16, 24, 24, 24, 32), " ", r.Intn(6), " ", r.Intn(3))
	case "write":
		return fmt.Sprint("write ", r.Intn(6), " ", someNumbers(r, pickOf(r, 3, 3, 3, 11, 2, 0), 256))
	case "keep":
		return "keep"
	default: // trim, read
		return fmt.Sprint(name, " ", r.Intn(6))
	}
}

// someMend asks for words of which some bits are turned.
func someMend(r *rand.Rand) string {
	words := r.Intn(3)
	data := bytesOf(someNumbers(r, 8*words, 256))
	check, err := code.Protect(data)
	if err != nil {
		panic(err)
	}
	for range r.Intn(3) {
		if words > 0 {
			all := pickOf(r, data, data, check)
			all[r.Intn(len(all))] ^= 1 << r.Intn(8)
		}
	}
	return "mend " + dashed(data) + " " + dashed(check)
}

// wrong changes something of a line, so that it mostly can be read no more.
func wrong(r *rand.Rand, line string) string {
	at := r.Intn(len(line) + 1)
	put := pickOf(r, " ", ",", "-", "0", "00", "7", "256", "999999999", "\r", "\t", "\x00", "\xff", "\xc3", "é", "\n", "+", "x", " 0", " -")
	switch r.Intn(4) {
	case 0:
		return line[:at] + put + line[at:]
	case 1:
		return line[:at]
	case 2:
		return line[at:]
	}
	words := strings.Split(line, " ")
	words[r.Intn(len(words))] = pickOf(r, put, "", words[0], strings.ToUpper(words[0]))
	return strings.Join(words, " ")
}

// someText is lines with a disk, mostly.
func someText(r *rand.Rand, lines int) string {
	text := pickOf(r, "", "disk 1 6 2 24 2 0\n", "disk 1 7 2 24 4 1\n", "disk 2 4 3 32 5 1\n")
	for range lines {
		line := someLine(r)
		if r.Intn(5) == 0 {
			line = wrong(r, line)
		}
		text += line + "\n"
	}
	return pickOf(r, text, text[:len(text)-1])
}

func TestX1LikeTheModelAtRandom(t *testing.T) {
	r := rand.New(rand.NewSource(1))
	told := map[string]int{}
	for range 3000 {
		text := someText(r, 1+r.Intn(40))
		wantLike(t, text)
		for _, answer := range strings.Split(likeRun(text), "\n") {
			told[answer]++
		}
	}
	for _, answer := range []string{"ok", "bad", "none", "-", "ErrRange", "ErrShape", "ErrFull", "ErrNone", "ErrLost"} {
		if told[answer] < 20 {
			t.Errorf("%s was told %d times: too seldom to be asked for", answer, told[answer])
		}
	}
}

// Each list of up to four of these lines: a disk is there or not, and blocks of it are written or not.
func TestX1AllShortTexts(t *testing.T) {
	lines := []string{
		"disk 1 6 2 24 2 0", "disk 1 5 1 32 1 0", "disk 1 5 1 24 2 0", "write 0 1,2,3", "write 1 4,5,6", "write 0 1,2,3,4,5,6,7,8,9,10,11",
		"trim 0", "read 0", "read 1", "keep", "write 0 1,2,3,", "",
	}
	texts := []string{""}
	for range 4 {
		var longer []string
		for _, text := range texts {
			for _, line := range lines {
				longer = append(longer, text+line+"\n")
			}
		}
		for _, text := range longer {
			wantLike(t, text)
		}
		texts = longer
	}
}

func FuzzRun(f *testing.F) {
	r := rand.New(rand.NewSource(2))
	for range 20 {
		f.Add(someText(r, 8))
	}
	f.Add(tableText())
	f.Add(strings.Repeat("\n", mostText))
	f.Add(strings.Repeat("\n", mostText+1))
	f.Fuzz(func(t *testing.T, text string) {
		wantLike(t, text)
	})
}
