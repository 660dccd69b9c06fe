package run_test

import (
	"fmt"
	"hash/crc32"
	"strings"
	"testing"
)

// sumOf tells the four bytes of the usual sum, the lowest first.
func sumOf(data []byte) []byte {
	sum := crc32.ChecksumIEEE(data)
	return []byte{byte(sum), byte(sum >> 8), byte(sum >> 16), byte(sum >> 24)}
}

// page tells a page of 24 bytes with one byte of data, or none.
func page(kind int, lba, seq uint32, data ...byte) string {
	p := make([]byte, 24)
	p[0], p[1], p[14], p[23] = 165, byte(kind), byte(len(data)), 90
	for i := range 4 {
		p[2+i], p[6+i] = byte(lba>>(8*i)), byte(seq>>(8*i))
	}
	copy(p[20:], data)
	copy(p[16:], sumOf(p))
	return dashed(p)
}

// batchOf tells a batch whose bytes ahead of the sum are these.
func batchOf(data ...byte) string {
	return dashed(append(data, sumOf(data)...))
}

// of gives a list of so many numbers that are all the same.
func of(count int, number string) string {
	if count == 0 {
		return "-"
	}
	return strings.Repeat(","+number, count)[1:]
}

// ends gives the begin and the end of an answer, which is long.
func ends(t *testing.T, line, begin, end string, numbers int) {
	t.Helper()
	wantLike(t, line)
	answer := likeRun(line)
	if !strings.HasPrefix(answer, begin) || !strings.HasSuffix(answer, end+"\n") || strings.Count(answer, ",") != numbers-1 {
		t.Errorf("%s is answered %s", short(line), short(answer))
	}
}

// kinds are the lines that need no disk, each kind done well and with all errors that a text can ask for.
func kinds() map[string][]asked {
	zeros := of(8, "0")
	return map[string][]asked{
		"crc": {
			{"crc -", "0"}, {"crc 0", "3523407757"}, {"crc 255", "4278190080"}, {"crc 49", "2212294583"},
			{"crc 49,50,51,52,53,54,55,56,57", "3421780262"}, {"crc 0,0", "1104745215"}, {"crc 255,255,255,255", "4294967295"},
		},
		"protect": {
			{"protect -", "-"}, {"protect 1,0,0,0,0,0,0,0", "131"}, {"protect 0,0,0,0,0,0,0,128", "199"}, {"protect " + zeros, "0"},
			{"protect 1,0,0,0,0,0,0,0,0,0,0,0,0,0,0,128", "131,199"}, {"protect 0,0,0,0,0,0,0,128,1,0,0,0,0,0,0,0," + zeros, "199,131,0"},
			{"protect 1", "ErrShape"}, {"protect " + of(7, "0"), "ErrShape"}, {"protect " + of(9, "0"), "ErrShape"}, {"protect " + of(3991, "0"), "ErrShape"},
			{"protect " + of(3984, "0"), of(498, "0")},
		},
		"mend": {
			{"mend - -", "- 0"}, {"mend 1,0,0,0,0,0,0,0 131", "1,0,0,0,0,0,0,0 0"}, {"mend 0,0,0,0,0,0,0,0 131", "1,0,0,0,0,0,0,0 1"},
			{"mend 1,0,0,0,0,0,0,0 130", "1,0,0,0,0,0,0,0 1"}, {"mend 1,0,0,0,0,0,0,0 3", "1,0,0,0,0,0,0,0 1"},
			{"mend 0,0,0,0,0,0,0,0,0,0,0,0,0,0,0,128 131,198", "1,0,0,0,0,0,0,0,0,0,0,0,0,0,0,128 2"},
			{"mend " + zeros + "," + zeros + " 1,0", zeros + "," + zeros + " 1"},
			{"mend 2,0,0,0,0,0,0,0 131", "ErrLost"}, {"mend 1,0,0,0,0,0,0,0 128", "ErrLost"}, {"mend " + zeros + " 3", "ErrLost"},
			{"mend " + zeros + "," + zeros + " 1,3", "ErrLost"},
			{"mend 1 -", "ErrShape"}, {"mend 1 0", "ErrShape"}, {"mend " + zeros + " -", "ErrShape"}, {"mend - 0", "ErrShape"},
			{"mend " + zeros + " 0,0", "ErrShape"}, {"mend " + of(7, "0") + " 0", "ErrShape"}, {"mend " + zeros + " 3,0", "ErrShape"},
		},
		"pack": {
			{"pack 24 1 7 9 5", page(1, 7, 9, 5)}, {"pack 24 2 0 0 -", page(2, 0, 0)}, {"pack 24 3 258 513 255", page(3, 258, 513, 255)},
			{"pack 24 1 999999999 999999998 1,2,3", page(1, 999999999, 999999998, 1, 2, 3)},
			{"pack 24 3 0 1 0,0", page(3, 0, 1, 0, 0)},
			{"pack 23 1 0 0 -", "ErrRange"}, {"pack 4097 1 0 0 -", "ErrRange"}, {"pack 0 1 0 0 -", "ErrRange"}, {"pack 999999999 1 0 0 -", "ErrRange"},
			{"pack 24 0 0 0 -", "ErrRange"}, {"pack 24 4 0 0 -", "ErrRange"}, {"pack 24 257 0 0 -", "ErrRange"},
			{"pack 24 1 0 0 1,2,3,4", "ErrFull"}, {"pack 25 1 0 0 1,2,3,4,5", "ErrFull"}, {"pack 24 4 0 0 1,2,3,4", "ErrRange"}, {"pack 23 1 0 0 1,2,3", "ErrRange"},
		},
		"batch": {
			{"batch -", batchOf(0)}, {"batch 1,2,300", batchOf(1, 1, 2, 172, 2)}, {"batch 0,0,0", batchOf(1, 0, 0, 0)},
			{"batch 1,2,3,4,5,6", batchOf(2, 1, 2, 3, 4, 5, 6)}, {"batch 127,128,16384", batchOf(1, 127, 128, 1, 128, 128, 1)},
			{"batch 999999999,0,1", batchOf(1, 255, 147, 235, 220, 3, 0, 1)},
			{"batch 1", "ErrShape"}, {"batch 1,2", "ErrShape"}, {"batch 1,2,3,4", "ErrShape"}, {"batch 1,2,3,4,5", "ErrShape"},
			{"batch " + of(3*64, "7"), batchOf(append([]byte{64}, bytesOf(of(3*64, "7"))...)...)},
			{"batch " + of(3*64+1, "7"), "ErrShape"}, {"batch " + of(3*64+2, "7"), "ErrShape"}, {"batch " + of(3*65, "7"), "ErrFull"}, {"batch " + of(3*65+1, "7"), "ErrShape"},
		},
		"plan": {
			{"plan 4 5 2,1,1", "1,2"}, {"plan 4 0 -", "-"}, {"plan 4 0 1,2", "-"}, {"plan 4 1 2,1,1", "1"}, {"plan 4 3 2,1,1", "1"}, {"plan 4 4 2,1,1", "1,2"},
			{"plan 4 7 2,1,1", "1,2,0"}, {"plan 4 8 2,1,1", "1,2,0"}, {"plan 4 4 0", "0"}, {"plan 1 1 0", "0"}, {"plan 1 2 1,0,1,0", "1,3"},
			{"plan 4096 4096 4095,0", "1"}, {"plan 2 2 1,1,1", "0,1"}, {"plan 1 64 " + of(64, "0"), likeCounted(64)},
			{"plan 4 9 2,1,1", "ErrNone"}, {"plan 4 1 -", "ErrNone"}, {"plan 4 1 4", "ErrNone"}, {"plan 1 999999999 0", "ErrNone"},
			{"plan 0 0 -", "ErrRange"}, {"plan 0 0 0", "ErrRange"}, {"plan 4097 0 -", "ErrRange"}, {"plan 4 1 5", "ErrRange"}, {"plan 4 0 0,5", "ErrRange"}, {"plan 4 9 5", "ErrRange"},
			{"plan 1 0 " + of(65, "0"), "ErrFull"}, {"plan 0 0 " + of(65, "0"), "ErrFull"}, {"plan 1 999 " + of(65, "2"), "ErrFull"},
		},
		"turns": {
			{"turns 2,1 1,1 6", "0,0,1,0,0,1"}, {"turns 2,1 0,1 3", "1,1,1"}, {"turns 2,1 999999999,0 3", "0,0,0"}, {"turns 1 1 1", "0"}, {"turns 16 1 2", "0,0"},
			{"turns 1,1,1,1,1,1,1,1 1,0,1,0,1,0,1,1 6", "0,2,4,6,7,0"}, {"turns 3,1,2 1,1,1 9", "0,0,0,1,2,2,0,0,0"}, {"turns 1,2 1,1 6", "0,1,1,0,1,1"},
			{"turns 2,1 1,1 0", "-"}, {"turns 1 1 99", of(99, "0")}, {"turns 1 1 100", of(100, "0")},
			{"turns 1 1 101", "ErrRange"}, {"turns 1 1 999999999", "ErrRange"}, {"turns 1 1 256", "ErrRange"},
			{"turns - - 1", "ErrShape"}, {"turns - - 0", "ErrShape"}, {"turns - 1 1", "ErrShape"},
			{"turns " + of(9, "1") + " " + of(9, "1") + " 1", "ErrFull"}, {"turns " + of(9, "1") + " - 0", "ErrFull"}, {"turns " + of(9, "0") + " - 0", "ErrFull"},
			{"turns 0 1 1", "ErrRange"}, {"turns 17 1 1", "ErrRange"}, {"turns 17 1 0", "ErrRange"}, {"turns 1,0 - 0", "ErrRange"}, {"turns 1,17 1,1 1", "ErrRange"},
			{"turns 1 - 1", "ErrShape"}, {"turns 1 1,1 1", "ErrShape"}, {"turns 1,1 1 100", "ErrShape"}, {"turns 1 - 0", "-"}, {"turns 1 1,1 0", "-"},
			{"turns 1 0 1", "ErrNone"}, {"turns 1,1 0,0 100", "ErrNone"}, {"turns 1,1 0,0 0", "-"},
			// ErrRange of 101 turns comes ahead of all: ahead of ErrShape, ErrFull, and ErrNone.
			{"turns - - 101", "ErrRange"}, {"turns " + of(9, "1") + " - 101", "ErrRange"}, {"turns 1 - 101", "ErrRange"}, {"turns 1 0 101", "ErrRange"},
		},
	}
}

// likeCounted tells the numbers from 0 on.
func likeCounted(n int) string {
	var list []int
	for i := range n {
		list = append(list, i)
	}
	return dashed(list)
}

func TestX1EachKind(t *testing.T) {
	for name, all := range kinds() {
		t.Run(name, func(t *testing.T) {
			wantEach(t, all)
			if text, _ := whole(all); len(text) <= mostText {
				wantAll(t, all)
			}
			for _, a := range all {
				wantLike(t, a.line)
			}
		})
	}
}

func TestX1LongAnswers(t *testing.T) {
	ends(t, "pack 4096 1 7 9 5", "165,1,7,0,0,0,9,0,", ",0,0,90", 4096)
	ends(t, "pack 4000 1 7 9 "+of(3979, "8"), "165,1,7,0,0,0,9,0,", ",8,8,90", 4000)
	ends(t, "mend "+of(3528, "0")+" "+of(441, "1"), "0,0,", ",0 441", 3528)
	wantLike(t, "pack 4000 1 7 9 "+of(3980, "8"))
	wantLike(t, strings.Repeat("pack 4096 1 0 0 -\n", 444))
	wantLike(t, strings.Repeat("turns 1 1 100\n", 571))
}

// goodLines are lines of each form that are not bad.
func goodLines() []string {
	return []string{
		"crc 1", "protect 0,0,0,0,0,0,0,0", "mend 0,0,0,0,0,0,0,0 1", "pack 24 1 2 3 4", "batch 1,2,3", "plan 4 1 2,1",
		"turns 2,1 1,1 3", "disk 1 6 2 24 2 0", "write 1 1,2,3", "trim 1", "read 1", "keep",
	}
}

// madeFirst is what stands ahead of a line, once with a disk and once without.
func madeFirst() []string {
	return []string{"", "disk 1 6 2 24 2 0\n"}
}

// wantBad asks that a line is bad, with a disk and without, and that it does nothing.
func wantBad(t *testing.T, line string) {
	t.Helper()
	wantRun(t, line+"\n", "bad\n")
	wantRun(t, line+"\nread 0", "bad\nnone\n")
	wantRun(t, "disk 1 6 2 24 2 0\nwrite 1 7,8,9\n"+line+"\nread 1\nread 2\n", "ok\nok\nbad\n7,8,9\nErrRange\n")
}

// wantNotBad asks that a line can be read.
func wantNotBad(t *testing.T, line string) {
	t.Helper()
	for _, first := range madeFirst() {
		text := first + line
		wantLike(t, text)
		if answer := likeRun(text); strings.HasSuffix("\n"+answer, "\nbad\n") {
			t.Errorf("%s is bad", short(text))
		}
	}
}

// goodLines and forms go together, one by one.
func TestGoodLinesAreNotBad(t *testing.T) {
	for i, line := range goodLines() {
		wantNotBad(t, line)
		if name, f := strings.Split(line, " ")[0], forms()[i]; name != f.name() {
			t.Errorf("%s is no %s", line, f)
		}
	}
}

func TestX1Blanks(t *testing.T) {
	for _, line := range goodLines() {
		wantBad(t, " "+line)
		wantBad(t, line+" ")
		wantBad(t, " "+line+" ")
		wantBad(t, line+"\t")
		wantBad(t, line+"\r")
		wantBad(t, line+",")
		for at, b := range line {
			if b == ' ' {
				wantBad(t, line[:at]+" "+line[at:])
				wantBad(t, line[:at]+"\t"+line[at+1:])
				wantBad(t, line[:at]+line[at+1:])
				wantBad(t, line[:at]+"\u00a0"+line[at+1:])
			}
		}
		for at := range line {
			if at > 0 && line[at-1] == ',' {
				wantBad(t, line[:at]+" "+line[at:])
			}
		}
	}
}

func TestX1HowManyWords(t *testing.T) {
	for _, line := range goodLines() {
		words := strings.Split(line, " ")
		for n := range words {
			wantBad(t, strings.Join(words[:n], " "))
			if n > 0 {
				wantBad(t, strings.Join(words[:n], " ")+" ")
				wantBad(t, strings.Join(words[n:], " "))
			}
		}
		for _, more := range []string{"0", "-", "1,2", "x", "0 0", "- -", words[0], line} {
			wantBad(t, line+" "+more)
		}
	}
}

func TestX1WordsOfTheTable(t *testing.T) {
	for _, line := range goodLines() {
		name, rest, _ := strings.Cut(line, " ")
		var others []string
		for _, other := range []string{strings.ToUpper(name), strings.ToUpper(name[:1]) + name[1:], name[:len(name)-1] + strings.ToUpper(name[len(name)-1:]), name + "s", name + "\x00", name[1:], name[:len(name)-1], name + name, "x" + name, name + ":", "-" + name} {
			others = append(others, other, strings.TrimSuffix(other+" "+rest, " "))
		}
		for _, other := range others {
			wantBad(t, other)
		}
	}
	for _, word := range []string{"fly", "flush", "mount", "cut", "fails", "state", "size", "choose", "level", "open", "next", "newDisk", "help", "quit", "bad", "none", "ok", "-", "0", "", "#", "//", "\u0000", "disc", "ſ"} {
		for _, rest := range []string{"", " 1", " -", " 1 1", " 1 6 2 24 2 0"} {
			wantBad(t, word+rest)
		}
	}
}

// badNumbers are words that are no NUMBER, and no NUMBERS either.
func badNumbers() []string {
	return []string{
		"", "00", "01", "007", "000000001", "+1", "-1", "+0", "-0", "--", "1-", "+", "1000000000", "1234567890", "9999999999", "0000000000", "0000000001",
		"4294967296", "4294967297", "9223372036854775808", "18446744073709551616", "18446744073709551617", strings.Repeat("9", 100), strings.Repeat("1", 1000),
		"x", "1x", "x1", "1.0", ".1", "1e3", "0x1", "0b1", "0o1", "1_000", "1'0", "٣", "１", "1\u00a0", "1\x00", "\x001", "1\xff", "\xc3", "/", ":", "1/", "1:", "²", "nil",
	}
}

// badLists are words that are no NUMBERS, and no NUMBER either.
func badLists() []string {
	lists := []string{",", ",,", "1,", ",1", "1,,2", "1,2,", ",1,2", "-,1", "1,-", "-,-", "1,-,2", "1;2", "1.2", "[1]", "(1,2)", "1,2;", "1, ", "1,\t2"}
	for _, n := range badNumbers() {
		lists = append(lists, n, "1,"+n, n+",1", "1,"+n+",2")
	}
	return lists
}

// replaced puts a word into a line in place of another.
func replaced(line string, at int, word string) string {
	words := strings.Split(line, " ")
	words[at] = word
	return strings.Join(words, " ")
}

// eachWord goes through all words of the forms, but the first ones, with a line of that form.
func eachWord(t *testing.T, do func(line string, at int, kind string)) {
	t.Helper()
	for i, f := range forms() {
		for at, kind := range strings.Split(string(f), " ")[1:] {
			do(goodLines()[i], at+1, kind)
		}
	}
}

func TestX1WordsThatCannotBeRead(t *testing.T) {
	eachWord(t, func(line string, at int, kind string) {
		bad := badLists()
		switch kind {
		case "NUMBER":
			bad = append(bad, "-", "1,2", "0,0")
		case "BYTES":
			bad = append(bad, "256", "257", "511", "512", "1000", "65536", "999999999", "1,256", "256,1", "255,256", "0,0,999999999", "1,00", "255,256,255")
		}
		for _, word := range bad {
			wantBad(t, replaced(line, at, word))
		}
	})
}

func TestX1WordsThatCanBeRead(t *testing.T) {
	eachWord(t, func(line string, at int, kind string) {
		good := []string{"0", "1", "2", "9", "10", "19", "99", "100", "101", "199", "200", "249", "250", "255"}
		switch kind {
		case "NUMBER", "NUMBERS":
			good = append(good, "256", "1000", "4096", "65536", "123456789", "100000000", "900000000", "999999999")
		}
		if kind != "NUMBER" {
			good = append(good, "-", "1,2", "0,0", "0,255,0", "255,255,255,255", of(100, "10"), of(500, "255"))
		}
		if kind == "NUMBERS" {
			good = append(good, "999999999,0,999999999", "256,257,1000000", of(300, "123456789"))
		}
		for _, word := range good {
			wantNotBad(t, replaced(line, at, word))
		}
	})
}

// Each list of up to three of these pieces, as BYTES, as NUMBERS, and as a NUMBER.
func TestX1ShortWords(t *testing.T) {
	pieces := []string{"0", "1", "9", "25", "6", ",", "-", "+", " "}
	words := []string{""}
	for range 4 {
		var longer []string
		for _, word := range words {
			for _, piece := range pieces {
				longer = append(longer, word+piece)
			}
		}
		for _, word := range longer {
			wantLike(t, fmt.Sprintf("crc %s\nbatch %s\npack 24 1 %s 3 4\ndisk 1 6 2 24 2 0\nwrite %s 1,2,3\n", word, word, word, word))
		}
		words = longer
	}
}

// What is bad is told ahead of any error of what can be read beside it.
func TestX1BadAheadOfErrors(t *testing.T) {
	for _, line := range []string{
		"turns - - 1000000000", "turns 1 x 101", "turns x - 101", "turns - - 0101", "pack 23 0 0 0 256", "pack 0 1 2 x -", "plan 0 x 9", "plan 0 0 9,",
		"batch 1,x", "batch 1,2,", "mend 1 256", "mend 256 1", "protect 256", "protect 1,2,x", "disk 0 0 0 0 0 x", "disk 9 9 9 9 00 0", "disk x 0 0 0 0 0",
		"write 9 256", "write 9 1,2,3,x", "write 00 1", "trim 09", "read 1000000000", "read 2 2", "keep 9",
	} {
		wantBad(t, line)
	}
}
