package run_test

import (
	"fmt"
	"strings"
	"testing"
)

// small is the disk of the chapter's example.
const small = "disk 1 6 2 24 2 0"

func TestX1NoneWhereNoDiskIs(t *testing.T) {
	wantEach(t, []asked{
		{"write 0 1,2,3", "none"}, {"write 0 -", "none"}, {"write 999999999 1", "none"}, {"trim 0", "none"}, {"trim 999999999", "none"},
		{"read 0", "none"}, {"read 999999999", "none"}, {"keep", "none"},
	})
	wantAll(t, []asked{
		{"keep", "none"}, {"trim 0", "none"}, {"disk 1 6 2 24 0 0", "ErrRange"}, {"keep", "none"}, {"write 0 1,2,3", "none"}, {"disk 1 6 2 24 2", "bad"}, {"read 0", "none"},
		{small, "ok"}, {"keep", "ok"}, {"read 0", "0,0,0"},
	})
}

// A line that cannot be read is bad, also where there is no disk.
func TestX1BadAheadOfNone(t *testing.T) {
	for _, line := range []string{
		"write", "write 0", "write 0 1,2,3 4", "write 0 256", "write 00 1", "write - 1", "write 0 1,,2", "write  1,2,3", "write 0 ", "write 0,1 1",
		"trim", "trim x", "trim 0 0", "trim -", "trim 01", "trim 1000000000", "trim ", "read", "read -1", "read 0 0", "read -", "read ", "read 0,1", "keep 0", "keep ", "keep -", " keep",
	} {
		wantRun(t, line, "bad\n")
		wantRun(t, small+"\n"+line, "ok\nbad\n")
	}
}

func TestX1Disk(t *testing.T) {
	for line, want := range map[string]string{
		small:                     "ok",
		"disk 1 5 1 24 1 0":       "ok",
		"disk 4 16 16 256 256 44": "ok",
		"disk 4 16 16 256 256 45": "ErrFull",
		"disk 1 1 1 24 1 0":       "ErrFull",
		"disk 1 5 1 24 2 0":       "ErrFull",
		"disk 1 5 1 24 1 1":       "ErrFull",
		"disk 1 6 2 24 2 1":       "ok",
		"disk 1 6 2 24 3 1":       "ErrFull",
		"disk 1 6 2 24 1 2":       "ErrFull",
		"disk 1 6 2 24 4 0":       "ok",
		"disk 1 6 2 24 5 0":       "ErrFull",
		"disk 0 6 2 24 2 0":       "ErrRange",
		"disk 5 6 2 24 2 0":       "ErrRange",
		"disk 1 0 2 24 2 0":       "ErrRange",
		"disk 1 17 2 24 2 0":      "ErrRange",
		"disk 1 6 0 24 2 0":       "ErrRange",
		"disk 1 6 17 24 2 0":      "ErrRange",
		"disk 1 6 2 0 2 0":        "ErrRange",
		"disk 1 6 2 25 2 0":       "ErrRange",
		"disk 1 6 2 264 2 0":      "ErrRange",
		"disk 1 6 2 8 2 0":        "ErrShape",
		"disk 1 6 2 16 2 0":       "ErrShape",
		"disk 1 6 2 16 0 0":       "ErrShape",
		"disk 1 6 2 24 0 0":       "ErrRange",
		"disk 4 16 16 24 257 0":   "ErrRange",
		"disk 1 1 1 24 257 0":     "ErrRange",
		"disk 1 6 2 24 2 9999999": "ErrFull",
		"disk 999999999 999999999 999999999 999999999 999999999 999999999": "ErrRange",
		"disk 2 3 2 24 2 0": "ok",
		"disk 0 0 0 0 0 0":  "ErrRange",
	} {
		wantRun(t, line, want+"\n")
		wantLike(t, line)
	}
}

// Each of the six numbers goes where it belongs: two disks that would be the same if two were changed for one another are told apart.
func TestX1DiskNumbersInOrder(t *testing.T) {
	for _, bytes := range []int{24, 32, 256} {
		for _, line := range []string{"disk 1 7 3 %d 9 0", "disk 2 4 3 %d 12 0", "disk 4 2 16 %d 5 3", "disk 1 16 2 %d 3 1"} {
			text := fmt.Sprintf(line+"\nread 0\nread 2\nread 3\nread 4\nread 5\nread 8\nread 9\nread 11\nread 12\n", bytes)
			wantLike(t, text)
			if size := strings.Count(strings.Split(likeRun(text), "\n")[1], ",") + 1; size != bytes-21 {
				t.Errorf("%s: a block of %d bytes", short(text), size)
			}
		}
	}
	for dies := range 6 {
		for blocks := range 18 {
			for _, pages := range []int{0, 1, 2, 16, 17} {
				for _, lbas := range []int{0, 1, 2, 60, 256} {
					wantLike(t, fmt.Sprintf("disk %d %d %d 24 %d 0\ndisk %d %d %d 24 %d 3\nread %d\nread %d", dies, blocks, pages, lbas, dies, blocks, pages, lbas, max(lbas-1, 0), lbas))
				}
			}
		}
	}
}

func TestX1DiskLines(t *testing.T) {
	wantAll(t, []asked{
		{small, "ok"},
		{"read 0", "0,0,0"}, {"read 1", "0,0,0"}, {"read 2", "ErrRange"}, {"read 999999999", "ErrRange"}, {"read 256", "ErrRange"},
		{"write 0 1,2,3", "ok"}, {"read 0", "1,2,3"}, {"read 1", "0,0,0"},
		{"write 1 255,0,128", "ok"}, {"read 1", "255,0,128"}, {"read 0", "1,2,3"},
		{"write 2 1,2,3", "ErrRange"}, {"write 2 -", "ErrRange"}, {"write 999999999 1,2,3", "ErrRange"}, {"write 256 1,2,3", "ErrRange"},
		{"write 0 -", "ErrShape"}, {"write 0 4", "ErrShape"}, {"write 0 4,5", "ErrShape"}, {"write 0 4,5,6,7", "ErrShape"}, {"write 0 " + of(256+3, "4"), "ErrShape"},
		{"read 0", "1,2,3"},
		{"trim 2", "ErrRange"}, {"trim 999999999", "ErrRange"}, {"read 0", "1,2,3"}, {"read 1", "255,0,128"},
		{"trim 0", "ok"}, {"read 0", "0,0,0"}, {"trim 0", "ok"}, {"read 0", "0,0,0"}, {"read 1", "255,0,128"},
		{"keep", "ok"}, {"read 0", "0,0,0"}, {"read 1", "255,0,128"},
		{"write 0 0,0,0", "ok"}, {"write 1 9,9,9", "ok"}, {"keep", "ok"}, {"read 0", "0,0,0"}, {"read 1", "9,9,9"},
		{"trim 1", "ok"}, {"read 1", "0,0,0"},
	})
}

// What stands in the blocks is told whatever lines of other kinds stand between.
func TestX1OtherLinesBetween(t *testing.T) {
	for _, kind := range kinds() {
		all := []asked{{small, "ok"}, {"write 1 7,8,9", "ok"}}
		for _, a := range kind {
			if len(a.line) < 500 {
				all = append(all, a, asked{"read 1", "7,8,9"})
			}
		}
		wantAll(t, append(all, asked{"keep", "ok"}, asked{"read 1", "7,8,9"}, asked{"read 0", "0,0,0"}))
	}
}

func TestX1DiskBehindAnother(t *testing.T) {
	wantAll(t, []asked{
		{small, "ok"}, {"write 0 1,2,3", "ok"}, {"write 1 4,5,6", "ok"}, {"keep", "ok"},
		// A disk that is made anew is a new one, also if it is like the one ahead of it.
		{small, "ok"}, {"read 0", "0,0,0"}, {"read 1", "0,0,0"}, {"write 1 7,8,9", "ok"}, {"keep", "ok"}, {"read 1", "7,8,9"},
		{"disk 1 7 2 32 3 0", "ok"}, {"read 2", of(11, "0")}, {"write 2 7,8,9", "ErrShape"}, {"write 2 " + of(11, "5"), "ok"}, {"keep", "ok"}, {"read 2", of(11, "5")}, {"read 3", "ErrRange"},
		{"disk 1 5 1 24 1 0", "ok"}, {"read 2", "ErrRange"}, {"read 1", "ErrRange"}, {"read 0", "0,0,0"}, {"keep", "ok"}, {"read 0", "0,0,0"},
	})
}

func TestX1DiskThatCannotBeMade(t *testing.T) {
	for line, want := range map[string]string{
		"disk 0 6 2 24 2 0": "ErrRange", "disk 1 6 2 16 2 0": "ErrShape", "disk 1 6 2 24 0 0": "ErrRange", "disk 1 6 2 24 257 0": "ErrRange", "disk 1 6 2 24 5 0": "ErrFull",
		"disk 1 6 2 24 2 99": "ErrFull", "disk 1 6 2 24 2 00": "bad", "disk 1 6 2 24 2": "bad", "disk": "bad", "disk 1 6 2 24 2 0 0": "bad", "disk 1 6 2 24 2 -": "bad", "disk 1 6 2 24,24 2 0": "bad",
	} {
		wantAll(t, []asked{
			{line, want}, {"read 0", "none"}, {"keep", "none"},
			{small, "ok"}, {"write 1 4,5,6", "ok"}, {line, want}, {"read 1", "4,5,6"}, {"read 2", "ErrRange"}, {"write 0 1,2,3", "ok"}, {"keep", "ok"},
			{line, want}, {line, want}, {"read 0", "1,2,3"}, {"read 1", "4,5,6"}, {"trim 1", "ok"}, {line, want}, {"read 1", "0,0,0"},
		})
	}
}

func TestX1Keep(t *testing.T) {
	wantAll(t, []asked{
		{small, "ok"}, {"keep", "ok"}, {"read 0", "0,0,0"}, {"write 0 1,2,3", "ok"}, {"keep", "ok"}, {"read 0", "1,2,3"}, {"read 1", "0,0,0"},
	})
	wantAll(t, []asked{
		{small, "ok"}, {"write 0 1,2,3", "ok"}, {"trim 0", "ok"}, {"write 1 1,2,3", "ok"}, {"write 1 4,5,6", "ok"}, {"keep", "ok"},
		{"read 0", "0,0,0"}, {"read 1", "4,5,6"}, {"trim 1", "ok"}, {"write 0 7,8,9", "ok"}, {"keep", "ok"}, {"read 0", "7,8,9"}, {"read 1", "0,0,0"},
	})
}

// fullDisk is a disk with as many lbas as it may have, and its lines.
type fullDisk struct {
	line        string
	pages, lbas int
}

func fullDisks() []fullDisk {
	return []fullDisk{
		{"disk 1 5 1 24 1 0", 1, 1}, {"disk 1 6 1 24 2 0", 1, 2}, {"disk 1 6 1 24 1 1", 1, 1}, {"disk 1 6 2 24 4 0", 2, 4}, {"disk 2 3 2 24 2 1", 2, 2}, {"disk 1 5 3 24 3 0", 3, 3}, {"disk 1 6 4 24 8 0", 4, 8}, {"disk 3 2 8 24 16 0", 8, 16},
	}
}

// changes gives so many lines that write and trim all of a disk, and read it.
func changes(f fullDisk, lines int) []string {
	list := make([]string, lines)
	for i := range list {
		lba := i * 7 % f.lbas
		switch i % 5 {
		case 2:
			list[i] = fmt.Sprint("read ", i%f.lbas)
		case 4:
			list[i] = fmt.Sprint("trim ", lba)
		default:
			list[i] = fmt.Sprintf("write %d %d,%d,1", lba, i%256, i/256)
		}
	}
	return list
}

// A disk that is kept Pages times has room for all that is written, wherever it is kept, also many times at once.
func TestX1KeptPagesTimes(t *testing.T) {
	for _, f := range fullDisks() {
		for every := range 60 {
			lines := []string{f.line}
			kept := 0
			for i, line := range changes(f, 300) {
				for ; kept < f.pages && i >= every*(kept+1); kept++ {
					lines = append(lines, "keep")
				}
				lines = append(lines, line)
			}
			for ; kept < f.pages; kept++ {
				lines = append(lines, "keep")
			}
			for lba := range f.lbas {
				lines = append(lines, fmt.Sprint("read ", lba))
			}
			text := strings.Join(lines, "\n")
			if strings.Count(text, "keep") != f.pages {
				t.Fatalf("%s is not kept %d times", short(text), f.pages)
			}
			wantLike(t, text)
			if answers := likeRun(text); strings.Contains(answers, "Err") || strings.Count(answers, "\n") != len(lines) {
				t.Fatalf("%s is not done well", short(text))
			}
		}
	}
}

// Behind each place where a disk is kept it reads as ahead of it.
func TestX1KeptAnywhere(t *testing.T) {
	for _, f := range fullDisks() {
		list := changes(f, 60)
		for at := range len(list) + 1 {
			lines := append([]string{f.line}, list[:at]...)
			lines = append(lines, "keep")
			for lba := range f.lbas {
				lines = append(lines, fmt.Sprint("read ", lba))
			}
			wantLike(t, strings.Join(append(lines, list[at:]...), "\n"))
		}
	}
}
