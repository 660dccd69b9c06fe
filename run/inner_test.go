package run

import (
	"errors"
	"fmt"
	"strings"
	"testing"

	"granary/api"
)

// wantAnswer asks a session for the answer to a line.
func wantAnswer(t *testing.T, s *session, line, want string) {
	t.Helper()
	if got := s.answer(line); got != want {
		t.Errorf("%.60q: got %.60q, want %.60q", line, got, want)
	}
}

// zeros is a list of so many bytes 0.
func zeros(n int) string {
	return strings.Repeat(",0", n)[1:]
}

// No text has room for so many bytes, so these errors are asked of a line alone.
func TestX1MoreBytesThanATextHas(t *testing.T) {
	var s session
	wantAnswer(t, &s, "protect "+zeros(4096), zeros(512))
	wantAnswer(t, &s, "protect "+zeros(4104), "ErrFull")
	wantAnswer(t, &s, "protect "+zeros(4097), "ErrShape")
	wantAnswer(t, &s, "mend "+zeros(4096)+" "+zeros(512), zeros(4096)+" 0")
	wantAnswer(t, &s, "mend "+zeros(4104)+" "+zeros(513), "ErrFull")
	wantAnswer(t, &s, "mend "+zeros(4104)+" -", "ErrFull")
}

// withDisk is a session with a disk, one of whose blocks is written.
func withDisk(t *testing.T) *session {
	t.Helper()
	s := &session{}
	wantAnswer(t, s, "disk 1 6 2 24 2 0", done)
	wantAnswer(t, s, "write 1 7,8,9", done)
	return s
}

// No line cuts a disk's power, so it is cut from inside. A keep whose Flush fails is told so, as it kept nothing.
func TestX1PowerIsLost(t *testing.T) {
	for _, line := range []string{"write 0 1,2,3", "trim 1", "keep"} {
		s := withDisk(t)
		s.disk.Cut(1)
		wantAnswer(t, s, line, "ErrPower")
		wantAnswer(t, s, "read 1", "ErrPower")
		wantAnswer(t, s, "write 9 1", "ErrPower")
		wantAnswer(t, s, "trim 1", "ErrPower")
		wantAnswer(t, s, "keep", "ErrPower")
		wantAnswer(t, s, "write 9 x", "bad")
		wantAnswer(t, s, "disk 1 6 2 24 2 0", done)
		wantAnswer(t, s, "read 1", "0,0,0")
	}
}

// No line lets an erase fail either.
func TestX1LatchedDisk(t *testing.T) {
	s := withDisk(t)
	s.disk.Fails(1)
	for range 100 {
		if told := s.answer("write 0 1,2,3"); told != done {
			break
		}
	}
	if _, latched, _ := s.disk.State(); !latched {
		t.Fatal("the disk is not latched")
	}
	wantAnswer(t, s, "write 0 1,2,4", "ErrLatched")
	wantAnswer(t, s, "trim 0", "ErrLatched")
	wantAnswer(t, s, "keep", "ErrLatched")
	wantAnswer(t, s, "read 0", "1,2,3")
	wantAnswer(t, s, "read 1", "7,8,9")
	wantAnswer(t, s, "write 0 1", "ErrShape")
	wantAnswer(t, s, "trim 2", "ErrRange")
}

// A keep flushes: it meets what waits at the next program.
func TestX1KeepFlushes(t *testing.T) {
	s := withDisk(t)
	wantAnswer(t, s, "keep", done)
	s.disk.Cut(1)
	wantAnswer(t, s, "keep", done) // nothing was changed, so nothing is programmed
	wantAnswer(t, s, "write 0 1,2,3", "ErrPower")
}

// Each error has its name, also one that is wrapped.
func TestX1NamesOfErrors(t *testing.T) {
	for e, name := range map[api.Errno]string{
		api.ErrRange: "ErrRange", api.ErrShape: "ErrShape", api.ErrFull: "ErrFull", api.ErrNone: "ErrNone", api.ErrOrder: "ErrOrder", api.ErrFail: "ErrFail",
		api.ErrPower: "ErrPower", api.ErrLost: "ErrLost", api.ErrLatched: "ErrLatched", api.ErrState: "ErrState", api.ErrSyntax: "ErrSyntax",
	} {
		for _, err := range []error{e, fmt.Errorf("told of it: %w", e), errors.Join(errors.New("more"), e)} {
			if got := tellError(err); got != name {
				t.Errorf("%v: got %q, want %q", err, got, name)
			}
			if told, err := tellDone(err); told != "" || tellError(err) != name {
				t.Errorf("%v: done with it is %q", err, told)
			}
			if told, err := tellList([]int{1}, err); told != "" || tellError(err) != name {
				t.Errorf("%v: a list with it is %q", err, told)
			}
		}
	}
}

// Numbers are told the same of whatever kind they are.
func TestX1NumbersOfAllKinds(t *testing.T) {
	for n := range 256 {
		want := fmt.Sprint(n)
		if got := []string{tellNumber(n), tellNumber(byte(n)), tellNumber(uint32(n))}; got[0] != want || got[1] != want || got[2] != want {
			t.Errorf("%d: got %q", n, got)
		}
	}
	if got := tellNumber(^uint32(0)); got != "4294967295" {
		t.Errorf("the greatest of 32 bits: got %s", got)
	}
	if got := tellNumber(1 << 62); got != "4611686018427387904" {
		t.Errorf("2^62: got %s", got)
	}
	if got := tellNumbers([]uint32{^uint32(0), 0}) + " " + tellNumbers([]byte{255, 0}) + " " + tellNumbers([]int{}) + " " + tellNumbers[byte](nil); got != "4294967295,0 255,0 - -" {
		t.Errorf("lists: got %s", got)
	}
}
