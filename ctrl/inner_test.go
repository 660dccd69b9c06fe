package ctrl

import (
	"bytes"
	"fmt"
	"slices"
	"testing"

	"granary/api"
	"granary/cmd"
	"granary/mem"
)

// Where the memory of these tests has its slots, its list, and its pages.
const (
	sqAt   = 0
	cqAt   = 1024
	listAt = 2048
	dataAt = 4096
)

// wrapped is an error that is told by what it wraps.
type wrapped struct{ error }

func (w wrapped) Unwrap() error { return w.error }

// scripted is a disk that is made up: it fails at a call, tells what it was asked, and lets a test look at the memory on the way.
type scripted struct {
	size   int
	failAt int // the how-manieth call fails, from 0 on; none, if it is below 0
	fault  error
	calls  []string
	data   []byte
	onCall func(call int)
}

func (s *scripted) called(format string, args ...any) error {
	call := len(s.calls)
	s.calls = append(s.calls, fmt.Sprintf(format, args...))
	if s.onCall != nil {
		s.onCall(call)
	}
	if call == s.failAt {
		return s.fault
	}
	return nil
}

func (s *scripted) Size() int { return s.size }

func (s *scripted) Write(lba int, data []byte) error {
	s.data = append(s.data, data...)
	return s.called("Write %d", lba)
}

func (s *scripted) Trim(lba int) error { return s.called("Trim %d", lba) }

func (s *scripted) Read(lba int) ([]byte, error) {
	if err := s.called("Read %d", lba); err != nil {
		return nil, err
	}
	return bytes.Repeat([]byte{byte(lba + 1)}, s.size), nil
}

func (s *scripted) Flush() error { return s.called("Flush") }
func (s *scripted) Mount() error { return s.called("Mount") }
func (s *scripted) Cut(n int)    { s.called("Cut %d", n) }
func (s *scripted) Fails(n int)  { s.called("Fails %d", n) }

// scriptedCtrl gives a controller with a disk of 256 lbas that is made up, and one queue. From dataAt on it has bytes that are counted, and in a list all pages from there on.
func scriptedCtrl(t *testing.T, s *scripted) *Ctrl {
	t.Helper()
	m, err := mem.New(api.MaxMemory)
	if err != nil {
		t.Fatal(err)
	}
	c := &Ctrl{engine: engine{memory: m, disk: s, lbas: 256}}
	if err := c.Queue(0, sqAt, cqAt, 16, 1); err != nil {
		t.Fatal(err)
	}
	poke(t, c, dataAt, fresh())
	at, page := listAt, dataAt+api.PageBytes
	for range 5 {
		for i := range 8 {
			x := page
			if i == 7 {
				x = at + api.PageBytes
			} else {
				page += api.PageBytes
			}
			if err := m.SetNumber(at+8*i, x); err != nil {
				t.Fatal(err)
			}
		}
		at += api.PageBytes
	}
	return c
}

// fresh gives what stands from dataAt on.
func fresh() []byte {
	out := make([]byte, 4096)
	for i := range out {
		out[i] = byte(i%251 + 1)
	}
	return out
}

func poke(t *testing.T, c *Ctrl, at int, data []byte) {
	t.Helper()
	if err := c.Poke(at, data); err != nil {
		t.Fatal(err)
	}
}

func peek(t *testing.T, c *Ctrl, at, n int) []byte {
	t.Helper()
	data, err := c.Peek(at, n)
	if err != nil {
		t.Fatal(err)
	}
	return data
}

// carried has a command carried out whose bytes lie from dataAt on, and tells its Status.
func carried(t *testing.T, c *Ctrl, op, lba, count int) int {
	t.Helper()
	command := api.Command{Op: op, Lba: lba, Count: count, First: dataAt, Second: listAt}
	if long := count * c.disk.Size(); long <= 2*api.PageBytes {
		command.Second = dataAt + api.PageBytes
	}
	b, err := cmd.Encode(command)
	if err != nil {
		t.Fatal(err)
	}
	poke(t, c, sqAt, b)
	if err := c.Tail(0, 1); err != nil {
		t.Fatal(err)
	}
	if id, err := c.Step(); id != 0 || err != nil {
		t.Fatalf("Step: %d, %v", id, err)
	}
	d, err := cmd.DecodeDone(peek(t, c, cqAt, doneBytes))
	if err != nil {
		t.Fatal(err)
	}
	return d.Status
}

// asked gives calls of an op from an lba on.
func asked(op, lba, count int) []string {
	var out []string
	name := map[int]string{api.Write: "Write", api.Read: "Read", api.Trim: "Trim"}[op]
	for i := range count {
		out = append(out, fmt.Sprintf("%s %d", name, lba+i))
	}
	return out
}

// A disk is asked for just the blocks of a command, one by one, and Flush for nothing else.
func TestT5TheDiskIsAskedBlockByBlock(t *testing.T) {
	for _, op := range []int{api.Write, api.Read, api.Trim} {
		for _, count := range []int{1, 2, 5, 20} {
			s := &scripted{size: 10, failAt: -1}
			c := scriptedCtrl(t, s)
			if got := carried(t, c, op, 7, count); got != api.Done || !slices.Equal(s.calls, asked(op, 7, count)) {
				t.Errorf("op %d of %d blocks: Status %d, it asks %v", op, count, got, s.calls)
			}
			if op == api.Write && !bytes.Equal(s.data, fresh()[:10*count]) {
				t.Errorf("Write of %d blocks: %v", count, s.data)
			}
		}
	}
	s := &scripted{size: 10, failAt: -1}
	if got := carried(t, scriptedCtrl(t, s), api.Flush, 7, 3); got != api.Done || !slices.Equal(s.calls, []string{"Flush"}) {
		t.Errorf("Flush: Status %d, it asks %v", got, s.calls)
	}
}

// Whatever a disk answers, it is NoPower or Protected, and no block behind that one is asked for.
func TestT5WhateverTheDiskAnswers(t *testing.T) {
	var faults []error
	for e := api.ErrRange; e <= api.ErrSyntax; e++ {
		faults = append(faults, e, wrapped{e}, wrapped{wrapped{e}})
	}
	for _, op := range []int{api.Write, api.Read, api.Trim} {
		for failAt := range 4 {
			for _, fault := range faults {
				s := &scripted{size: 10, failAt: failAt, fault: fault}
				c := scriptedCtrl(t, s)
				was := peek(t, c, dataAt, 4096)
				if got := carried(t, c, op, 30, 4); got != statusLike(fault) || !slices.Equal(s.calls, asked(op, 30, failAt+1)) {
					t.Errorf("op %d, block %d answers %v: Status %d, it asks %v", op, failAt, fault, got, s.calls)
				}
				if !bytes.Equal(peek(t, c, dataAt, 4096), was) {
					t.Errorf("op %d, block %d answers %v: the memory is changed", op, failAt, fault)
				}
			}
		}
	}
	for _, fault := range faults {
		s := &scripted{size: 10, fault: fault}
		if got := carried(t, scriptedCtrl(t, s), api.Flush, 0, 0); got != statusLike(fault) {
			t.Errorf("Flush answers %v: Status %d", fault, got)
		}
	}
}

func statusLike(fault error) int {
	for {
		w, ok := fault.(wrapped)
		if !ok {
			break
		}
		fault = w.error
	}
	if fault == api.ErrPower {
		return api.NoPower
	}
	return api.Protected
}

// What is changed in the memory while blocks are written is not written: all bytes were gathered ahead.
func TestT5BytesAreGatheredAheadOfAll(t *testing.T) {
	for _, size := range []int{10, 50} {
		s := &scripted{size: size, failAt: -1}
		c := scriptedCtrl(t, s)
		s.onCall = func(int) { poke(t, c, listAt, make([]byte, 4096+2048)) }
		if got := carried(t, c, api.Write, 0, 5); got != api.Done || !bytes.Equal(s.data, fresh()[:5*size]) {
			t.Errorf("Status %d, written is %v", got, s.data)
		}
	}
}

// While blocks are read nothing is scattered yet; behind all of them all is, where the segments were ahead.
func TestT5BytesAreScatteredBehindAll(t *testing.T) {
	for _, size := range []int{10, 50} {
		s := &scripted{size: size, failAt: -1}
		c := scriptedCtrl(t, s)
		s.onCall = func(call int) {
			if !bytes.Equal(peek(t, c, dataAt, 4096), fresh()) {
				t.Errorf("block %d: something was scattered ahead of it", call)
			}
			poke(t, c, listAt, make([]byte, 1024))
		}
		if got := carried(t, c, api.Read, 0, 5); got != api.Done {
			t.Errorf("Status %d", got)
		}
		want := fresh()
		for i := range 5 * size {
			want[i] = byte(i/size + 1)
		}
		if got := peek(t, c, dataAt, 4096); !bytes.Equal(got, want) {
			t.Errorf("got %v, want %v", got, want)
		}
	}
}

// Blocks may be just MaxMove bytes together, and not one block more; Trim does not ask.
func TestT5MaxMoveToTheByte(t *testing.T) {
	for _, size := range []int{8, 16, 32, 64, 128, 256, 512, 1024, 2048, 683, 2047, 2049} {
		most := api.MaxMove / size
		for _, op := range []int{api.Write, api.Read, api.Trim} {
			for _, count := range []int{most, most + 1} {
				if count == 0 || count > 256 {
					continue
				}
				s := &scripted{size: size, failAt: -1}
				want, calls := api.Done, asked(op, 0, count)
				if op != api.Trim && count > most {
					want, calls = api.BadField, nil
				}
				if got := carried(t, scriptedCtrl(t, s), op, 0, count); got != want || !slices.Equal(s.calls, calls) {
					t.Errorf("op %d of %d blocks of %d bytes: Status %d, want %d; it asks %v", op, count, size, got, want, s.calls)
				}
			}
		}
	}
}

// What is refused asks nothing of the disk, so that nothing comes ahead of it.
func TestT5WhatIsRefusedAsksNothing(t *testing.T) {
	for _, command := range []api.Command{
		{Op: 0}, {Op: 5, Count: 1, First: dataAt}, {Op: 255},
		{Op: api.Write, First: dataAt}, {Op: api.Read, Lba: 256, Count: 1, First: dataAt}, {Op: api.Trim, Lba: 250, Count: 7},
		{Op: api.Write, Count: 1, First: dataAt + 2}, {Op: api.Read, Count: 1, First: api.MaxMemory},
		{Op: api.Write, Count: 256, First: dataAt, Second: listAt}, {Op: api.Read, Count: 100, First: dataAt, Second: 4},
	} {
		s := &scripted{size: 10}
		c := scriptedCtrl(t, s)
		b, err := cmd.Encode(command)
		if err != nil {
			t.Fatal(err)
		}
		if status := c.carryOut(b); status == api.Done || len(s.calls) > 0 {
			t.Errorf("%+v: Status %d, it asks %v", command, status, s.calls)
		}
	}
}

// Cut, Fails and Mount go to the disk as they are, whatever the number, and so does what Mount answers.
func TestT1TroublesGoToTheDisk(t *testing.T) {
	s := &scripted{size: 10, failAt: 5, fault: api.ErrLost}
	c := scriptedCtrl(t, s)
	c.Cut(3)
	c.Fails(-2)
	c.Cut(0)
	c.Fails(1 << 40)
	if err := c.Mount(); err != nil {
		t.Errorf("Mount: %v", err)
	}
	if err := c.Mount(); err != api.ErrLost {
		t.Errorf("Mount: %v", err)
	}
	if want := []string{"Cut 3", "Fails -2", "Cut 0", "Fails 1099511627776", "Mount", "Mount"}; !slices.Equal(s.calls, want) {
		t.Errorf("got %v, want %v", s.calls, want)
	}
}
