package driver

import (
	"bytes"
	"testing"

	"granary/api"
	"granary/cmd"
	"granary/plain"
)

// Blocks of a real disk have an odd number of bytes, so that only made-up ones are together just 256.
func TestV2BoundToTheByte(t *testing.T) {
	for size := 1; size <= 300; size++ {
		for count := range 300 {
			long := size * count
			want := api.OK
			if long > 256 {
				want = api.ErrRange
			}
			if err := check(size, 0, api.Read, 0, count, nil); plain.Told(err) != want {
				t.Errorf("Read of %d blocks of %d bytes: %v, want %v", count, size, err, want)
			}
			if err := check(size, 1, api.Write, 0, count, make([]byte, long)); plain.Told(err) != want {
				t.Errorf("Write of %d blocks of %d bytes: %v, want %v", count, size, err, want)
			}
			for _, op := range []int{api.Trim, api.Flush} {
				if err := check(size, 0, op, 0, count, nil); err != nil {
					t.Errorf("op %d of %d blocks of %d bytes: %v", op, count, size, err)
				}
			}
		}
	}
}

func newDriver(t *testing.T, size int) *Driver {
	t.Helper()
	d, err := New(api.Geometry{Dies: 1, Blocks: 16, Pages: 16, Bytes: 24}, 96, 0, size)
	if err != nil {
		t.Fatal(err)
	}
	return d
}

// piece is some of the memory.
type piece struct {
	name     string
	at, long int
}

// No two of all that stands in the memory have a byte in common, and all of it lies there.
func TestPlacesStandApart(t *testing.T) {
	var all []piece
	for tag := range tags {
		all = append(all, piece{"data", dataOf(tag), maxMoved}, piece{"list", listOf(tag), api.PageBytes})
		if dataOf(tag)%api.PageBytes != 0 || listOf(tag)%api.PageBytes != 0 {
			t.Errorf("tag %d: no pages: %d, %d", tag, dataOf(tag), listOf(tag))
		}
	}
	for id := range pairs {
		all = append(all, piece{"commands", commandsOf(id), api.MaxRing * commandBytes}, piece{"completions", donesOf(id), api.MaxRing * doneBytes})
	}
	owner := make([]string, memoryBytes)
	for _, p := range all {
		for i := p.at; i < p.at+p.long; i++ {
			if i < 0 || i >= memoryBytes || owner[i] != "" {
				t.Fatalf("byte %d of %+v is no byte of its own", i, p)
			}
			owner[i] = p.name
		}
	}
	if memoryBytes > api.MaxMemory {
		t.Errorf("%d bytes", memoryBytes)
	}
}

// What is submitted goes through the rings of the controller's memory, as chapters 14 and 18 say.
func TestV1CommandsGoThroughTheRings(t *testing.T) {
	d := newDriver(t, 4)
	for i := range 13 {
		id, slot := i%2, i/2%4
		tag, err := d.Submit(id, api.Write, 5, 85, bytes.Repeat([]byte{byte(i + 1)}, 255))
		if err != nil || tag != 0 {
			t.Fatalf("%d: %d, %v", i, tag, err)
		}
		c, err := cmd.Decode(peek(t, d, commandsOf(id)+64*slot, 64))
		if err != nil || c.Op != api.Write || c.Id != 0 || c.Lba != 5 || c.Count != 85 || c.First != dataOf(0) || c.Second != listOf(0) {
			t.Errorf("command %d: %+v, %v", i, c, err)
		}
		if !d.Step() {
			t.Fatalf("%d is not carried out", i)
		}
		done, err := cmd.DecodeDone(peek(t, d, donesOf(id)+16*slot, 16))
		want := api.Completion{Queue: id, Head: (slot + 1) % 4, Phase: i/8%2 == 0}
		if err != nil || done != want {
			t.Errorf("completion %d: %+v, %v, want %+v", i, done, err, want)
		}
		if l, err := d.Reap(id); err != nil || len(l) != 1 {
			t.Fatalf("%d: %v, %v", i, l, err)
		}
	}
}

func peek(t *testing.T, d *Driver, at, n int) []byte {
	t.Helper()
	b, err := d.ctrl.Peek(at, n)
	if err != nil {
		t.Fatal(err)
	}
	return b
}

// What is refused leaves each byte of the memory as it was, and all that the driver knows.
func TestV2WhatIsRefusedLeavesTheMemory(t *testing.T) {
	d := newDriver(t, 2)
	if _, err := d.Submit(0, api.Write, 0, 85, bytes.Repeat([]byte{7}, 255)); err != nil {
		t.Fatal(err)
	}
	was, jobs := peek(t, d, 0, memoryBytes), d.jobs
	nines := bytes.Repeat([]byte{9}, 258)
	for _, c := range []struct {
		queue, op, lba, count int
		data                  []byte
		want                  api.Errno
	}{
		{2, api.Write, 0, 85, nines[:255], api.ErrRange},
		{1, 5, 0, 85, nines[:255], api.ErrRange},
		{1, api.Write, -1, 85, nines[:255], api.ErrRange},
		{1, api.Write, 0, -1, nil, api.ErrRange},
		{1, api.Write, 0, 86, nines, api.ErrRange},
		{1, api.Write, 0, 85, nines[:254], api.ErrShape},
		{0, api.Write, 0, 85, nines[:255], api.ErrFull},
	} {
		if _, err := d.Submit(c.queue, c.op, c.lba, c.count, c.data); plain.Told(err) != c.want {
			t.Errorf("%+v: %v", c, err)
		}
		if !bytes.Equal(peek(t, d, 0, memoryBytes), was) || d.jobs != jobs {
			t.Errorf("%+v changes something", c)
		}
	}
}
