package disk

import (
	"bytes"
	"errors"
	"math"
	"math/rand"
	"slices"
	"testing"

	"granary/api"
	"granary/frame"
)

// snapshot is all that a chip tells.
type snapshot struct {
	pages  [][]byte
	blocks []block
}

func snap(t *testing.T, d *Disk) snapshot {
	t.Helper()
	pages, err := d.pages()
	if err != nil {
		t.Fatal(err)
	}
	blocks, err := d.blocks()
	if err != nil {
		t.Fatal(err)
	}
	return snapshot{pages, blocks}
}

func (s snapshot) equals(o snapshot) bool {
	return slices.EqualFunc(s.pages, o.pages, bytes.Equal) && slices.Equal(s.blocks, o.blocks)
}

func readAll(t *testing.T, d *Disk) [][]byte {
	t.Helper()
	var all [][]byte
	for lba := range d.lbas {
		data, err := d.Read(lba)
		if err != nil {
			t.Fatal(err)
		}
		all = append(all, data)
	}
	return all
}

func plans(t *testing.T) []*Disk {
	t.Helper()
	var disks []*Disk
	for _, p := range []struct{ dies, blocks, pages, spare int }{
		{1, 5, 1, 0}, {1, 7, 1, 2}, {1, 6, 2, 1}, {2, 4, 3, 2}, {4, 2, 4, 3}, {1, 6, 16, 1},
	} {
		g := api.Geometry{Dies: p.dies, Blocks: p.blocks, Pages: p.pages, Bytes: 24}
		d, err := New(g, (p.dies*p.blocks-p.spare-4)*p.pages, p.spare)
		if err != nil {
			t.Fatal(err)
		}
		disks = append(disks, d)
	}
	return disks
}

// churn does one thing at random, and mounts where power was lost.
func churn(d *Disk, random *rand.Rand) error {
	lba := random.Intn(d.lbas)
	err := error(nil)
	switch random.Intn(6) {
	case 0:
		err = d.Trim(lba)
	case 1:
		err = d.Flush()
	default:
		data := make([]byte, d.Size())
		random.Read(data)
		err = d.Write(lba, data)
	}
	if errors.Is(err, api.ErrPower) {
		return d.Mount()
	}
	return err
}

// sound holds against the chip what a disk knows of it, and what room.go says of its blocks.
func sound(t *testing.T, d *Disk) {
	t.Helper()
	seen, err := d.look()
	if err != nil {
		t.Fatal(err)
	}
	if seen.bad != d.bad || seen.seq != d.seq {
		t.Fatalf("bad %d, seq %d, on the chip %d, %d", d.bad, d.seq, seen.bad, seen.seq)
	}
	s := snap(t, d)
	for lba := range d.lbas {
		place, err := d.book.At(lba)
		other, otherErr := seen.book.At(lba)
		if place != other || err != otherErr {
			t.Fatalf("lba %d at %d, %v, on the chip at %d, %v", lba, place, err, other, otherErr)
		}
		if err == nil && s.blocks[place/d.geometry.Pages].bad {
			t.Fatalf("lba %d lies in a bad block", lba)
		}
	}
	begun := 0
	for i, b := range s.blocks {
		if b.bad {
			continue
		}
		if 0 < b.next && b.next < d.geometry.Pages {
			begun++
		}
		for page := b.next; page < d.geometry.Pages; page++ {
			if _, state := frame.Open(s.pages[i*d.geometry.Pages+page]); state != api.Erased {
				t.Fatalf("block %d, page %d: state %d from the next page on", i, page, state)
			}
		}
	}
	if begun > 1 {
		t.Fatalf("%d blocks are neither blank nor full", begun)
	}
}

// D1: a disk tells what it keeps by what stands on the chip alone.
func TestChipAlone(t *testing.T) {
	for i, d := range plans(t) {
		random := rand.New(rand.NewSource(int64(i)))
		d.Fails(d.spare)
		for range 600 {
			if random.Intn(40) == 0 {
				d.Cut(1 + random.Intn(20))
			}
			if err := churn(d, random); err != nil {
				t.Fatal(err)
			}
			sound(t, d)
		}
		// Whatever the disk holds of its chip's state, Mount takes nothing of it over.
		was := readAll(t, d)
		for lba := range d.lbas {
			d.book.Drop(lba)
		}
		d.seq, d.bad = 0, d.spare+1
		if err := d.Mount(); err != nil {
			t.Fatal(err)
		}
		sound(t, d)
		if !slices.EqualFunc(readAll(t, d), was, bytes.Equal) {
			t.Errorf("Mount does not look at the chip")
		}
		other := &Disk{chip: d.chip, geometry: d.geometry, lbas: d.lbas, spare: d.spare}
		if err := other.Mount(); err != nil {
			t.Fatal(err)
		}
		if !slices.EqualFunc(readAll(t, other), readAll(t, d), bytes.Equal) {
			t.Errorf("another disk on the same chip reads otherwise")
		}
		bad, latched, off := d.State()
		if b, l, o := other.State(); b != bad || l != latched || o != off {
			t.Errorf("another disk on the same chip: State %v, %v, %v, want %v, %v, %v", b, l, o, bad, latched, off)
		}
	}
}

// What only asks leaves the chip as it is, and so do calls with wrong inputs, and all calls of a latched disk.
func TestChipStays(t *testing.T) {
	for i, d := range plans(t) {
		random := rand.New(rand.NewSource(int64(i)))
		ask := func() {
			t.Helper()
			readAll(t, d)
			d.Read(-1)
			d.Write(-1, make([]byte, d.Size()))
			d.Write(0, nil)
			d.Trim(d.lbas)
			d.State()
			d.Size()
			d.Cut(3)
			d.Fails(1)
			d.Cut(0)
			d.Fails(0)
			d.Mount()
			d.Flush()
		}
		for range 30 {
			for range 10 {
				if err := churn(d, random); err != nil {
					t.Fatal(err)
				}
			}
			d.Flush()
			was := snap(t, d)
			d.Flush() // nothing was written behind the other one
			ask()
			if !was.equals(snap(t, d)) {
				t.Fatalf("the chip is another")
			}
		}
		d.Fails(d.spare + 1)
		for range 10_000 {
			churn(d, random)
		}
		was := snap(t, d)
		d.Fails(1)
		d.Cut(1)
		for range 30 {
			if err := churn(d, random); !errors.Is(err, api.ErrLatched) {
				t.Fatalf("latched: %v", err)
			}
		}
		ask()
		if !was.equals(snap(t, d)) {
			t.Fatalf("the chip of a latched disk is another")
		}
	}
}

// D2, D4: a call that comes to be latched on the way programs nothing of its own.
func TestLatchedOnTheWay(t *testing.T) {
	for i, d := range plans(t) {
		random := rand.New(rand.NewSource(int64(i)))
		for range 200 {
			if err := churn(d, random); err != nil {
				t.Fatal(err)
			}
		}
		d.Fails(d.spare + 1)
		for number := range 10_000 {
			was := readAll(t, d)
			data := []byte{byte(number), byte(number >> 8), 0xC3}
			if d.Write(random.Intn(d.lbas), data) == nil {
				continue
			}
			if !d.isLatched() {
				t.Fatalf("not well, and not latched")
			}
			if !slices.EqualFunc(readAll(t, d), was, bytes.Equal) {
				t.Errorf("a Write that answered ErrLatched is read")
			}
			for _, page := range snap(t, d).pages {
				if f, _ := frame.Open(page); bytes.Equal(f.Data, data) {
					t.Errorf("a Write that answered ErrLatched is on the chip")
				}
			}
			break
		}
		if !d.isLatched() {
			t.Errorf("never latched")
		}
	}
}

// D5: at rest so many pages are blank as room.go says, less the one that was just written.
func TestBlankPagesAtRest(t *testing.T) {
	for i, d := range plans(t) {
		random := rand.New(rand.NewSource(int64(i)))
		d.Fails(d.spare)
		for range 1000 {
			if err := churn(d, random); err != nil {
				t.Fatal(err)
			}
			blocks, _ := d.blocks()
			least := (d.spare-d.bad+blankBlocks)*d.geometry.Pages - 1
			if blank := countBlank(blocks, d.geometry.Pages); blank < least {
				t.Fatalf("%d pages are blank, want %d", blank, least)
			}
		}
	}
}

// D5: a chip has no bound on how often a block is worn. A disk that sees its blocks worn more than sweep takes (W1: 10^9) makes room, and of the same blocks as one beside it that sees them as they are. (To wear a block so often in truth takes far too long.)
func TestWornBeyondAllBounds(t *testing.T) {
	const sweepBound = 1_000_000_000
	for _, more := range []func(int) int{
		func(wear int) int { return wear + sweepBound },
		func(wear int) int { return wear + sweepBound + 1 },
		func(wear int) int { return wear * sweepBound },
		func(wear int) int { return wear + wear/3*5*sweepBound },
		func(wear int) int { return math.MaxInt - 1<<20 + wear },
	} {
		worn := plans(t)
		for i, d := range plans(t) {
			random := rand.New(rand.NewSource(int64(i)))
			d.Fails(d.spare)
			worn[i].Fails(d.spare)
			for range 400 {
				lba, data := random.Intn(d.lbas), make([]byte, d.Size())
				random.Read(data)
				for _, do := range []func(*Disk) error{
					func(d *Disk) error { return d.Write(lba, data) },
					(*Disk).Flush,
					func(d *Disk) error { return d.Trim((lba + 1) % d.lbas) },
				} {
					makeRoomWorn(t, worn[i], more)
					if err, wornErr := do(d), do(worn[i]); err != nil || wornErr != nil {
						t.Fatalf("told %v, worn %v", err, wornErr)
					}
				}
				if !snap(t, d).equals(snap(t, worn[i])) {
					t.Fatalf("other blocks are emptied where they are worn more")
				}
			}
			if !slices.EqualFunc(readAll(t, d), readAll(t, worn[i]), bytes.Equal) {
				t.Errorf("it reads otherwise where blocks are worn more")
			}
		}
	}
}

// makeRoomWorn makes room as makeRoom does, where the blocks are seen as worn more. The call behind it finds it made.
func makeRoomWorn(t *testing.T, d *Disk, more func(int) int) {
	t.Helper()
	for {
		blocks := snap(t, d).blocks
		if !d.isShort(blocks) {
			return
		}
		for i := range blocks {
			blocks[i].wear = more(blocks[i].wear)
		}
		if err := d.emptyOne(blocks); err != nil {
			t.Fatalf("to empty one of %v: %v", blocks, err)
		}
	}
}

func TestWearRanks(t *testing.T) {
	for _, c := range []struct{ wears, want []int }{
		{nil, nil},
		{[]int{9}, []int{0}},
		{[]int{0, 0, 0}, []int{0, 0, 0}},
		{[]int{3, 1, 2}, []int{2, 0, 1}},
		{[]int{5, 5, 0, 7, 5}, []int{1, 1, 0, 4, 1}},
		{[]int{math.MaxInt, 1_000_000_001, 1_000_000_000, math.MaxInt - 1}, []int{3, 1, 0, 2}},
	} {
		blocks := make([]block, len(c.wears))
		for i, wear := range c.wears {
			blocks[i].wear = wear
		}
		if got := wearRanks(blocks); !slices.Equal(got, c.want) {
			t.Errorf("wearRanks of %v: %v, want %v", c.wears, got, c.want)
		}
	}
}

// The block that was begun is written into, else the least worn of the blank ones; never a bad one.
func TestNextBlock(t *testing.T) {
	for _, c := range []struct {
		blocks []block
		want   int
		err    error
	}{
		{[]block{{next: 2}, {wear: 3}, {wear: 2}, {wear: 2}}, 2, nil},
		{[]block{{wear: 1}, {next: 1, wear: 9}, {wear: 0}}, 1, nil},
		{[]block{{bad: true}, {bad: true, next: 1}, {wear: 5}}, 2, nil},
		{[]block{{bad: true}, {next: 2}}, 0, api.ErrFull},
		{nil, 0, api.ErrFull},
	} {
		if got, err := nextBlock(c.blocks, 2); got != c.want || err != c.err {
			t.Errorf("nextBlock of %v: %d, %v, want %d, %v", c.blocks, got, err, c.want, c.err)
		}
	}
}

func TestTroubles(t *testing.T) {
	var tr troubles
	tr.Cut(2)
	tr.Fails(2)
	got := []int{tr.programFault(), tr.eraseFault(), tr.eraseFault(), tr.programFault(), tr.eraseFault(), tr.eraseFault()}
	want := []int{api.Fine, api.Torn, api.Fail, api.Fine, api.Fail, api.Fine}
	if !slices.Equal(got, want) {
		t.Errorf("faults: %v, want %v", got, want)
	}
	tr.Cut(3)
	tr.Fails(1)
	got = []int{tr.eraseFault(), tr.eraseFault(), tr.programFault(), tr.programFault()}
	want = []int{api.Fail, api.Fine, api.Torn, api.Fine}
	if !slices.Equal(got, want) {
		t.Errorf("faults: %v, want %v", got, want)
	}
}
