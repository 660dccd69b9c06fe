package ctrl_test

import (
	"bytes"
	"fmt"
	"math/rand"
	"slices"
	"testing"

	"granary/api"
	"granary/cmd"
	"granary/list"
	"granary/mem"
)

// Ops on blocks, and all of them.
var (
	onBlocks = []int{api.Write, api.Read, api.Trim}
	moving   = []int{api.Write, api.Read}
	allOps   = []int{api.Flush, api.Write, api.Read, api.Trim}
)

// pageAt gives the address of one of the pages for data.
func pageAt(i int) int { return pages + i*pageBytes }

// offHost gives a host of a disk that has lost its power.
func offHost(t testing.TB, p plan) *host {
	t.Helper()
	h := oneQueue(t, p)
	h.Cut(1)
	h.want("to lose power", api.Command{Op: api.Trim, Count: 1}, api.NoPower)
	return h
}

// latchedHost gives a host of a latched disk, of which lba 0 reads as 9 8 7.
func latchedHost(t testing.TB) *host {
	t.Helper()
	h := oneQueue(t, tiny())
	h.keep(0, []byte{9, 8, 7})
	h.Fails(1)
	for i := 0; h.keep(1, counted(3, i)) == api.Done; i++ {
		if i == 100 {
			t.Fatal("no erase fails")
		}
	}
	return h
}

func TestT5Ordinary(t *testing.T) {
	h := oneQueue(t, tiny())
	h.wantKept("at first", 1, []byte{0, 0, 0})
	if got := h.keep(1, []byte{1, 2, 3}); got != api.Done {
		t.Errorf("Write: %d", got)
	}
	h.wantKept("written", 1, []byte{1, 2, 3})
	h.wantKept("another", 0, []byte{0, 0, 0})
	h.want("Flush", api.Command{Op: api.Flush}, api.Done)
	h.want("Trim", api.Command{Op: api.Trim, Lba: 1, Count: 1}, api.Done)
	h.wantKept("trimmed", 1, []byte{0, 0, 0})
}

// Each Count from each Lba on: just these blocks are written, in order, and read, and trimmed.
func TestT5SeveralBlocks(t *testing.T) {
	const lbas, size = 4, 3
	for lba := range lbas {
		for count := 1; lba+count <= lbas; count++ {
			h := oneQueue(t, tiny())
			old, fresh := counted(lbas*size, 0), counted(count*size, 100)
			h.poke(pageAt(1), old)
			h.want("old", api.Command{Op: api.Write, Count: lbas, First: pageAt(1)}, api.Done)
			h.poke(pageAt(1), fresh)
			h.want("fresh", api.Command{Op: api.Write, Lba: lba, Count: count, First: pageAt(1)}, api.Done)
			want := slices.Concat(old[:lba*size], fresh, old[(lba+count)*size:])
			h.wantBlocks("written", 0, want)
			h.want("some", api.Command{Op: api.Read, Lba: lba, Count: count, First: pageAt(3) + 4}, api.Done)
			if got := h.peek(pageAt(3)+4, len(fresh)); !bytes.Equal(got, fresh) {
				t.Errorf("lba %d, count %d: got %v, want %v", lba, count, got, fresh)
			}
			h.want("Trim", api.Command{Op: api.Trim, Lba: lba, Count: count}, api.Done)
			clear(want[lba*size : (lba+count)*size])
			h.wantBlocks("trimmed", 0, want)
		}
	}
}

// wantBlocks reads blocks of 3 bytes from an lba on, one by one.
func (h *host) wantBlocks(name string, lba int, want []byte) {
	h.t.Helper()
	for ; len(want) > 0; want = want[3:] {
		h.wantKept(name, lba, want[:3])
		lba++
	}
}

// Bytes that lie in one page, in two, and in a list of one page, of several, and that begin anywhere in a page.
func TestT5WhereBytesLie(t *testing.T) {
	p := wide()
	for count := 1; count <= 8; count++ {
		for _, offset := range []int{0, 4, 32, 60} {
			h := oneQueue(t, p)
			long := count * p.size()
			source, target := h.built(0, offset, long), h.built(60, offset, long)
			data := counted(long, count+offset)
			h.scatter(source, long, data)
			first := api.Command{Op: api.Write, Lba: 3, Count: count, First: source[0], Second: source[1]}
			h.want("Write", first, api.Done)
			h.want("Read", api.Command{Op: api.Read, Lba: 3, Count: count, First: target[0], Second: target[1]}, api.Done)
			if got := h.gather(target, long); !bytes.Equal(got, data) {
				t.Errorf("count %d, offset %d: got %v, want %v", count, offset, got, data)
			}
		}
	}
}

// built lets a list of pages, each second one from one of them on, stand in the memory, and gives first and second.
func (h *host) built(from, offset, long int) [2]int {
	h.t.Helper()
	m := h.copied()
	var l []int
	for i := 0; i < (offset+long+pageBytes-1)/pageBytes; i++ {
		l = append(l, pageAt(from+2*i%50+2*i/50))
	}
	first, second, err := list.Build(m, pageAt(from+52), l, offset, long)
	if err != nil {
		h.t.Fatalf("Build of %v: %v", l, err)
	}
	b, _ := m.Read(0, mostMemory)
	h.poke(0, b)
	return [2]int{first, second}
}

// copied gives a memory that is as the controller's.
func (h *host) copied() *mem.Memory {
	h.t.Helper()
	return memoryOf(h.t, h.all())
}

func memoryOf(t testing.TB, b []byte) *mem.Memory {
	t.Helper()
	m, err := mem.New(len(b))
	if err != nil || m.Write(0, b) != nil {
		t.Fatalf("a memory of %d bytes: %v", len(b), err)
	}
	return m
}

func (h *host) segments(place [2]int, long int) []api.Segment {
	h.t.Helper()
	l, err := list.Walk(h.copied(), place[0], place[1], long)
	if err != nil {
		h.t.Fatalf("Walk(%v, %d): %v", place, long, err)
	}
	return l
}

func (h *host) scatter(place [2]int, long int, data []byte) {
	h.t.Helper()
	for _, s := range h.segments(place, long) {
		h.poke(s.At, data[:s.Long])
		data = data[s.Long:]
	}
}

func (h *host) gather(place [2]int, long int) []byte {
	h.t.Helper()
	var out []byte
	for _, s := range h.segments(place, long) {
		out = append(out, h.peek(s.At, s.Long)...)
	}
	return out
}

// A number above 2^62 is BadField, whatever the Op, and whatever else is wrong; the Id is told all the same.
func TestT5BadFieldOfDecode(t *testing.T) {
	for _, at := range []int{8, 24, 32} {
		for _, high := range [][]byte{{1, 0, 0, 0, 0, 0, 0, 0x40}, {0, 0, 0, 0, 0, 0, 0, 0x80}, {255, 255, 255, 255, 255, 255, 255, 255}} {
			for _, op := range []int{0, 1, 2, 3, 4, 5, 255} {
				for _, h := range []*host{oneQueue(t, tiny()), offHost(t, tiny())} {
					b := encoded(t, api.Command{Op: op, Id: 0x1234})
					copy(b[at:], high)
					if d := h.doBytes(b); d.Status != api.BadField || d.Id != 0x1234 {
						t.Errorf("op %d, %v at %d: %+v", op, high, at, d)
					}
				}
			}
		}
	}
	h := oneQueue(t, tiny())
	h.want("2^62 is none", api.Command{Op: api.Flush, Lba: 1 << 62, First: 1 << 62, Second: 1 << 62}, api.Done)
	h.want("2^62 is none", api.Command{Op: 9, Lba: 1 << 62, First: 1 << 62, Second: 1 << 62}, api.BadOp)
}

// No op but four is one, ahead of all that is wrong with blocks and disk.
func TestT5BadOp(t *testing.T) {
	sound, off, latched := oneQueue(t, tiny()), offHost(t, tiny()), latchedHost(t)
	for op := range 256 {
		if slices.Contains(allOps, op) {
			continue
		}
		for _, h := range []*host{sound, off, latched} {
			h.want("no op", api.Command{Op: op, Id: op, Count: 1, First: pages}, api.BadOp)
			h.want("no op, no blocks", api.Command{Op: op, Id: op, Lba: 9, First: 2}, api.BadOp)
		}
	}
}

// Flush looks at nothing but the disk.
func TestT5FlushLooksAtTheDiskAlone(t *testing.T) {
	odd := []api.Command{{}, {Lba: 4}, {Lba: 1 << 62, Count: 1<<32 - 1}, {Count: 1, First: 3}, {Count: 4, First: mostMemory, Second: 5}}
	sound, off, latched := oneQueue(t, tiny()), offHost(t, tiny()), latchedHost(t)
	for _, c := range odd {
		c.Op = api.Flush
		was := sound.peek(pages, mostMemory-pages)
		sound.want("Flush", c, api.Done)
		off.want("Flush without power", c, api.NoPower)
		latched.want("Flush, latched", c, api.Protected)
		if !bytes.Equal(sound.peek(pages, mostMemory-pages), was) {
			t.Errorf("%+v changes the memory", c)
		}
	}
}

// What Flush kept is there behind a loss of power.
func TestT5FlushKeeps(t *testing.T) {
	for cut := 1; cut <= 3; cut++ {
		h := oneQueue(t, tiny())
		h.keep(3, []byte{5, 5, 5})
		h.want("Flush", api.Command{Op: api.Flush}, api.Done)
		h.Cut(cut)
		for i := 1; i <= cut; i++ {
			want := api.Done
			if i == cut {
				want = api.NoPower
			}
			h.want("cut", api.Command{Op: api.Trim, Count: 1}, want)
		}
		wantErr(t, "Mount", h.Mount(), api.OK)
		h.wantKept("flushed", 3, []byte{5, 5, 5})
	}
}

// A Flush behind a write meets the Cut, as disk's does.
func TestT5FlushReachesTheDisk(t *testing.T) {
	h := oneQueue(t, tiny())
	h.keep(0, []byte{1, 2, 3})
	h.Cut(1)
	h.want("Flush", api.Command{Op: api.Flush}, api.NoPower)
	h.want("Read", api.Command{Op: api.Read, Count: 1, First: pages}, api.NoPower)
}

func TestT5BadLba(t *testing.T) {
	for _, p := range []plan{tiny(), {geometry(1, 5, 2, 24), 1, 0}, {geometry(1, 8, 4, 24), 16, 0}} {
		h := oneQueue(t, p)
		for _, op := range onBlocks {
			for lba := range p.lbas {
				left := p.lbas - lba
				for _, count := range []int{1, left} {
					h.want("all there", api.Command{Op: op, Lba: lba, Count: count, First: pages}, api.Done)
				}
				for _, count := range []int{0, left + 1, left + 2, 256, 65536, 1<<32 - 1} {
					h.want("not all there", api.Command{Op: op, Lba: lba, Count: count, First: pages}, api.BadLba)
				}
			}
			for _, lba := range []int{p.lbas, p.lbas + 1, 256, 1 << 32, 1<<62 - 1, 1 << 62} {
				for _, count := range []int{0, 1, 2, 1<<32 - 1} {
					h.want("none there", api.Command{Op: op, Lba: lba, Count: count, First: pages}, api.BadLba)
				}
			}
		}
	}
}

// Of blocks of which the last is none nothing is done at all.
func TestT5BadLbaDoesNothing(t *testing.T) {
	h := oneQueue(t, tiny())
	h.keep(2, []byte{1, 1, 1})
	h.keep(3, []byte{2, 2, 2})
	h.poke(pageAt(1), counted(9, 50))
	h.want("Write", api.Command{Op: api.Write, Lba: 2, Count: 3, First: pageAt(1)}, api.BadLba)
	h.want("Trim", api.Command{Op: api.Trim, Lba: 2, Count: 3}, api.BadLba)
	h.want("Read", api.Command{Op: api.Read, Lba: 2, Count: 3, First: pageAt(1)}, api.BadLba)
	if got := h.peek(pageAt(1), 9); !bytes.Equal(got, counted(9, 50)) {
		t.Errorf("what was not read is scattered: %v", got)
	}
	h.wantBlocks("refused", 2, []byte{1, 1, 1, 2, 2, 2})
}

// BadLba comes ahead of BadField of where the bytes lie, of Protected, and of NoPower.
func TestT5BadLbaComesFirst(t *testing.T) {
	for _, h := range []*host{oneQueue(t, tiny()), offHost(t, tiny()), latchedHost(t)} {
		for _, op := range onBlocks {
			for _, first := range []int{pages, 2, mostMemory, 1 << 62} {
				h.want("no count", api.Command{Op: op, First: first}, api.BadLba)
				h.want("one too many", api.Command{Op: op, Lba: 1, Count: 4, First: first}, api.BadLba)
				h.want("so many that they are too long as well", api.Command{Op: op, Count: 1 << 20, First: first}, api.BadLba)
			}
		}
	}
}

// longest are disks of many lbas, of which so many are the most that one command moves. None has blocks that are just MaxMove together, as each has an odd number of bytes: these are asked of a disk that is made up, in inner_test.go.
func longest() map[int]plan {
	return map[int]plan{
		186: {geometry(1, 16, 16, 32), 192, 0}, // of 11 bytes: 2046, and one more is 2057
		107: {geometry(1, 11, 16, 40), 112, 0}, // of 19: 2033, and one more is 2052
		75:  {geometry(1, 9, 16, 48), 80, 0},   // of 27: 2025, and one more is 2052
		40:  {geometry(1, 7, 16, 72), 48, 0},   // of 51: 2040, and one more is 2091
		8:   {geometry(1, 5, 16, 256), 16, 0},  // of 235: 1880, and one more is 2115
	}
}

func TestT5MaxMove(t *testing.T) {
	for most, p := range longest() {
		if long := most * p.size(); long > mostMoved || long+p.size() <= mostMoved {
			t.Fatalf("%d blocks of %d bytes are not the most", most, p.size())
		}
		h := oneQueue(t, p)
		source, target := h.built(0, 4, most*p.size()), h.built(60, 0, most*p.size())
		data := counted(most*p.size(), most)
		h.scatter(source, len(data), data)
		h.want("the most", api.Command{Op: api.Write, Lba: 1, Count: most, First: source[0], Second: source[1]}, api.Done)
		h.want("the most", api.Command{Op: api.Read, Lba: 1, Count: most, First: target[0], Second: target[1]}, api.Done)
		if got := h.gather(target, len(data)); !bytes.Equal(got, data) {
			t.Errorf("%d blocks of %d bytes: got %v, want %v", most, p.size(), got, data)
		}
		for _, op := range moving {
			for count := most + 1; count <= min(most+3, p.lbas); count++ {
				h.want("too many bytes", api.Command{Op: op, Count: count, First: source[0], Second: source[1]}, api.BadField)
			}
		}
		h.want("Trim moves nothing", api.Command{Op: api.Trim, Count: most + 1, First: 2, Second: 3}, api.Done)
	}
}

// noPlaces are where no bytes of four pages can lie, first and second, with a list in the page 40 where one is needed.
func noPlaces() map[string]func(h *host) [2]int {
	fair := []int{pageAt(1), pageAt(2), pageAt(3)}
	at := pageAt(40)
	broken := func(i, x int) func(h *host) [2]int {
		return func(h *host) [2]int {
			h.poke(at, numbers(fair...))
			h.number(at+8*i, x)
			return [2]int{pageAt(0), at}
		}
	}
	plainly := func(first, second int) func(h *host) [2]int {
		return func(h *host) [2]int {
			h.poke(at, numbers(fair...))
			return [2]int{first, second}
		}
	}
	return map[string]func(h *host) [2]int{
		"first is no multiple of 4":           plainly(pageAt(0)+2, at),
		"first is odd":                        plainly(pageAt(0)+63, at),
		"first is behind the memory":          plainly(mostMemory, at),
		"first is far behind the memory":      plainly(1<<62, at),
		"second is no multiple of 8":          plainly(pageAt(0), at+4),
		"second is behind the memory":         plainly(pageAt(0), mostMemory),
		"second is far behind the memory":     plainly(pageAt(0), 1<<62),
		"a page of the list is none":          broken(0, pageAt(1)+8),
		"the last page of the list is none":   broken(2, pageAt(1)+32),
		"a page of the list is behind":        broken(1, mostMemory),
		"the last page of the list is behind": broken(2, mostMemory),
		"a number of the list is above 2^62":  broken(1, 1<<62+64),
		"a number of the list is all ones":    broken(2, -1),
	}
}

// Where the bytes lie nowhere, Write and Read do nothing, and Trim does not ask.
func TestT5BadFieldOfWalk(t *testing.T) {
	p := wide()
	for name, place := range noPlaces() {
		h := oneQueue(t, p)
		h.poke(pageAt(0), counted(4*pageBytes, 7))
		at := place(h)
		was := h.peek(pages, mostMemory-pages)
		c := api.Command{Lba: 2, Count: 1, First: at[0], Second: at[1]}
		for _, op := range moving {
			c.Op = op
			h.want(name, c, api.BadField)
		}
		if !bytes.Equal(h.peek(pages, mostMemory-pages), was) {
			t.Errorf("%s: the memory is changed", name)
		}
		h.wantZero(name, 2)
		c.Op = api.Trim
		h.want(name+", Trim", c, api.Done)
	}
}

// wantZero asks that a block of a wide disk reads as bytes 0.
func (h *host) wantZero(name string, lba int) {
	h.t.Helper()
	place := h.built(60, 0, wide().size())
	h.want(name, api.Command{Op: api.Read, Lba: lba, Count: 1, First: place[0], Second: place[1]}, api.Done)
	if got := h.gather(place, wide().size()); !bytes.Equal(got, make([]byte, len(got))) {
		h.t.Errorf("%s: lba %d: got %v", name, lba, got)
	}
}

// Bytes of two pages, of which the second is none; it does not count where one page does.
func TestT5BadSecondPage(t *testing.T) {
	p := plan{geometry(1, 6, 2, 72), 2, 0}
	h := oneQueue(t, p)
	for _, op := range moving {
		for _, second := range []int{8, pages + 4, pages + 32, mostMemory, 1 << 62} {
			h.want("the second page is none", api.Command{Op: op, Count: 1, First: pages + 16, Second: second}, api.BadField)
			h.want("one page does", api.Command{Op: op, Count: 1, First: pages + 8, Second: second}, api.Done)
		}
		h.want("the end of the memory", api.Command{Op: op, Count: 1, First: mostMemory - 52, Second: 1}, api.Done)
		h.want("the end of the memory, and on", api.Command{Op: op, Count: 1, First: mostMemory - 48, Second: mostMemory}, api.BadField)
	}
}

// Segments may end with the memory's last byte, and not one byte behind it.
func TestT5EndOfTheMemory(t *testing.T) {
	for _, n := range []int{256 + 2, 256 + 3, 256 + 4} {
		c := made(t, n, tiny())
		wantErr(t, "Queue", c.Queue(0, 0, 128, 2, 1), api.OK)
		wantErr(t, "Poke", c.Poke(0, encoded(t, api.Command{Op: api.Read, Count: 1, First: 256})), api.OK)
		wantErr(t, "Tail", c.Tail(0, 1), api.OK)
		_, err := c.Step()
		wantErr(t, "Step", err, api.OK)
		want := byte(api.Done)
		if n < 256+3 {
			want = api.BadField
		}
		if done, _ := c.Peek(128, doneBytes); done[6] != want {
			t.Errorf("a memory of %d bytes: %v", n, done)
		}
	}
}

// BadField of where the bytes lie comes ahead of Protected and of NoPower.
func TestT5BadFieldComesAheadOfTheDisk(t *testing.T) {
	for _, h := range []*host{offHost(t, tiny()), latchedHost(t)} {
		for _, op := range moving {
			for _, first := range []int{2, pages + 1, mostMemory, 1 << 62} {
				h.want("first", api.Command{Op: op, Count: 1, First: first}, api.BadField)
			}
		}
	}
	for most, p := range longest() {
		h := offHost(t, p)
		for _, op := range moving {
			h.want("too many bytes", api.Command{Op: op, Count: most + 1, First: pages, Second: pages}, api.BadField)
		}
		h.want("Trim moves nothing", api.Command{Op: api.Trim, Count: most + 1}, api.NoPower)
	}
}

// A latched disk changes nothing, and reads what it read.
func TestT5Protected(t *testing.T) {
	h := latchedHost(t)
	was := h.kept(1, 3)
	for range 2 {
		if got := h.keep(0, []byte{1, 1, 1}); got != api.Protected {
			t.Errorf("Write: Status %d", got)
		}
		h.want("Trim", api.Command{Op: api.Trim, Count: 2}, api.Protected)
		h.want("Flush", api.Command{Op: api.Flush}, api.Protected)
		h.wantKept("latched", 0, []byte{9, 8, 7})
		h.wantKept("latched", 1, was)
		wantErr(t, "Mount", h.Mount(), api.OK)
	}
	h.Cut(1)
	h.want("a latched disk meets no Cut", api.Command{Op: api.Trim, Count: 2}, api.Protected)
}

// A disk that comes to be latched at one of several blocks: those ahead are done, the others not.
func TestT5ProtectedOnTheWay(t *testing.T) {
	met := [3]int{}
	for ahead := range 12 {
		h := oneQueue(t, tiny())
		for lba := range 4 {
			h.keep(lba, []byte{1, 2, byte(lba)})
		}
		times(ahead, func() { h.keep(3, []byte{1, 2, 3}) })
		h.Fails(1)
		h.poke(pageAt(1), counted(9, 60))
		if h.do(api.Command{Op: api.Write, Count: 3, First: pageAt(1)}) != api.Protected {
			continue
		}
		done := 0
		for lba := range 3 {
			switch got := h.kept(lba, 3); {
			case bytes.Equal(got, counted(3, 60+3*lba)) && done == lba:
				done++
			case !bytes.Equal(got, []byte{1, 2, byte(lba)}):
				t.Errorf("%d ahead: lba %d reads %v, %d are done", ahead, lba, got, done)
			}
		}
		if done < len(met) {
			met[done]++
		}
	}
	if met[1]+met[2] == 0 {
		t.Errorf("no disk was latched on the way: %v", met)
	}
}

func TestT5NoPower(t *testing.T) {
	h := offHost(t, tiny())
	h.poke(pages, counted(64, 1))
	for range 2 {
		for _, op := range onBlocks {
			h.want("no power", api.Command{Op: op, Lba: 1, Count: 3, First: pages}, api.NoPower)
		}
		h.want("no power", api.Command{Op: api.Flush}, api.NoPower)
	}
	if got := h.peek(pages, 64); !bytes.Equal(got, counted(64, 1)) {
		t.Errorf("what was not read is scattered: %v", got)
	}
	wantErr(t, "Mount", h.Mount(), api.OK)
	h.wantBlocks("what was not written", 1, make([]byte, 9))
	for _, op := range allOps {
		h.want("power is back", api.Command{Op: op, Lba: 1, Count: 3, First: pages}, api.Done)
	}
}

// One of several blocks meets no power: those ahead are done, those behind it not, and it is as ahead or as the command says.
func TestT5NoPowerOnTheWay(t *testing.T) {
	for _, op := range []int{api.Write, api.Trim} {
		for cut := 1; cut <= 4; cut++ {
			h := oneQueue(t, plan{geometry(1, 12, 2, 24), 4, 0})
			old, fresh := counted(12, 0), counted(12, 100)
			h.poke(pageAt(1), old)
			h.want("old", api.Command{Op: api.Write, Count: 4, First: pageAt(1)}, api.Done)
			h.want("Flush", api.Command{Op: api.Flush}, api.Done)
			h.poke(pageAt(1), fresh)
			h.Cut(cut)
			h.want("cut", api.Command{Op: op, Count: 4, First: pageAt(1)}, api.NoPower)
			wantErr(t, "Mount", h.Mount(), api.OK)
			if op == api.Trim {
				clear(fresh)
			}
			name := fmt.Sprintf("op %d, cut %d", op, cut)
			at := 3 * (cut - 1)
			h.wantBlocks(name+", ahead", 0, fresh[:at])
			if got := h.kept(cut-1, 3); !bytes.Equal(got, old[at:at+3]) && !bytes.Equal(got, fresh[at:at+3]) {
				t.Errorf("%s: it reads %v", name, got)
			}
			h.wantBlocks(name+", behind", cut, old[at+3:])
		}
	}
}

// Where segments lie over one another what comes later stands, and a page is gathered as often as it is named.
func TestT5SegmentsOverOneAnother(t *testing.T) {
	p := wide()
	h := oneQueue(t, p)
	place, data := h.built(0, 0, p.size()), counted(p.size(), 9)
	h.scatter(place, p.size(), data)
	h.want("Write", api.Command{Op: api.Write, Count: 1, First: place[0], Second: place[1]}, api.Done)
	at, page := pageAt(40), pageAt(44)
	h.poke(at, numbers(page, page, page))
	h.want("Read", api.Command{Op: api.Read, Count: 1, First: page, Second: at}, api.Done)
	want := slices.Concat(data[192:], data[128+len(data)-192:192])
	if got := h.peek(page, pageBytes); !bytes.Equal(got, want) {
		t.Errorf("Read: got %v, want %v", got, want)
	}
	h.want("Write", api.Command{Op: api.Write, Lba: 1, Count: 1, First: page, Second: at}, api.Done)
	h.want("Read", api.Command{Op: api.Read, Lba: 1, Count: 1, First: place[0], Second: place[1]}, api.Done)
	again := slices.Concat(want, want, want, want)[:p.size()]
	if got := h.gather(place, p.size()); !bytes.Equal(got, again) {
		t.Errorf("Write of one page four times: got %v, want %v", got, again)
	}
}

// A Read that scatters over its own list goes on where the list said that it does.
func TestT5ReadOverItsOwnList(t *testing.T) {
	p := wide()
	h := oneQueue(t, p)
	place := h.built(0, 0, p.size())
	data := counted(p.size(), 30)
	h.scatter(place, p.size(), data)
	h.want("Write", api.Command{Op: api.Write, Count: 1, First: place[0], Second: place[1]}, api.Done)
	at := pageAt(40)
	h.poke(at, numbers(at, pageAt(41), pageAt(43)))
	h.want("Read", api.Command{Op: api.Read, Count: 1, First: pageAt(42), Second: at}, api.Done)
	got := slices.Concat(h.peek(pageAt(42), 64), h.peek(at, 64), h.peek(pageAt(41), 64), h.peek(pageAt(43), p.size()-192))
	if !bytes.Equal(got, data) {
		t.Errorf("got %v, want %v", got, data)
	}
}

// A Read that scatters over its own command has its Id all the same, and over its own completion leaves the completion.
func TestT5ReadOverItsOwnSlots(t *testing.T) {
	h := oneQueue(t, tiny())
	h.keep(0, []byte{0xaa, 0xbb, 0xcc})
	h.keep(1, []byte{0xdd, 0xee, 0xff})
	at := sqOf(0) + 2*commandBytes
	h.want("over its command", api.Command{Op: api.Read, Id: 0x0102, Count: 2, First: at}, api.Done)
	if got := h.peek(at, 7); !bytes.Equal(got, []byte{0xaa, 0xbb, 0xcc, 0xdd, 0xee, 0xff, 0}) {
		t.Errorf("over its command: %v", got)
	}
	at = cqOf(0) + 3*doneBytes
	h.send(0, api.Command{Op: api.Read, Id: 0x0304, Count: 2, First: at - 4})
	h.wantStep("over its completion", 0)
	h.wantDone("over its completion", 0, 3, api.Completion{Id: 0x0304, Phase: true})
	if got := h.peek(at-4, 4); !bytes.Equal(got, []byte{0xaa, 0xbb, 0xcc, 0xdd}) {
		t.Errorf("ahead of its completion: %v", got)
	}
}

// A Read may write the command behind it, which is then carried out as it stands there.
func TestT5ReadWritesTheNextCommand(t *testing.T) {
	p := plan{geometry(1, 6, 2, 88), 4, 0}
	h := oneQueue(t, p)
	next := encoded(t, api.Command{Op: api.Trim, Id: 4711, Lba: 9, Count: 1})
	h.poke(pageAt(0), next)
	h.want("to keep a command", api.Command{Op: api.Write, Count: 1, First: pageAt(0), Second: pageAt(1)}, api.Done)
	h.send(0, api.Command{Op: api.Read, Count: 1, First: sqOf(0) + 2*commandBytes, Second: pageAt(2)})
	h.send(0, api.Command{Op: api.Flush, Id: 1})
	h.wantStep("the Read", 0)
	h.reap(0)
	h.wantStep("the command that it wrote", 0)
	if d := h.reap(0); d.Id != 4711 || d.Status != api.BadLba {
		t.Errorf("the command that it wrote: %+v", d)
	}
}

// Queues share the disk: what one writes another reads.
func TestT5ThroughSeveralQueues(t *testing.T) {
	h := newHost(t, tiny())
	for id := range mostQueues {
		h.queue(id, 2+id, 1+id)
	}
	for i := range 40 {
		writer, reader := i%4, (i/4+i)%4
		data := counted(3, i)
		h.poke(pageAt(i), data)
		h.send(writer, api.Command{Op: api.Write, Id: i, Lba: i % 4, Count: 1, First: pageAt(i)})
		h.wantStep("Write", writer)
		if d := h.reap(writer); d.Id != i || d.Status != api.Done {
			t.Errorf("Write %d: %+v", i, d)
		}
		h.send(reader, api.Command{Op: api.Read, Id: 500 + i, Lba: i % 4, Count: 1, First: pageAt(50 + i)})
		h.wantStep("Read", reader)
		if d := h.reap(reader); d.Id != 500+i || d.Status != api.Done {
			t.Errorf("Read %d: %+v", i, d)
		}
		if got := h.peek(pageAt(50+i), 4); !bytes.Equal(got, append(data, 0)) {
			t.Errorf("Read %d: got %v, want %v", i, got, data)
		}
	}
}

// wantOnly asks that a memory is changed nowhere but in a completion and in segments.
func wantOnly(t *testing.T, name string, was, is []byte, done int, l []api.Segment) {
	t.Helper()
	may := make([]bool, len(was))
	for _, s := range append(l, api.Segment{At: done, Long: doneBytes}) {
		for i := range s.Long {
			may[s.At+i] = true
		}
	}
	for i := range was {
		if was[i] != is[i] && !may[i] {
			t.Fatalf("%s: byte %d is changed, from %d to %d", name, i, was[i], is[i])
		}
	}
}

// littered gives bytes in which commands, lists and lone bytes stand anyhow; often they lead to one another.
func littered(random *rand.Rand, n, lbas int) []byte {
	b := make([]byte, n)
	if random.Intn(3) == 0 {
		random.Read(b)
	}
	for at := 0; at+8 <= n; at += 8 {
		switch random.Intn(6) {
		case 0:
			copy(b[at:], numbers(random.Intn(n/64+1)*64))
		case 1:
			copy(b[at:], numbers(random.Intn(n)))
		}
	}
	for at := 0; at+64 <= n; at += 64 {
		if random.Intn(3) > 0 {
			b[at] = byte(random.Intn(6))
			copy(b[at+8:at+20], append(numbers(random.Intn(lbas+1)), byte(random.Intn(lbas+2)), 0, 0, 0))
			copy(b[at+24:], numbers(random.Intn(n/4+1)*4, random.Intn(n/8+1)*8))
		}
	}
	return b
}

// Whatever stands in the memory each Step ends, and the memory changes only where it must. This is asked without a model: of the bytes ahead of a Step, and those behind it.
func TestT6MemoryChangesOnlyWhereItMust(t *testing.T) {
	plans := []plan{tiny(), {geometry(1, 7, 2, 64), 6, 0}, {geometry(1, 6, 8, 256), 9, 0}}
	status := [6]int{}
	moved := 0
	for seed := range 300 {
		random := rand.New(rand.NewSource(int64(seed)))
		p := plans[seed%len(plans)]
		n := 512 + random.Intn(3000)
		size := 2 + random.Intn(7)
		sq, cq := random.Intn((n-size*64)/64+1)*64, random.Intn((n-size*16)/16+1)*16
		c := made(t, n, p)
		wantErr(t, "Queue", c.Queue(2, sq, cq, size, 1), api.OK)
		wantErr(t, "Poke", c.Poke(0, littered(random, n, p.lbas)), api.OK)
		for step := range 60 {
			if random.Intn(10) == 0 {
				c.Cut(1 + random.Intn(3))
			}
			if random.Intn(10) == 0 {
				wantErr(t, "Mount", c.Mount(), api.OK)
			}
			wantErr(t, "Tail", c.Tail(2, (step+1)%size), api.OK)
			wantErr(t, "Head", c.Head(2, step%size), api.OK)
			was, _ := c.Peek(0, n)
			id, err := c.Step()
			if id != 2 || err != nil {
				t.Fatalf("seed %d, step %d: %d, %v", seed, step, id, err)
			}
			is, _ := c.Peek(0, n)
			done := cq + step%size*doneBytes
			status[is[done+6]]++
			l := segmentsOf(t, was, sq+step%size*commandBytes, p.size(), int(is[done+6]))
			moved += len(l)
			wantOnly(t, fmt.Sprintf("seed %d, step %d", seed, step), was, is, done, l)
		}
	}
	for s, n := range status {
		if n == 0 && s != api.Protected {
			t.Errorf("no command was of Status %d", s)
		}
	}
	if moved < 100 {
		t.Errorf("only %d segments were read into", moved)
	}
}

// segmentsOf gives where a command of that Status may write: if it is a Read that is Done, its segments.
func segmentsOf(t *testing.T, memory []byte, at, size, status int) []api.Segment {
	t.Helper()
	c, err := cmd.Decode(memory[at : at+commandBytes])
	if err != nil || c.Op != api.Read || status != api.Done {
		return nil
	}
	l, err := list.Walk(memoryOf(t, memory), c.First, c.Second, c.Count*size)
	if err != nil {
		t.Fatalf("%+v is Done: %v", c, err)
	}
	return l
}

// Lists that go round end, as each page of them has bytes.
func TestT6ListsThatGoRound(t *testing.T) {
	p := plan{geometry(1, 5, 16, 256), 16, 0}
	for _, at := range []int{pageAt(3), pageAt(3) + 56} {
		h := oneQueue(t, p)
		for i := range 8 {
			h.number(pageAt(3)+8*i, pageAt(3))
		}
		for _, op := range moving {
			h.want("a list of one page", api.Command{Op: op, Count: 8, First: pageAt(3), Second: at}, api.Done)
		}
	}
	h := oneQueue(t, p)
	h.number(pageAt(3)+56, pageAt(4))
	h.number(pageAt(4)+56, pageAt(3))
	for _, op := range moving {
		h.want("two pages in turn", api.Command{Op: op, Count: 8, First: pageAt(9), Second: pageAt(3) + 56}, api.Done)
	}
}
