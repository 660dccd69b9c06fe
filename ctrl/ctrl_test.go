package ctrl_test

import (
	"bytes"
	"fmt"
	"math"
	"slices"
	"testing"

	"granary/api"
	"granary/cmd"
	"granary/ctrl"
	"granary/disk"
	"granary/list"
	"granary/plain"
)

// wantNew asks for an error of New, beside which there is no controller.
func wantNew(t *testing.T, name string, n int, p plan, want api.Errno) {
	t.Helper()
	c, err := ctrl.New(n, p.g, p.lbas, p.spare)
	if got := plain.Told(err); got != want {
		t.Errorf("%s: New(%d, %+v): got %v, want %v", name, n, p, got, want)
	}
	if (c == nil) != (want != api.OK) {
		t.Errorf("%s: New(%d, %+v): controller %v beside %v", name, n, p, c, err)
	}
}

// noMemories are numbers of bytes that no memory has. Some have, in their lowest bytes, one that a memory may have.
func noMemories() []int {
	return []int{-1, -2, -mostMemory, mostMemory + 1, mostMemory + 2, 65536, 1 << 32, 1<<32 + 64, math.MaxInt, math.MinInt}
}

func TestT1NewSaysWhatMemSays(t *testing.T) {
	for _, n := range []int{0, 1, 63, 64, mostMemory - 1, mostMemory} {
		wantNew(t, "a memory that may be", n, tiny(), api.OK)
	}
	for _, n := range noMemories() {
		wantNew(t, "no memory", n, tiny(), api.ErrRange)
	}
}

// noDisks are disks that there are not, by what disk's New says of them.
func noDisks() map[api.Errno][]plan {
	return map[api.Errno][]plan{
		api.ErrRange: {
			{geometry(0, 6, 2, 24), 2, 0}, {geometry(5, 6, 2, 24), 2, 0}, {geometry(1, 17, 2, 24), 2, 0},
			{geometry(1, 6, 0, 24), 2, 0}, {geometry(1, 6, 2, 25), 2, 0}, {geometry(1, 6, 2, 264), 2, 0},
			{geometry(1, 6, 2, 24), 0, 0}, {geometry(1, 6, 2, 24), 257, 0}, {geometry(1, 6, 2, 24), 2, -1},
		},
		api.ErrShape: {{geometry(1, 6, 2, 16), 2, 0}, {geometry(1, 6, 2, 8), 0, 0}},
		api.ErrFull:  {{geometry(1, 6, 2, 24), 5, 0}, {geometry(1, 6, 2, 24), 3, 1}, {geometry(1, 4, 2, 24), 1, 0}, {tiny().g, 1, math.MaxInt}},
	}
}

func TestT1NewSaysWhatDiskSays(t *testing.T) {
	for want, plans := range noDisks() {
		for _, p := range plans {
			for _, n := range []int{0, 512, mostMemory} {
				wantNew(t, "no disk", n, p, want)
			}
		}
	}
}

func TestT1NewSaysWhatMemSaysFirst(t *testing.T) {
	for _, plans := range noDisks() {
		for _, p := range plans {
			for _, n := range noMemories() {
				wantNew(t, "neither memory nor disk", n, p, api.ErrRange)
			}
		}
	}
}

func TestT1PeekAndPoke(t *testing.T) {
	const n = 100
	c := made(t, n, tiny())
	want := make([]byte, n)
	for at := range n {
		for long := 0; at+long <= n; long += 7 {
			data := counted(long, at+long)
			copy(want[at:], data)
			wantErr(t, "Poke", c.Poke(at, data), api.OK)
			if got, err := c.Peek(at, long); err != nil || !bytes.Equal(got, data) {
				t.Errorf("Peek(%d, %d): got %v, %v, want %v", at, long, got, err, data)
			}
		}
	}
	if got, err := c.Peek(0, n); err != nil || !bytes.Equal(got, want) {
		t.Errorf("Peek of all: got %v, %v, want %v", got, err, want)
	}
}

func TestT1PeekAndPokeBeyondTheMemory(t *testing.T) {
	const n = 100
	c := made(t, n, tiny())
	wantErr(t, "no bytes at the end", c.Poke(n, nil), api.OK)
	if got, err := c.Peek(n, 0); err != nil || len(got) != 0 {
		t.Errorf("Peek of no bytes at the end: %v, %v", got, err)
	}
	for _, place := range [][2]int{{-1, 1}, {-1, 0}, {n, 1}, {n + 1, 0}, {n - 1, 2}, {0, n + 1}, {math.MaxInt, 1}, {math.MinInt, 1}} {
		name := fmt.Sprintf("%d bytes from %d on", place[1], place[0])
		wantErr(t, "Poke of "+name, c.Poke(place[0], counted(place[1], 1)), api.ErrRange)
		wantNoBytes(t, c, name, place[0], place[1])
	}
	for _, place := range [][2]int{{0, -1}, {5, math.MinInt}, {math.MaxInt, math.MaxInt}, {1, math.MaxInt}} {
		wantNoBytes(t, c, fmt.Sprint(place), place[0], place[1])
	}
	if got, err := c.Peek(0, n); err != nil || !bytes.Equal(got, make([]byte, n)) {
		t.Errorf("what was refused stands in the memory: %v, %v", got, err)
	}
}

func wantNoBytes(t *testing.T, c *ctrl.Ctrl, name string, at, n int) {
	t.Helper()
	got, err := c.Peek(at, n)
	if got != nil || plain.Told(err) != api.ErrRange {
		t.Errorf("Peek of %s: got %v, %v, want ErrRange", name, got, err)
	}
}

// What is handed in is not kept, and what comes out is the caller's.
func TestT1MemoryIsNotShared(t *testing.T) {
	c := made(t, 8, tiny())
	data := []byte{1, 2, 3, 4}
	wantErr(t, "Poke", c.Poke(0, data[:2]), api.OK)
	data[0] = 9
	got, _ := c.Peek(0, 3)
	got[1] = 9
	if again, _ := c.Peek(0, 3); !slices.Equal(again, []byte{1, 2, 0}) || !slices.Equal(data, []byte{9, 2, 3, 4}) {
		t.Errorf("the memory is %v, what was handed in %v", again, data)
	}
}

// Size is the disk's, of each disk that can be.
func TestT1Size(t *testing.T) {
	for bytes := 24; bytes <= 256; bytes += 8 {
		g := geometry(1, 6, 2, bytes)
		d, err := disk.New(g, 2, 0)
		if err != nil {
			t.Fatal(err)
		}
		if got := made(t, 0, plan{g, 2, 0}).Size(); got != d.Size() {
			t.Errorf("pages of %d bytes: Size %d, of the disk %d", bytes, got, d.Size())
		}
	}
}

// Build does to the memory what list's Build does to one of as many bytes, and answers the same.
func TestT1Build(t *testing.T) {
	const n = 1024
	for long := 0; long <= n; long += 32 {
		for _, at := range []int{0, 8, 64, 960, n, -64, math.MaxInt} {
			for _, offset := range []int{0, 4, 2, 64} {
				var pages []int
				for page := 64; page < 64+offset+long; page += 64 {
					pages = append(pages, page)
				}
				c, m := made(t, n, tiny()), memoryOf(t, make([]byte, n))
				first, second, err := c.Build(at, pages, offset, long)
				wantFirst, wantSecond, wantErr := list.Build(m, at, pages, offset, long)
				if first != wantFirst || second != wantSecond || plain.Told(err) != plain.Told(wantErr) {
					t.Errorf("Build(%d, %v, %d, %d): got %d, %d, %v, want %d, %d, %v", at, pages, offset, long, first, second, err, wantFirst, wantSecond, wantErr)
				}
				got, err := c.Peek(0, n)
				want, _ := m.Read(0, n)
				if err != nil || !bytes.Equal(got, want) {
					t.Errorf("Build(%d, %v, %d, %d): the memory is another", at, pages, offset, long)
				}
			}
		}
	}
}

// Power is lost at the program that Cut names, and no other Cut counts; it comes back by Mount.
func TestT1CutAndMount(t *testing.T) {
	for n := -1; n <= 4; n++ {
		h := oneQueue(t, tiny())
		h.Cut(1)
		h.Cut(n)
		for i := 1; i <= 4; i++ {
			want := api.Done
			if n >= 1 && i >= n {
				want = api.NoPower
			}
			if got := h.keep(0, counted(3, i)); got != want {
				t.Errorf("Cut(%d), write %d: Status %d, want %d", n, i, got, want)
			}
		}
		wantErr(t, "Mount", h.Mount(), api.OK)
		h.want("behind Mount", api.Command{Op: api.Flush}, api.Done)
	}
}

// To mount a disk that has power lets it read as it did.
func TestT1MountWithPower(t *testing.T) {
	h := oneQueue(t, tiny())
	h.keep(2, []byte{4, 5, 6})
	h.want("flush", api.Command{Op: api.Flush}, api.Done)
	wantErr(t, "Mount", h.Mount(), api.OK)
	h.wantKept("behind Mount", 2, []byte{4, 5, 6})
}

// Erases fail as often as Fails says: of a disk that may have one bad block the second that fails latches it.
func TestT1Fails(t *testing.T) {
	p := plan{geometry(1, 7, 2, 24), 2, 1}
	for n := -1; n <= 3; n++ {
		h := oneQueue(t, p)
		h.Fails(5)
		h.Fails(n)
		protected := false
		for i := range 60 {
			switch got := h.keep(i%2, counted(3, i)); {
			case got == api.Protected:
				protected = true
			case got != api.Done || protected:
				t.Fatalf("Fails(%d), write %d: Status %d", n, i, got)
			}
		}
		if protected != (n >= 2) {
			t.Errorf("Fails(%d): protected %v", n, protected)
		}
	}
}

// wantQueue asks what Queue says of a controller that has no queue yet.
func wantQueue(t *testing.T, n, id, sq, cq, size, weight int, want api.Errno) {
	t.Helper()
	c := made(t, n, tiny())
	wantErr(t, fmt.Sprintf("memory of %d: Queue(%d, %d, %d, %d, %d)", n, id, sq, cq, size, weight), c.Queue(id, sq, cq, size, weight), want)
	there := api.OK
	if want != api.OK {
		there = api.ErrNone
	}
	if 0 <= id && id < mostQueues {
		_, err := c.Rings(id)
		wantErr(t, "whether it is there", err, there)
	}
}

func noIds() []int {
	return []int{-1, -2, -mostQueues, mostQueues, mostQueues + 1, 256, 1 << 32, math.MaxInt, math.MinInt}
}

func TestT2Ids(t *testing.T) {
	for id := range mostQueues {
		wantQueue(t, mostMemory, id, 0, 4096, 4, 1, api.OK)
	}
	for _, id := range noIds() {
		wantQueue(t, mostMemory, id, 0, 4096, 4, 1, api.ErrRange)
	}
}

func TestT2Sizes(t *testing.T) {
	for size := 2; size <= mostSlots; size++ {
		wantQueue(t, mostMemory, 1, 0, 4096, size, 1, api.OK)
	}
	for _, size := range []int{1, 0, -1, -2, mostSlots + 1, 256 + 2, 1<<32 + 2, math.MaxInt, math.MinInt} {
		wantQueue(t, mostMemory, 1, 0, 4096, size, 1, api.ErrRange)
	}
}

func TestT2Weights(t *testing.T) {
	for weight := 1; weight <= mostWeight; weight++ {
		wantQueue(t, mostMemory, 1, 0, 4096, 4, weight, api.OK)
	}
	for _, weight := range []int{0, -1, -mostWeight, mostWeight + 1, 256 + 1, 1<<32 + 1, math.MaxInt, math.MinInt} {
		wantQueue(t, mostMemory, 1, 0, 4096, 4, weight, api.ErrRange)
	}
}

func TestT2Multiples(t *testing.T) {
	for at := range 3 * commandBytes {
		wantSq, wantCq := api.OK, api.OK
		if at%64 != 0 {
			wantSq = api.ErrShape
		}
		if at%16 != 0 {
			wantCq = api.ErrShape
		}
		wantQueue(t, mostMemory, 2, at, 4096, 3, 1, wantSq)
		wantQueue(t, mostMemory, 2, 4096, at, 3, 1, wantCq)
	}
	for _, at := range []int{-1, -8, -63, -65, math.MaxInt, math.MinInt + 1} {
		wantQueue(t, mostMemory, 2, at, 4096, 3, 1, api.ErrShape)
		wantQueue(t, mostMemory, 2, 4096, at, 3, 1, api.ErrShape)
	}
}

// Slots may end with the memory's last byte, and not one byte behind it.
func TestT2SlotsLieInTheMemory(t *testing.T) {
	for size := 2; size <= mostSlots; size++ {
		for _, at := range []int{0, 64, 1024} {
			wantQueue(t, at+size*64, 0, at, 0, size, 1, api.OK)
			wantQueue(t, at+size*64-1, 0, at, 0, size, 1, api.ErrRange)
			end := max(at+size*16, size*64)
			wantQueue(t, end, 0, 0, end-size*16, size, 1, api.OK)
			wantQueue(t, end+15, 0, 0, (end+15)/16*16-size*16, size, 1, api.OK)
			wantQueue(t, end, 0, 0, end-size*16+16, size, 1, api.ErrRange)
			wantQueue(t, end+15, 0, 0, end-size*16+16, size, 1, api.ErrRange)
		}
	}
	for _, at := range []int{-64, -128, math.MinInt, math.MaxInt - 63, mostMemory, mostMemory - 64, 1 << 32, 1 << 62} {
		wantQueue(t, mostMemory, 0, at, 0, 2, 1, api.ErrRange)
	}
	for _, at := range []int{-16, -64, math.MinInt, math.MaxInt - 15, mostMemory, mostMemory - 16, 1 << 32, 1 << 62} {
		wantQueue(t, mostMemory, 0, 0, at, 2, 1, api.ErrRange)
	}
	for _, n := range []int{0, 1, 16, 64, 127} {
		wantQueue(t, n, 0, 0, 0, 2, 1, api.ErrRange)
	}
}

// fault is one thing that is wrong with a call of Queue.
type fault struct {
	told  api.Errno
	spoil func(id, sq, cq, size, weight *int)
}

// faults stand in the order in which the chapter names them, but for that of a queue that is there already.
func faults() (ahead, behind []fault) {
	ahead = []fault{
		{api.ErrRange, func(id, sq, cq, size, weight *int) { *id = mostQueues }},
		{api.ErrRange, func(id, sq, cq, size, weight *int) { *size = 1 }},
		{api.ErrRange, func(id, sq, cq, size, weight *int) { *weight = 17 }},
	}
	behind = []fault{
		{api.ErrShape, func(id, sq, cq, size, weight *int) { *sq += 8 }},
		{api.ErrShape, func(id, sq, cq, size, weight *int) { *cq += 8 }},
		{api.ErrRange, func(id, sq, cq, size, weight *int) { *sq += mostMemory }},
		{api.ErrRange, func(id, sq, cq, size, weight *int) { *cq += mostMemory }},
	}
	return ahead, behind
}

// Whatever faults come together, that one is told that the chapter names first.
func TestT2QueueFaultsInTheirOrder(t *testing.T) {
	ahead, behind := faults()
	all := slices.Concat(ahead, behind)
	c := made(t, mostMemory, tiny())
	wantErr(t, "the queue that is there", c.Queue(1, 0, 4096, 4, 1), api.OK)
	for chosen := range 1 << len(all) {
		for _, there := range []bool{false, true} {
			id, sq, cq, size, weight := 2, 64, 4096, 3, 5
			if there {
				id = 1
			}
			want := api.OK
			for i, f := range all {
				if i == len(ahead) && there && want == api.OK {
					want = api.ErrState
				}
				if chosen>>i&1 == 0 {
					continue
				}
				f.spoil(&id, &sq, &cq, &size, &weight)
				if want == api.OK {
					want = f.told
				}
			}
			name := fmt.Sprintf("Queue(%d, %d, %d, %d, %d)", id, sq, cq, size, weight)
			wantErr(t, name, c.Queue(id, sq, cq, size, weight), want)
			if want == api.OK {
				wantErr(t, name+": Drop", c.Drop(id), api.OK)
			}
		}
	}
}

// A queue that is there stays as it is, where another by its id is refused.
func TestT2QueueThatIsThereAlready(t *testing.T) {
	h := oneQueue(t, tiny())
	h.post(0)
	h.send(0, api.Command{Op: api.Flush, Id: 77})
	wantErr(t, "the same", h.Queue(0, sqOf(0), cqOf(0), 4, 1), api.ErrState)
	wantErr(t, "another", h.Queue(0, sqOf(1), cqOf(1), 5, 2), api.ErrState)
	h.wantRings("refused", 0, 1)
	h.wantStep("refused", 0)
	if d := h.reap(0); d.Id != 77 {
		t.Errorf("refused: %+v", d)
	}
}

// All four at a time, each with slots of its own; and some that share theirs, which nothing forbids.
func TestT2ManyQueues(t *testing.T) {
	h := newHost(t, tiny())
	for id := range mostQueues {
		h.queue(id, 2+id, 1)
	}
	for id := range mostQueues {
		wantErr(t, "there already", h.Queue(id, 0, 0, 2, 1), api.ErrState)
		h.post(id)
	}
	c := made(t, 128, tiny())
	for id := range mostQueues {
		wantErr(t, "all in one place", c.Queue(id, 0, 0, 2, 1), api.OK)
	}
}

// byName are all calls that name a queue, with what they are told otherwise: fair, or wrong.
func byName(c *ctrl.Ctrl) map[string]func(id int, wrong bool) error {
	told := func(wrong bool, fair, bad int) int {
		if wrong {
			return bad
		}
		return fair
	}
	return map[string]func(id int, wrong bool) error{
		"Tail": func(id int, wrong bool) error { return c.Tail(id, told(wrong, 0, -1)) },
		"Head": func(id int, wrong bool) error { return c.Head(id, told(wrong, 0, mostSlots)) },
		"Calm": func(id int, wrong bool) error { return c.Calm(id, told(wrong, 1, 0), told(wrong, 0, -1)) },
		"Mask": func(id int, wrong bool) error { return c.Mask(id, wrong) },
		"Rings": func(id int, wrong bool) error {
			n, err := c.Rings(id)
			if n != 0 {
				return api.ErrLost
			}
			return err
		},
		"Drop": func(id int, wrong bool) error { return c.Drop(id) },
	}
}

// wantNamed asks what all calls that name a queue say of one.
func wantNamed(t *testing.T, name string, c *ctrl.Ctrl, id int, want api.Errno) {
	t.Helper()
	for call, do := range byName(c) {
		for _, wrong := range []bool{false, true} {
			wantErr(t, fmt.Sprintf("%s: %s of %d, wrong %v", name, call, id, wrong), do(id, wrong), want)
		}
	}
}

// ErrRange of the id comes first, then ErrNone, then all else.
func TestT2AllThatNameAQueue(t *testing.T) {
	h := newHost(t, tiny())
	for id := range mostQueues {
		wantNamed(t, "none is there", h.Ctrl, id, api.ErrNone)
	}
	h.queue(1, 4, 1)
	for _, id := range noIds() {
		wantNamed(t, "no such id", h.Ctrl, id, api.ErrRange)
	}
	for _, id := range []int{0, 2, 3} {
		wantNamed(t, "another one is there", h.Ctrl, id, api.ErrNone)
	}
	h.post(1)
	h.wantRings("what was refused of others", 1, 1)
	h.drop(1)
	wantNamed(t, "dropped", h.Ctrl, 1, api.ErrNone)
	h.wantIdle("none is there any more")
}

// Made anew, a queue has nothing of the one that was dropped: neither ends, nor phases, nor a bell.
func TestT2DropAndMadeAnew(t *testing.T) {
	h := newHost(t, tiny())
	h.queue(2, 3, 4)
	times(4, func() { h.post(2) })
	wantErr(t, "Calm", h.Calm(2, 9, 9), api.OK)
	wantErr(t, "Mask", h.Mask(2, true), api.OK)
	h.send(2, api.Command{Op: api.Flush})
	h.drop(2)
	h.wantIdle("dropped")
	h.queue(2, 5, 1)
	h.wantIdle("made anew")
	h.wantRings("made anew", 2, 0)
	for i := range 12 {
		h.post(2) // at slot 0 first, with the Phases from the first round on
		h.wantRings("made anew, and rung for each", 2, i+1)
	}
}

// What a queue's slots hold is the host's: neither Queue nor Drop changes the memory.
func TestT2MemoryStays(t *testing.T) {
	h := newHost(t, tiny())
	h.poke(0, counted(mostMemory, 3))
	was := h.all()
	h.queue(0, 16, 1)
	wantErr(t, "Tail", h.Tail(0, 7), api.OK)
	wantErr(t, "Head", h.Head(0, 9), api.OK)
	wantErr(t, "Calm", h.Calm(0, 2, 2), api.OK)
	h.Tick()
	h.drop(0)
	h.queue(0, 2, 1)
	if !bytes.Equal(h.all(), was) {
		t.Error("the memory is changed without a Step")
	}
}

func noSlots(size int) []int {
	return []int{-1, -2, -size, size, size + 1, 256, 1 << 32, 1<<32 + 1, math.MaxInt, math.MinInt}
}

func TestT2SlotsOfTailAndHead(t *testing.T) {
	for size := 2; size <= mostSlots; size++ {
		h := newHost(t, tiny())
		h.queue(3, size, 1)
		for slot := range size {
			wantErr(t, fmt.Sprintf("Tail(%d) of %d", slot, size), h.Tail(3, slot), api.OK)
			wantErr(t, fmt.Sprintf("Head(%d) of %d", slot, size), h.Head(3, slot), api.OK)
		}
		for _, slot := range noSlots(size) {
			wantErr(t, fmt.Sprintf("Tail(%d) of %d", slot, size), h.Tail(3, slot), api.ErrRange)
			wantErr(t, fmt.Sprintf("Head(%d) of %d", slot, size), h.Head(3, slot), api.ErrRange)
		}
	}
}

// stepAll tells how many commands are carried out, where each completion is read at once.
func (h *host) stepAll() int {
	h.t.Helper()
	for n := range 100 {
		id, err := h.Step()
		if err != nil {
			wantErr(h.t, "Step", err, api.ErrNone)
			return n
		}
		h.reap(id)
	}
	h.t.Fatal("something waits without an end")
	return 0
}

// However the tail was told, that one counts which was told last: so many wait as there are slots from the head up to it.
func TestT2TailThatWasToldLast(t *testing.T) {
	const size = 5
	for head := range size {
		for first := range size {
			for last := range size {
				h := newHost(t, tiny())
				h.queue(0, size, 1)
				times(head, func() { h.post(0) })
				wantErr(t, "Tail", h.Tail(0, first), api.OK)
				wantErr(t, "Tail", h.Tail(0, last), api.OK)
				wantErr(t, "no such slot", h.Tail(0, size), api.ErrRange)
				if got, want := h.stepAll(), (last-head+size)%size; got != want {
					t.Errorf("head %d, tails %d, %d: %d were carried out, want %d", head, first, last, got, want)
				}
			}
		}
	}
}

// However the head was told, that one counts which was told last: completions go up to the slot that is ahead of it by one.
func TestT2HeadThatWasToldLast(t *testing.T) {
	const size = 5
	for put := range size {
		for first := range size {
			for last := range size {
				h := newHost(t, tiny())
				h.queue(0, size, 1)
				times(put, func() { h.post(0) })
				wantErr(t, "Head", h.Head(0, first), api.OK)
				wantErr(t, "Head", h.Head(0, last), api.OK)
				wantErr(t, "no such slot", h.Head(0, size), api.ErrRange)
				wantErr(t, "Tail", h.Tail(0, (put-1+size)%size), api.OK)
				got := 0
				for ; got < 100; got++ {
					if _, err := h.Step(); err != nil {
						break
					}
				}
				if want := (last - 1 - put + 2*size) % size; got != want {
					t.Errorf("%d put, heads %d, %d: %d were carried out, want %d", put, first, last, got, want)
				}
			}
		}
	}
}

// wantDone asks for a completion, all its 16 bytes.
func (h *host) wantDone(name string, id, slot int, want api.Completion) {
	h.t.Helper()
	b := h.peek(cqOf(id)+slot*doneBytes, doneBytes)
	wantBytes, err := cmd.EncodeDone(want)
	if err != nil || !bytes.Equal(b, wantBytes) {
		h.t.Errorf("%s: queue %d, slot %d: got %v, want %v", name, id, slot, b, wantBytes)
	}
}

// At first a bell rings at each completion.
func TestT3FirstBell(t *testing.T) {
	h := newHost(t, tiny())
	for id := range mostQueues {
		h.queue(id, 3, 1)
		h.wantRings("at first", id, 0)
		for i := range 7 {
			h.post(id)
			h.wantRings("behind each", id, i+1)
			h.Tick()
			h.wantRings("behind a tick of nothing", id, i+1)
		}
	}
}

func TestT3CalmLimits(t *testing.T) {
	for _, limit := range []int{1, 2, 3, 63, 64} {
		h := oneQueue(t, tiny())
		wantErr(t, "Calm", h.Calm(0, limit, 1000), api.OK)
		for round := range 2 {
			times(limit-1, func() { h.post(0) })
			h.wantRings(fmt.Sprintf("limit %d, one fewer", limit), 0, round)
			h.post(0)
			h.wantRings(fmt.Sprintf("limit %d, as many", limit), 0, round+1)
		}
	}
}

func TestT3CalmDelays(t *testing.T) {
	for _, delay := range []int{1, 2, 999, 1000} {
		h := oneQueue(t, tiny())
		wantErr(t, "Calm", h.Calm(0, 64, delay), api.OK)
		for round := range 2 {
			h.post(0)
			times(delay-1, h.Tick)
			h.wantRings(fmt.Sprintf("delay %d, one tick fewer", delay), 0, round)
			h.Tick()
			h.wantRings(fmt.Sprintf("delay %d, as many", delay), 0, round+1)
		}
	}
	h := oneQueue(t, tiny())
	wantErr(t, "Calm", h.Calm(0, 64, 0), api.OK)
	h.post(0)
	h.wantRings("delay 0", 0, 1)
}

// What bell's New refuses changes nothing: neither what waits nor the bell's limit and delay.
func TestT3CalmRefused(t *testing.T) {
	for _, wrong := range [][2]int{{0, 0}, {-1, 0}, {65, 0}, {1 << 32, 0}, {math.MinInt, 5}, {math.MaxInt, 5}, {1, -1}, {64, 1001}, {64, math.MaxInt}, {1, math.MinInt}, {0, -1}, {65, 1001}} {
		h := oneQueue(t, tiny())
		wantErr(t, "Calm", h.Calm(0, 3, 5), api.OK)
		h.post(0)
		h.post(0)
		wantErr(t, fmt.Sprintf("Calm(0, %d, %d)", wrong[0], wrong[1]), h.Calm(0, wrong[0], wrong[1]), api.ErrRange)
		h.wantRings("refused", 0, 0)
		h.post(0)
		h.wantRings("refused: the third", 0, 1)
		h.post(0)
		times(4, h.Tick)
		h.wantRings("refused: four ticks", 0, 1)
		h.Tick()
		h.wantRings("refused: five ticks", 0, 2)
	}
}

func TestT3CalmForgetsWhatWaited(t *testing.T) {
	h := oneQueue(t, tiny())
	wantErr(t, "Calm", h.Calm(0, 3, 5), api.OK)
	h.post(0)
	h.post(0)
	times(4, h.Tick)
	wantErr(t, "Calm", h.Calm(0, 3, 5), api.OK)
	times(20, h.Tick)
	h.wantRings("what waited is forgotten", 0, 0)
	h.post(0)
	h.post(0)
	h.wantRings("two of three", 0, 0)
	times(4, h.Tick)
	h.wantRings("four ticks of five", 0, 0)
	h.post(0)
	h.wantRings("three", 0, 1)
	h.post(0)
	wantErr(t, "Calm to a limit that would have rung", h.Calm(0, 1, 0), api.OK)
	h.wantRings("forgotten, not rung for", 0, 1)
}

func TestT3RingsGoOn(t *testing.T) {
	h := newHost(t, tiny())
	h.queue(0, 4, 1)
	h.queue(1, 4, 1)
	want := 0
	for i := range 6 {
		for range i {
			h.post(0)
			want++
			h.wantRings("behind each", 0, want)
		}
		wantErr(t, "Calm", h.Calm(0, 1, i), api.OK)
		h.wantRings("behind Calm", 0, want)
		h.wantRings("of another", 1, 0)
	}
}

// A bell that is made anew is not masked.
func TestT3CalmTakesTheMaskOff(t *testing.T) {
	h := oneQueue(t, tiny())
	wantErr(t, "Mask", h.Mask(0, true), api.OK)
	h.post(0)
	h.wantRings("masked", 0, 0)
	wantErr(t, "Calm", h.Calm(0, 2, 9), api.OK)
	h.post(0)
	h.wantRings("one of two", 0, 0)
	h.post(0)
	h.wantRings("two", 0, 1)
}

// Each bell ticks, by a delay of its own, also those behind an id that is not there.
func TestT3TickOfSeveralQueues(t *testing.T) {
	h := newHost(t, tiny())
	ids := []int{0, 1, 3}
	for _, id := range ids {
		h.queue(id, 3, 1)
		wantErr(t, "Calm", h.Calm(id, 64, 2+id), api.OK)
		h.post(id)
	}
	for tick := 1; tick <= 8; tick++ {
		h.Tick()
		for _, id := range ids {
			want := 0
			if tick >= 2+id {
				want = 1
			}
			h.wantRings(fmt.Sprintf("tick %d", tick), id, want)
		}
	}
	h.drop(1)
	h.post(3)
	times(5, h.Tick)
	h.wantRings("behind a Drop", 3, 2)
	made(t, 0, tiny()).Tick()
}

// A mask is that of one bell alone; posts and ticks go on under it, and it rings once when it is taken off.
func TestT3MaskOfSeveralQueues(t *testing.T) {
	for masked := range 3 {
		h := newHost(t, tiny())
		for id := range 3 {
			h.queue(id, 3, 1)
			wantErr(t, "Calm", h.Calm(id, 2, 3), api.OK)
		}
		wantErr(t, "Mask", h.Mask(masked, true), api.OK)
		for id := range 3 {
			times(5, func() { h.post(id) })
		}
		times(4, h.Tick)
		for id := range 3 {
			want := 3 // twice by the limit, once by the delay
			if id == masked {
				want = 0
			}
			h.wantRings("masked", id, want)
		}
		wantErr(t, "Mask", h.Mask(masked, false), api.OK)
		h.wantRings("unmasked", masked, 1)
		times(2, func() { h.post(masked) })
		h.wantRings("unmasked, two more", masked, 2)
		wantErr(t, "Mask", h.Mask(masked, false), api.OK)
		h.wantRings("unmasked twice", masked, 2)
	}
}

func TestT4NothingWaits(t *testing.T) {
	h := newHost(t, tiny())
	h.wantIdle("no queue")
	h.queue(1, 2, 1)
	h.wantIdle("a queue without commands")
	h.queue(3, 16, 16)
	h.wantIdle("two of them")
	h.post(3)
	h.wantIdle("all was carried out")
	h.wantRings("a Step of nothing", 3, 1)
	h.drop(1)
	h.wantIdle("one of them was dropped")
	h.drop(3)
	h.wantIdle("all were dropped")
}

// A Step of nothing takes no turn: neither credit nor a place.
func TestT4NothingWaitsAndNoTurnIsTaken(t *testing.T) {
	h := newHost(t, tiny())
	h.queue(0, 16, 2)
	h.queue(1, 16, 2)
	h.post(0)
	times(5, func() { h.wantIdle("nothing waits") })
	h.fill(0)
	h.fill(1)
	for i, want := range []int{0, 1, 1, 0, 0, 1} {
		h.wantStep(fmt.Sprintf("turn %d", i), want)
	}
}

// Where the Post is full nothing waits, till the head is told: of n slots n - 1 are written.
func TestT4FullPost(t *testing.T) {
	for size := 2; size <= mostSlots; size++ {
		h := newHost(t, tiny())
		h.queue(0, size, 1)
		h.fill(0)
		times(size-1, func() { h.wantStep("room", 0) })
		h.wantIdle("all were carried out")
		wantErr(t, "Tail", h.Tail(0, (size-2+size)%size), api.OK)
		h.wantIdle("the Post is full")
		h.wantRings("the Post is full", 0, size-1)
		wantErr(t, "Head", h.Head(0, 1), api.OK)
		if size > 2 {
			h.wantStep("one was read", 0)
			h.wantIdle("full again")
		}
	}
}

// A queue whose Post is full has no turn, and the others go on; when it is read it goes on where it was.
func TestT4FullPostAmongOthers(t *testing.T) {
	h := newHost(t, tiny())
	h.queue(0, 3, 1)
	h.queue(2, 9, 1)
	h.fill(0)
	h.fill(2)
	for i, want := range []int{0, 2, 0, 2} {
		h.wantStep(fmt.Sprintf("turn %d", i), want)
	}
	h.sent[0] = 3
	h.poke(sqOf(0)+2*commandBytes, encoded(t, api.Command{Op: api.Flush, Id: 99}))
	wantErr(t, "Tail", h.Tail(0, 0), api.OK)
	h.wantStep("one waits in 0, which is full", 2)
	h.wantStep("one waits in 0, which is full", 2)
	h.reap(0)
	h.wantStep("one was read", 0)
	h.wantDone("one was read", 0, 2, api.Completion{Id: 99, Queue: 0, Head: 0, Phase: true})
}

// Heads and tails go round, and each round's completions have the other Phase.
func TestT4GoesRound(t *testing.T) {
	for size := 2; size <= mostSlots; size++ {
		h := newHost(t, tiny())
		h.queue(1, size, 1)
		for i := range 5 * size {
			h.send(1, api.Command{Op: api.Flush, Id: 1000 + i, Lba: i})
			h.wantStep("go round", 1)
			want := api.Completion{Id: 1000 + i, Queue: 1, Head: (i + 1) % size, Status: api.Done, Phase: i/size%2 == 0}
			h.wantDone("go round", 1, i%size, want)
			h.reap(1)
			h.wantRings("go round", 1, i+1)
		}
		h.wantIdle("go round")
	}
}

// Several commands at a time are carried out in the order of their slots, over the end of the ring too.
func TestT4SeveralAtATime(t *testing.T) {
	for size := 2; size <= mostSlots; size++ {
		for at := range size {
			h := newHost(t, tiny())
			h.queue(0, size, 1)
			times(at, func() { h.post(0) })
			h.fill(0)
			for i := range size - 1 {
				h.wantStep("one behind the other", 0)
				if d := h.reap(0); d.Id != at+i {
					t.Errorf("size %d, from %d on: command %d is %+v", size, at, i, d)
				}
			}
			h.wantIdle("all were carried out")
		}
	}
}

// What stands in the slot when it is carried out counts, not what stood there when the tail was told.
func TestT4SlotsAreReadAtTheirTurn(t *testing.T) {
	h := oneQueue(t, tiny())
	h.send(0, api.Command{Op: api.Flush, Id: 1})
	h.poke(sqOf(0), encoded(t, api.Command{Op: 9, Id: 2}))
	h.wantStep("changed behind its tail", 0)
	if d := h.reap(0); d.Id != 2 || d.Status != api.BadOp {
		t.Errorf("changed behind its tail: %+v", d)
	}
}

// A completion's 16 bytes are all written, whatever stood there; and its Id is that of the bytes, also of what is no command.
func TestT4Completion(t *testing.T) {
	for _, id := range []int{0, 1, 255, 256, 258, 65535} {
		for _, over := range []byte{0, 0xff} {
			h := newHost(t, tiny())
			h.queue(2, 2, 1)
			h.poke(cqOf(2), bytes.Repeat([]byte{0xff}, 2*doneBytes))
			b := encoded(t, api.Command{Op: api.Flush, Id: id})
			for _, i := range []int{1, 4, 5, 6, 7, 15, 20, 23, 39, 40, 63} {
				b[i] = over
			}
			status := api.Done
			if over != 0 {
				status = api.BadField
			}
			h.sendBytes(2, b)
			h.wantStep("completion", 2)
			h.wantDone("completion", 2, 0, api.Completion{Id: id, Queue: 2, Head: 1, Status: status, Phase: true})
			if next := h.peek(cqOf(2)+doneBytes, doneBytes); !bytes.Equal(next, bytes.Repeat([]byte{0xff}, doneBytes)) {
				t.Errorf("the next slot is written: %v", next)
			}
		}
	}
}

// wantTurns asks for the queues that have turns, where in all of them always something waits.
func (h *host) wantTurns(name string, want ...int) {
	h.t.Helper()
	for i, id := range want {
		for there := range mostQueues {
			if h.sizes[there] > 0 {
				h.fill(there)
			}
		}
		got, err := h.Step()
		if got != id || err != nil {
			h.t.Fatalf("%s: turn %d of %v: got %d, %v", name, i, want, got, err)
		}
		h.reap(got)
	}
}

func TestT4TurnsByWeights(t *testing.T) {
	for _, c := range []struct {
		name    string
		weights map[int]int
		want    []int
	}{
		{"one", map[int]int{2: 3}, []int{2, 2, 2, 2, 2}},
		{"two, of 2 and 1", map[int]int{0: 2, 1: 1}, []int{0, 0, 1, 0, 0, 1}},
		{"by their ids", map[int]int{3: 2, 1: 1}, []int{1, 3, 3, 1, 3, 3}},
		{"alike", map[int]int{0: 1, 1: 1, 2: 1, 3: 1}, []int{0, 1, 2, 3, 0, 1, 2, 3}},
		{"four", map[int]int{0: 1, 1: 3, 2: 2, 3: 1}, []int{0, 1, 1, 1, 2, 2, 3, 0, 1, 1, 1, 2, 2, 3}},
		{"the greatest weight", map[int]int{0: 16, 2: 1}, []int{0, 0, 0, 0, 0, 0, 0, 0, 0, 0, 0, 0, 0, 0, 0, 0, 2, 0}},
	} {
		h := newHost(t, tiny())
		for id := mostQueues - 1; id >= 0; id-- {
			if weight := c.weights[id]; weight > 0 {
				h.queue(id, 4, weight)
			}
		}
		h.wantTurns(c.name, c.want...)
	}
}

// A queue in which nothing waits is left, with its credit, and has its whole weight when its turn comes again.
func TestT4TurnsWhereSomeWait(t *testing.T) {
	h := newHost(t, tiny())
	h.queue(0, 8, 3)
	h.queue(1, 8, 2)
	h.send(0, api.Command{Op: api.Flush})
	times(5, func() { h.send(1, api.Command{Op: api.Flush}) })
	for i, want := range []int{0, 1, 1, 1} {
		h.wantStep(fmt.Sprintf("turn %d", i), want)
	}
	times(4, func() { h.send(0, api.Command{Op: api.Flush}) })
	for i, want := range []int{1, 0, 0, 0, 1, 0} {
		h.wantStep(fmt.Sprintf("turn %d behind", i), want)
	}
	h.wantIdle("all were carried out")
}

// Behind each Queue and each Drop turns begin anew: with the first queue, and its whole weight.
func TestT4PickerMadeAnew(t *testing.T) {
	h := newHost(t, tiny())
	h.queue(1, 4, 3)
	h.queue(2, 4, 2)
	h.wantTurns("two", 1, 1)
	h.queue(3, 4, 1)
	h.wantTurns("a third: anew where it stood", 1, 1, 1, 2)
	h.drop(3)
	h.sizes[3] = 0
	h.wantTurns("dropped: anew, not where it stood", 1, 1)
	h.queue(0, 4, 1)
	h.wantTurns("a new first one", 0, 1, 1, 1, 2, 2, 0, 1)
	h.drop(1)
	h.sizes[1] = 0
	h.wantTurns("dropped where it stood", 0, 2, 2, 0)
	h.drop(0)
	h.sizes[0] = 0
	h.wantTurns("one is left", 2, 2, 2)
}

// What is refused makes no picker anew.
func TestT4PickerStaysWhereACallIsRefused(t *testing.T) {
	refused := map[string]func(h *host) error{
		"Queue that is there": func(h *host) error { return h.Queue(1, 0, 4096, 4, 1) },
		"Queue of no id":      func(h *host) error { return h.Queue(4, 0, 4096, 4, 1) },
		"Queue of no shape":   func(h *host) error { return h.Queue(3, 8, 4096, 4, 1) },
		"Queue of no place":   func(h *host) error { return h.Queue(3, 0, mostMemory, 4, 1) },
		"Drop of none":        func(h *host) error { return h.Drop(3) },
		"Drop of no id":       func(h *host) error { return h.Drop(-1) },
	}
	for name, do := range refused {
		h := newHost(t, tiny())
		h.queue(0, 4, 2)
		h.queue(1, 4, 3)
		h.wantTurns(name, 0)
		if do(h) == nil {
			t.Errorf("%s: no error", name)
		}
		h.wantTurns(name, 0, 1)
		if do(h) == nil {
			t.Errorf("%s: no error", name)
		}
		h.wantTurns(name, 1, 1, 0)
	}
}

// Controllers share nothing.
func TestControllersStandAlone(t *testing.T) {
	one, other := oneQueue(t, tiny()), oneQueue(t, tiny())
	one.keep(0, []byte{1, 2, 3})
	other.Cut(1)
	other.keep(0, []byte{7, 7, 7})
	wantErr(t, "Mask", other.Mask(0, true), api.OK)
	one.wantKept("one", 0, []byte{1, 2, 3})
	one.wantRings("one", 0, 2)
	other.wantRings("other", 0, 1)
}
