package driver_test

import (
	"fmt"
	"math"
	"slices"
	"testing"

	"granary/api"
	"granary/disk"
	"granary/driver"
	"granary/plain"
)

// wantNew asks for an error of New, beside which there is no driver.
func wantNew(t *testing.T, name string, p plan, slots int, want api.Errno) {
	t.Helper()
	d, err := driver.New(p.g, p.lbas, p.spare, slots)
	if got := plain.Told(err); got != want {
		t.Errorf("%s: New(%+v, %d): got %v, want %v", name, p, slots, got, want)
	}
	if (d == nil) != (want != api.OK) {
		t.Errorf("%s: New(%+v, %d): driver %v beside %v", name, p, slots, d, err)
	}
}

// noSizes are numbers of slots that no ring has. Some have, in their lowest bytes, one that a ring may have.
func noSizes() []int {
	return []int{1, 0, -1, -2, -16, mostSlots + 1, mostSlots + 2, 256 + 4, 1<<16 + 4, 1<<32 + 4, math.MaxInt, math.MinInt, math.MinInt + 4}
}

func TestV1Sizes(t *testing.T) {
	for slots := 2; slots <= mostSlots; slots++ {
		wantNew(t, "a size that may be", tiny(), slots, api.OK)
	}
	for _, slots := range noSizes() {
		wantNew(t, "no size", tiny(), slots, api.ErrRange)
	}
}

// noDisks are disks that there are not, by what disk's New says of them.
func noDisks() map[api.Errno][]plan {
	return map[api.Errno][]plan{
		api.ErrRange: {
			{geometry(0, 6, 2, 24), 2, 0}, {geometry(5, 6, 2, 24), 2, 0}, {geometry(1, 17, 2, 24), 2, 0},
			{geometry(1, 6, 0, 24), 2, 0}, {geometry(1, 6, 2, 25), 2, 0}, {geometry(1, 6, 2, 264), 2, 0},
			{geometry(1, 6, 2, 24), 0, 0}, {geometry(1, 6, 2, 24), 257, 0}, {geometry(1, 6, 2, 24), 2, -1},
		},
		api.ErrShape: {{geometry(1, 6, 2, 16), 2, 0}, {geometry(1, 6, 2, 8), 0, 0}},
		api.ErrFull:  {{geometry(1, 6, 2, 24), 5, 0}, {geometry(1, 6, 2, 24), 3, 1}, {geometry(1, 4, 2, 24), 1, 0}, {tiny().g, 1, math.MaxInt}},
	}
}

func TestV1NewSaysWhatDiskSays(t *testing.T) {
	for want, plans := range noDisks() {
		for _, p := range plans {
			for _, slots := range []int{2, 4, mostSlots} {
				wantNew(t, "no disk", p, slots, want)
			}
		}
	}
}

func TestV1NewSaysTheSizeFirst(t *testing.T) {
	for _, plans := range noDisks() {
		for _, p := range plans {
			for _, slots := range noSizes() {
				wantNew(t, "neither size nor disk", p, slots, api.ErrRange)
			}
		}
	}
}

func TestV1SizeIsTheDisks(t *testing.T) {
	for bytes := 24; bytes <= 256; bytes += 8 {
		g := geometry(1, 6, 2, bytes)
		d, err := disk.New(g, 2, 0)
		if err != nil {
			t.Fatal(err)
		}
		h := newHost(t, plan{g, 2, 0}, 4)
		if got := h.Size(); got != d.Size() || got != bytes-21 {
			t.Errorf("pages of %d bytes: Size %d, of the disk %d", bytes, got, d.Size())
		}
	}
}

// Cut, Fails and Mount reach the disk, and a later one takes the place of an earlier one.
func TestV1CutAndMount(t *testing.T) {
	h := newHost(t, tiny(), 4)
	h.keep(0, []byte{1, 2, 3})
	h.Cut(1)
	h.Cut(0)
	h.keep(0, []byte{2, 3, 4})
	h.Cut(2)
	h.keep(1, []byte{5, 6, 7})
	h.want("a write that is torn", api.Write, 0, 1, []byte{9, 9, 9}, api.NoPower, nil)
	h.want("power is lost", api.Read, 1, 1, nil, api.NoPower, nil)
	h.mount()
	h.wantKept("behind Mount", 1, []byte{5, 6, 7})
	h.mount()
	h.wantKept("behind a Mount with power", 1, []byte{5, 6, 7})
}

func TestV1Fails(t *testing.T) {
	h := newHost(t, tiny(), 4)
	h.Fails(1)
	h.Fails(-1)
	for i := range 40 {
		h.keep(i%4, counted(3, i))
	}
	h.Fails(1)
	latched := false
	for i := range 40 {
		r := h.do(api.Write, i%4, 1, counted(3, i))
		latched = latched || r.Status == api.Protected
		if latched != (r.Status == api.Protected) || !latched && r.Status != api.Done {
			t.Fatalf("write %d: Status %d", i, r.Status)
		}
	}
	if !latched {
		t.Error("an erase failed, and the disk is not latched")
	}
}

// No numbers that are out of their bounds. Some have, in their lowest bytes, one that is in them.
func noQueues() []int {
	return []int{-1, -2, 2, 3, 4, 256, 1 << 32, math.MaxInt, math.MinInt}
}

func noOps() []int {
	return []int{0, 5, 6, -1, -2, 255, 256, 256 + api.Write, 1<<32 + api.Read, math.MaxInt, math.MinInt, math.MinInt + api.Trim}
}

func noLbas() []int {
	return []int{-1, -2, mostLba + 1, mostLba + 2, math.MaxInt, math.MinInt}
}

// noCounts are so, too, that some of them times the size of a block wraps round to few bytes.
func noCounts() []int {
	return []int{-1, -2, mostCount + 1, mostCount + 2, 1 << 32, 1 << 62, 1<<62 + 1, 1 << 63 / 3 * 2, math.MaxInt, math.MinInt, math.MinInt + 1}
}

func TestV2Queues(t *testing.T) {
	for _, op := range allOps() {
		h := newHost(t, tiny(), 4)
		for _, queue := range noQueues() {
			h.wantRefused("no queue", queue, op, 0, 1, bytesFor(op, 1, 3), api.ErrRange)
		}
		for _, queue := range []int{0, 1} {
			h.send(queue, op, 0, 1, bytesFor(op, 1, 3))
		}
	}
}

func TestV2Ops(t *testing.T) {
	h := newHost(t, tiny(), 4)
	for _, op := range noOps() {
		h.wantRefused("no op", 0, op, 0, 1, nil, api.ErrRange)
		h.wantRefused("no op", 1, op, 0, 1, counted(3, 1), api.ErrRange)
	}
	h.wantStep("nothing was submitted", false)
}

func TestV2Lbas(t *testing.T) {
	for _, op := range allOps() {
		h := newHost(t, tiny(), 4)
		for _, lba := range noLbas() {
			h.wantRefused("no lba", 0, op, lba, 1, bytesFor(op, 1, 3), api.ErrRange)
		}
		h.wantStep("nothing was submitted", false)
		status := api.BadLba
		if op == api.Flush {
			status = api.Done
		}
		for _, lba := range []int{4, 5, 255, 256, 1 << 32, mostLba - 1, mostLba} {
			h.want("an lba that a command can hold", op, lba, 1, bytesFor(op, 1, 3), status, nil)
		}
	}
}

func TestV2Counts(t *testing.T) {
	for _, op := range allOps() {
		h := newHost(t, tiny(), 4)
		for _, count := range noCounts() {
			h.wantRefused("no count", 0, op, 0, count, nil, api.ErrRange)
			h.wantRefused("no count", 1, op, 0, count, counted(3, 1), api.ErrRange)
		}
		h.wantStep("nothing was submitted", false)
	}
}

// Of Trim and Flush a count is bounded by what a command holds alone.
func TestV2CountsThatMoveNothing(t *testing.T) {
	for _, count := range []int{0, 1, 2, 4, 5, 85, 86, 256, 257, mostCount - 1, mostCount} {
		h := newHost(t, tiny(), 4)
		h.want("a Flush", api.Flush, 0, count, nil, api.Done, nil)
		status := api.BadLba
		if count >= 1 && count <= 4 {
			status = api.Done
		}
		h.want("a Trim", api.Trim, 0, count, nil, status, nil)
	}
}

// Of Read and Write count times Size is bounded, for whatever Size: it is never just 256, as a Size is odd.
func TestV2BytesThatAreMoved(t *testing.T) {
	for bytes := 24; bytes <= 256; bytes += 8 {
		p := plan{geometry(2, 16, 8, bytes), 200, 0}
		h := newHost(t, p, 4)
		for count := range 200 {
			long := count * p.size()
			if long > mostMoved {
				h.wantRefused("too many bytes", 0, api.Read, 0, count, nil, api.ErrRange)
				h.wantRefused("too many bytes", 1, api.Write, 0, count, counted(long, 1), api.ErrRange)
				h.wantRefused("too many bytes, and not so many", 1, api.Write, 0, count, nil, api.ErrRange)
				continue
			}
			if count == 0 {
				continue
			}
			h.keep(count, counted(long, count))
			h.wantKept("as many bytes as may be moved", count, counted(long, count))
		}
		h.wantRefused("the greatest count", 0, api.Read, 0, mostCount, nil, api.ErrRange)
		h.wantRefused("the greatest count", 0, api.Write, 0, mostCount, nil, api.ErrRange)
	}
}

// The bound is told of blocks that are none of the disk's too, and that comes ahead of what the disk says.
func TestV2BytesOfBlocksThatAreNone(t *testing.T) {
	h := newHost(t, tiny(), 4)
	h.wantRefused("258 bytes", 0, api.Read, 0, 86, nil, api.ErrRange)
	h.wantRefused("258 bytes", 0, api.Write, mostLba, 86, counted(258, 1), api.ErrRange)
	h.want("255 bytes", api.Read, 0, 85, nil, api.BadLba, nil)
	h.want("255 bytes", api.Write, mostLba, 85, counted(255, 1), api.BadLba, nil)
}

func TestV2DataOfWrite(t *testing.T) {
	for _, count := range []int{0, 1, 2, 21, 22, 42, 43, 64, 65, 85} {
		h := newHost(t, many(), 4)
		long := 3 * count
		for _, n := range []int{0, 1, long - 2, long - 1, long + 1, long + 2, long + 3, 256, 4096} {
			if n >= 0 && n != long {
				h.wantRefused("not as many bytes", 0, api.Write, 0, count, counted(n, 1), api.ErrShape)
			}
		}
		h.wantStep("nothing was submitted", false)
		h.send(0, api.Write, 0, count, counted(long, 1))
	}
}

// Data that are empty and nil are the same.
func TestV2NoData(t *testing.T) {
	h := newHost(t, tiny(), 4)
	for _, data := range [][]byte{nil, {}} {
		h.want("a Write of no blocks", api.Write, 0, 0, data, api.BadLba, nil)
		h.wantRefused("a Write of one block", 0, api.Write, 0, 1, data, api.ErrShape)
		h.want("a Read", api.Read, 0, 1, data, api.Done, make([]byte, 3))
	}
}

// Data of what is no Write does not count, however much it is.
func TestV2DataOfOthers(t *testing.T) {
	for _, n := range []int{0, 1, 2, 3, 4, 64, 255, 256, 257, 320, 20000} {
		h := newHost(t, tiny(), 4)
		h.keep(0, []byte{1, 2, 3})
		h.keep(1, []byte{4, 5, 6})
		data := counted(n, 7)
		h.want("a Read", api.Read, 0, 2, data, api.Done, []byte{1, 2, 3, 4, 5, 6})
		h.want("a Flush", api.Flush, 0, 1, data, api.Done, nil)
		h.want("a Trim", api.Trim, 0, 1, data, api.Done, nil)
		h.wantKept("behind them", 0, []byte{0, 0, 0, 4, 5, 6})
	}
}

// fill submits flushes till a queue has no room for more.
func (h *host) fill(queue, slots int) {
	h.t.Helper()
	for range slots - 1 {
		h.send(queue, api.Flush, 0, 0, nil)
	}
}

// ErrRange comes ahead of ErrShape, and that ahead of ErrFull.
func TestV2ErrorsInTheirOrder(t *testing.T) {
	for _, full := range []bool{false, true} {
		h := newHost(t, tiny(), 3)
		if full {
			h.fill(0, 3)
			h.fill(1, 3)
		}
		short := counted(2, 1)
		h.wantRefused("queue ahead of data", 2, api.Write, 0, 1, short, api.ErrRange)
		h.wantRefused("queue ahead of data", -1, api.Write, 0, 1, short, api.ErrRange)
		for _, queue := range []int{0, 1} {
			h.wantRefused("op ahead of data", queue, 5, 0, 1, short, api.ErrRange)
			h.wantRefused("lba ahead of data", queue, api.Write, -1, 1, short, api.ErrRange)
			h.wantRefused("count ahead of data", queue, api.Write, 0, -1, short, api.ErrRange)
			h.wantRefused("bytes ahead of data", queue, api.Write, 0, 86, short, api.ErrRange)
			h.wantRefused("data ahead of room", queue, api.Write, 0, 1, short, api.ErrShape)
			if full {
				h.wantRefused("no room", queue, api.Write, 0, 1, counted(3, 1), api.ErrFull)
			}
		}
	}
}

// Of each queue size - 1 commands have room, carried out or not, till some are reaped.
func TestV2Full(t *testing.T) {
	for slots := 2; slots <= mostSlots; slots++ {
		for _, queue := range []int{0, 1} {
			h := newHost(t, tiny(), slots)
			h.fill(queue, slots)
			full := func(name string) {
				t.Helper()
				for _, op := range allOps() {
					h.wantRefused(fmt.Sprintf("%d slots, %s", slots, name), queue, op, 0, 1, bytesFor(op, 1, 3), api.ErrFull)
				}
			}
			full("none is carried out")
			h.wantStep("one is carried out", true)
			full("one is carried out")
			h.stepAll()
			full("all are carried out")
			h.wantTags("the other queue", 1-queue)
			full("nothing is reaped")
			if got := len(h.reap(queue)); got != slots-1 {
				t.Errorf("%d slots: %d are reaped", slots, got)
			}
			h.fill(queue, slots)
			full("again")
		}
	}
}

// Of what is carried out and reaped, there is just as much room again.
func TestV2RoomBehindReap(t *testing.T) {
	for slots := 2; slots <= mostSlots; slots++ {
		for reaped := 1; reaped < slots; reaped++ {
			h := newHost(t, tiny(), slots)
			h.fill(1, slots)
			for range reaped {
				h.wantStep("to make room", true)
			}
			h.wantRefused("not reaped yet", 1, api.Flush, 0, 0, nil, api.ErrFull)
			if got := len(h.reap(1)); got != reaped {
				t.Errorf("%d slots: %d are reaped, want %d", slots, got, reaped)
			}
			for range reaped {
				h.send(1, api.Flush, 0, 0, nil)
			}
			h.wantRefused("full again", 1, api.Flush, 0, 0, nil, api.ErrFull)
		}
	}
}

// A queue that is full takes no room from the other one.
func TestV2FullQueueAlone(t *testing.T) {
	for _, queue := range []int{0, 1} {
		h := newHost(t, tiny(), 5)
		h.fill(queue, 5)
		h.fill(1-queue, 5)
		h.wantRefused("the one", queue, api.Flush, 0, 0, nil, api.ErrFull)
		h.wantRefused("the other", 1-queue, api.Flush, 0, 0, nil, api.ErrFull)
		if got := h.stepAll(); got != 8 {
			t.Errorf("%d are carried out", got)
		}
	}
}

func TestV2TagsOverBothQueues(t *testing.T) {
	for slots := 2; slots <= mostSlots; slots++ {
		h := newHost(t, tiny(), slots)
		for i := range slots - 1 {
			h.flush("queue 0", 0, 2*i)
			h.flush("queue 1", 1, 2*i+1)
		}
	}
}

// A tag is free again when its command is reaped, and not ahead of it.
func TestV2TagsThatAreFreeAgain(t *testing.T) {
	h := newHost(t, tiny(), 6)
	h.flush("first", 0, 0)
	h.flush("second", 1, 1)
	h.flush("third", 0, 2)
	h.flush("fourth", 1, 3)
	h.stepAll()
	h.flush("nothing is reaped", 0, 4)
	h.wantTags("queue 1", 1, 1, 3)
	h.flush("the least that is free", 0, 1)
	h.flush("the next one", 1, 3)
	h.flush("behind all", 1, 5)
	h.wantTags("what was carried out", 0, 0, 2)
	h.flush("the least that is free", 1, 0)
	h.flush("the next one", 0, 2)
	h.flush("behind all", 0, 6)
	h.stepAll()
	h.wantTags("queue 0", 0, 4, 1, 2, 6)
	h.wantTags("queue 1", 1, 3, 5, 0)
	h.flush("all are free", 1, 0)
}

// What is refused changes nothing: neither tags nor room nor what waits nor what was written.
func TestV2WhatIsRefusedChangesNothing(t *testing.T) {
	h := newHost(t, tiny(), 3)
	refused := func() {
		t.Helper()
		for _, queue := range noQueues() {
			h.wantRefused("queue", queue, api.Write, 0, 1, counted(3, 9), api.ErrRange)
		}
		for _, queue := range []int{0, 1} {
			h.wantRefused("op", queue, 0, 0, 1, counted(3, 9), api.ErrRange)
			h.wantRefused("lba", queue, api.Write, -1, 1, counted(3, 9), api.ErrRange)
			h.wantRefused("count", queue, api.Write, 0, 65536, counted(3, 9), api.ErrRange)
			h.wantRefused("bytes", queue, api.Write, 0, 86, counted(258, 9), api.ErrRange)
			h.wantRefused("data", queue, api.Write, 0, 1, counted(4, 9), api.ErrShape)
			h.wantRefused("data", queue, api.Write, 0, 85, counted(254, 9), api.ErrShape)
		}
	}
	refused()
	h.wantStep("nothing waits", false)
	for i := range 20 {
		data := counted(3, i)
		if tag := h.send(0, api.Write, i%4, 1, data); tag != 0 {
			t.Fatalf("tag %d", tag)
		}
		refused()
		if tag := h.send(0, api.Read, i%4, 1, nil); tag != 1 {
			t.Fatalf("tag %d", tag)
		}
		refused()
		h.wantRefused("room", 0, api.Write, i%4, 1, counted(3, i+100), api.ErrFull)
		h.wantStep("the Write", true)
		refused()
		h.wantRefused("room", 0, api.Write, i%4, 1, counted(3, i+100), api.ErrFull)
		h.wantStep("the Read", true)
		h.wantRefused("room", 0, api.Write, i%4, 1, counted(3, i+100), api.ErrFull)
		refused()
		h.wantStep("nothing waits", false)
		if got := len(h.Log()); got != 2*i+2 {
			t.Fatalf("%d in the Log, want %d", got, 2*i+2)
		}
		h.wantReaped("both", 0, driver.Result{Tag: 0}, driver.Result{Tag: 1, Data: data})
	}
}

// Data that is handed in is not kept: what becomes of it behind Submit is not written.
func TestV2DataIsNotKept(t *testing.T) {
	h := newHost(t, many(), 4)
	data := counted(255, 3)
	h.send(0, api.Write, 5, 85, data)
	clear(data)
	h.stepAll()
	h.wantTags("the Write", 0, 0)
	h.wantKept("as it was handed in", 5, counted(255, 3))
}

// Data that is handed in is not written into, nor what lies behind its length.
func TestV2DataIsNotWritten(t *testing.T) {
	for _, op := range allOps() {
		h := newHost(t, many(), 4)
		h.keep(0, counted(255, 200))
		whole := counted(400, 3)
		long := 255
		if op == api.Flush {
			long = 100
		}
		h.send(0, op, 0, 85, whole[:long])
		h.stepAll()
		h.reap(0)
		if !slices.Equal(whole, counted(400, 3)) {
			t.Errorf("%s: what was handed in is %v", opName(op), whole)
		}
	}
}
