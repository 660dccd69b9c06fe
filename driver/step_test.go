package driver_test

import (
	"bytes"
	"fmt"
	"slices"
	"testing"

	"granary/api"
	"granary/driver"
	"granary/plain"
)

func TestV3NothingWaits(t *testing.T) {
	for slots := 2; slots <= mostSlots; slots++ {
		h := newHost(t, tiny(), slots)
		h.wantStep("at first", false)
		h.wantLog("at first")
		h.wantTags("at first", 0)
		h.wantTags("at first", 1)
		h.flush("one", 1, 0)
		h.wantStep("one waits", true)
		for range 3 {
			h.wantStep("nothing waits any more", false)
		}
		h.wantLog("one", 0)
		h.wantTags("one", 1, 0)
		h.wantStep("all is reaped", false)
	}
}

// A Step carries out one command, not more.
func TestV3OneAtATime(t *testing.T) {
	h := newHost(t, tiny(), 8)
	h.fill(0, 8)
	for i := range 7 {
		h.wantStep("one more", true)
		if got := len(h.Log()); got != i+1 {
			t.Errorf("%d steps: %d in the Log", i+1, got)
		}
		h.wantTags("one more", 0, i)
	}
	h.wantStep("no more", false)
}

// What is submitted is not done ahead of its Step.
func TestV3NothingIsDoneAheadOfItsStep(t *testing.T) {
	h := newHost(t, tiny(), 4)
	h.keep(0, []byte{1, 2, 3})
	h.send(1, api.Read, 0, 1, nil)
	h.send(0, api.Write, 0, 1, []byte{4, 5, 6})
	h.send(1, api.Read, 0, 1, nil)
	h.wantTags("nothing was carried out", 0)
	h.wantTags("nothing was carried out", 1)
	h.stepAll()
	h.wantLog("1 has its turn behind that of 0", 0, 0, 1, 2)
	h.wantReaped("the Reads", 1, driver.Result{Tag: 0, Data: []byte{1, 2, 3}}, driver.Result{Tag: 2, Data: []byte{4, 5, 6}})
}

// Queues of weight 1 take turns where something waits in both.
func TestV3Turns(t *testing.T) {
	for _, c := range []struct {
		name      string
		submitted []int // queues; -1 is a Step
		log       []int
	}{
		{"both", []int{0, 0, 0, 1, 1, 1}, []int{0, 3, 1, 4, 2, 5}},
		{"the other way round", []int{1, 1, 1, 0, 0, 0}, []int{3, 0, 4, 1, 5, 2}},
		{"the first alone", []int{0, 0, 0}, []int{0, 1, 2}},
		{"the second alone", []int{1, 1, 1}, []int{0, 1, 2}},
		{"more of the first", []int{0, 0, 0, 1}, []int{0, 3, 1, 2}},
		{"more of the second", []int{0, 1, 1, 1}, []int{0, 1, 2, 3}},
		{"0 has had its turn", []int{0, -1, 0, 1}, []int{0, 2, 1}},
		{"0 has had two turns", []int{0, 0, -1, -1, 0, 1}, []int{0, 1, 3, 2}},
		{"1 has had its turn", []int{1, -1, 0, 1}, []int{0, 1, 2}},
		{"1 has had two turns", []int{1, 1, -1, -1, 1, 0}, []int{0, 1, 3, 2}},
		{"a Step of nothing is no turn", []int{-1, -1, -1, 1, 0}, []int{1, 0}},
		{"nor behind a turn", []int{0, -1, -1, -1, 0, 1}, []int{0, 2, 1}},
	} {
		h := newHost(t, tiny(), 8)
		for _, queue := range c.submitted {
			if queue < 0 {
				h.Step()
			} else {
				h.send(queue, api.Flush, 0, 0, nil)
			}
		}
		h.stepAll()
		h.wantLog(c.name, c.log...)
	}
}

// What is refused, and what is reaped, is no turn.
func TestV3TurnsAreOfStepsAlone(t *testing.T) {
	h := newHost(t, tiny(), 8)
	h.fill(0, 4)
	h.fill(1, 4)
	for range 6 {
		h.wantRefused("no queue", 2, api.Flush, 0, 0, nil, api.ErrRange)
		h.wantStep("in turns", true)
		h.Reap(-1)
	}
	h.wantLog("in turns", 0, 3, 1, 4, 2, 5)
}

// A queue in which always something waits does not let the other one wait.
func TestV3NoQueueWaitsForTheOther(t *testing.T) {
	for _, busy := range []int{0, 1} {
		h := newHost(t, tiny(), 4)
		h.fill(busy, 4)
		for i := range 50 {
			tag := h.send(1-busy, api.Flush, 0, 0, nil)
			h.wantStep("one", true)
			h.wantStep("the other", true)
			if log := h.Log(); !slices.Contains(log[len(log)-2:], tag) {
				t.Fatalf("round %d: queue %d waits for the other one", i, 1-busy)
			}
			h.wantTags("the one that came", 1-busy, tag)
			if got := len(h.reap(busy)); got != 1 {
				t.Fatalf("round %d: %d of queue %d are carried out", i, got, busy)
			}
			h.send(busy, api.Flush, 0, 0, nil)
		}
	}
}

// Rings go round many times, whatever their size, and however many stand in them.
func TestV3RingsGoRound(t *testing.T) {
	for slots := 2; slots <= mostSlots; slots++ {
		for atOnce := 1; atOnce < slots; atOnce++ {
			h := newHost(t, tiny(), slots)
			for round := range 5 * slots {
				h.roundOf(fmt.Sprintf("%d slots, %d at once, round %d", slots, atOnce, round), round%2, atOnce)
			}
		}
	}
}

// roundOf has Writes and Reads carried out, and reaped at once.
func (h *host) roundOf(name string, queue, atOnce int) {
	h.t.Helper()
	var want []driver.Result
	for i := range atOnce {
		data := counted(3, i+atOnce)
		if i%2 == 0 {
			h.send(queue, api.Write, i/2%4, 1, data)
			want = append(want, driver.Result{Tag: i})
		} else {
			h.send(queue, api.Read, i/2%4, 1, nil)
			want = append(want, driver.Result{Tag: i, Data: counted(3, i-1+atOnce)})
		}
	}
	if got := h.stepAll(); got != atOnce {
		h.t.Errorf("%s: %d are carried out", name, got)
	}
	h.wantReaped(name, queue, want...)
	h.wantReaped(name+", again", queue)
}

// A queue that is full of what is not reaped lets the other one go on.
func TestV3FullQueueDoesNotStop(t *testing.T) {
	for _, queue := range []int{0, 1} {
		h := newHost(t, tiny(), 3)
		h.fill(queue, 3)
		h.stepAll()
		for range 20 {
			h.flush("the other one", 1-queue, 2)
			h.wantStep("the other one", true)
			h.wantTags("the other one", 1-queue, 2)
		}
		h.wantStep("nothing waits", false)
		h.wantTags("the full one", queue, 0, 1)
	}
}

func TestV3LogTellsAllSoFar(t *testing.T) {
	h := newHost(t, tiny(), 4)
	var want []int
	for i := range 300 {
		queue := i % 2
		tag := h.send(queue, api.Flush, 0, 0, nil)
		h.wantLog("not carried out yet", want...)
		h.wantStep("one", true)
		want = append(want, tag)
		h.wantLog("carried out", want...)
		if i%3 == 2 {
			h.reap(0)
			h.reap(1)
			h.wantLog("reaped", want...)
		}
	}
}

// The Log tells what was carried out, also if that was refused by the controller, or there was no power.
func TestV3LogTellsWhatFailed(t *testing.T) {
	h := newHost(t, tiny(), 8)
	h.send(0, api.Read, 4, 1, nil)
	h.send(0, api.Trim, 0, 0, nil)
	h.send(0, api.Write, 0, 1, []byte{1, 2, 3})
	h.send(0, api.Read, 0, 1, nil)
	h.Cut(1)
	h.stepAll()
	h.wantLog("all four", 0, 1, 2, 3)
	h.wantReaped("all four", 0,
		driver.Result{Tag: 0, Status: api.BadLba}, driver.Result{Tag: 1, Status: api.BadLba},
		driver.Result{Tag: 2, Status: api.NoPower}, driver.Result{Tag: 3, Status: api.NoPower})
}

// What is done with a Log changes nothing, neither the driver's nor one that was given ahead of it.
func TestV3LogIsTheCallers(t *testing.T) {
	h := newHost(t, tiny(), mostSlots)
	h.fill(0, mostSlots)
	var given [][]int
	var want []int
	for i := range mostSlots - 1 {
		h.wantStep("one more", true)
		want = append(want, i)
		spoilt := h.Log()
		_ = append(spoilt, 200)
		for j := range spoilt {
			spoilt[j] = 100
		}
		h.wantLog("one was spoilt", want...)
		given = append(given, h.Log())
	}
	for i, log := range given {
		if !slices.Equal(log, want[:i+1]) {
			t.Errorf("a Log that was given when %d were carried out is now %v", i+1, log)
		}
	}
}

func TestV3ReapOfNoQueue(t *testing.T) {
	h := newHost(t, tiny(), 4)
	h.flush("one", 0, 0)
	h.flush("one", 1, 1)
	h.stepAll()
	for _, queue := range noQueues() {
		l, err := h.Reap(queue)
		if l != nil || plain.Told(err) != api.ErrRange {
			t.Errorf("Reap(%d): got %v, %v, want ErrRange", queue, l, err)
		}
	}
	h.wantTags("nothing was reaped", 0, 0)
	h.wantTags("nothing was reaped", 1, 1)
}

// Each is reaped once, in the order in which it was carried out, by the queue that it is of.
func TestV3ReapEachOnce(t *testing.T) {
	h := newHost(t, tiny(), 6)
	for range 4 {
		h.send(0, api.Flush, 0, 0, nil)
		h.send(1, api.Flush, 0, 0, nil)
	}
	h.Step()
	h.Step()
	h.Step()
	h.wantTags("two were carried out", 0, 0, 2)
	h.wantTags("none any more", 0)
	h.Step()
	h.Step()
	h.wantTags("one more was", 0, 4)
	h.wantTags("two were carried out", 1, 1, 3)
	h.wantTags("none any more", 1)
	h.stepAll()
	h.wantTags("the rest", 1, 5, 7)
	h.wantTags("the rest", 0, 6)
	h.wantTags("none any more", 1)
	h.wantTags("none any more", 0)
}

// The data of a Read is what was read when it was carried out, whatever is written till it is reaped.
func TestV3DataIsOfItsStep(t *testing.T) {
	h := newHost(t, many(), mostSlots)
	var want []driver.Result
	for i := range 7 {
		data := counted(255, 30*i)
		h.send(0, api.Write, i%2, 85, data)
		h.send(0, api.Read, i%2, 85, nil)
		want = append(want, driver.Result{Tag: 2 * i}, driver.Result{Tag: 2*i + 1, Data: data})
	}
	h.stepAll()
	for i := range 7 {
		h.send(1, api.Write, i, 80, counted(240, 100+i))
	}
	h.stepAll()
	h.wantReaped("as it was read", 0, want...)
}

// All of Data that a queue can hold, in both queues, stands apart from all other, up to the last tag.
func TestV3AllTagsHaveTheirOwnBytes(t *testing.T) {
	h := newHost(t, many(), mostSlots)
	for i := range 15 {
		h.send(0, api.Write, i%12, 85, counted(255, 11*i))
		h.send(1, api.Read, i%12, 85, nil)
	}
	h.stepAll()
	h.wantTags("the Writes", 0, 0, 2, 4, 6, 8, 10, 12, 14, 16, 18, 20, 22, 24, 26, 28)
	blocks := make([]byte, 3*96)
	for i, r := range h.reap(1) {
		copy(blocks[3*(i%12):], counted(255, 11*i))
		if r.Tag != 2*i+1 || !bytes.Equal(r.Data, blocks[3*(i%12):][:255]) {
			t.Errorf("Read %d: tag %d, %v", i, r.Tag, r.Data)
		}
	}
}

// Of Writes that wait, each has its own bytes, up to the last tag.
func TestV3WritesThatWait(t *testing.T) {
	h := newHost(t, plan{geometry(1, 16, 16, 256), 64, 0}, mostSlots)
	for i := range 15 {
		h.send(0, api.Write, 2*i, 1, counted(235, 7*i))
		h.send(1, api.Write, 2*i+1, 1, counted(235, 7*i+100))
	}
	h.stepAll()
	h.reap(0)
	h.reap(1)
	for i := range 15 {
		h.wantKept("of queue 0", 2*i, counted(235, 7*i))
		h.wantKept("of queue 1", 2*i+1, counted(235, 7*i+100))
	}
}

// What is done with results changes nothing, and no two of them share bytes.
func TestV3ResultsAreTheCallers(t *testing.T) {
	h := newHost(t, tiny(), 6)
	h.keep(1, []byte{1, 2, 3})
	for range 3 {
		h.send(0, api.Read, 1, 1, nil)
	}
	h.stepAll()
	l := h.reap(0)
	for i, r := range l {
		if !bytes.Equal(r.Data, []byte{1, 2, 3}) {
			t.Errorf("result %d: %v", i, r)
		}
		clear(r.Data)
		_ = append(r.Data, 9, 9, 9)
	}
	h.send(0, api.Read, 1, 1, nil)
	h.stepAll()
	h.wantReaped("read anew", 0, driver.Result{Tag: 0, Data: []byte{1, 2, 3}})
	if !bytes.Equal(l[0].Data, make([]byte, 3)) {
		t.Errorf("a result that was given is now %v", l[0])
	}
}

// Data is of a Read that is Done, and of nothing else: also where the tag's bytes are those of a Read ahead of it.
func TestV3DataOfNothingElse(t *testing.T) {
	h := newHost(t, many(), 4)
	h.keep(0, counted(255, 1))
	for _, c := range []struct{ op, lba, count, status int }{
		{api.Write, 3, 85, api.Done},
		{api.Flush, 0, 85, api.Done},
		{api.Trim, 90, 2, api.Done},
		{api.Trim, 90, 85, api.BadLba},
		{api.Write, 90, 85, api.BadLba},
		{api.Read, 90, 85, api.BadLba},
		{api.Read, 12, 85, api.BadLba},
		{api.Read, 0, 0, api.BadLba},
		{api.Write, 0, 0, api.BadLba},
	} {
		h.wantKept("a Read with that tag", 0, counted(9, 1))
		r := h.do(c.op, c.lba, c.count, bytesFor(c.op, c.count, 3))
		if r.Tag != 0 || r.Status != c.status || r.Data != nil {
			t.Errorf("%+v: got %v", c, r)
		}
	}
	h.Cut(1)
	h.want("a Trim that is torn", api.Trim, 95, 1, nil, api.NoPower, nil)
	for _, op := range allOps() {
		if r := h.do(op, 0, 1, bytesFor(op, 1, 3)); r.Status != api.NoPower || r.Data != nil {
			t.Errorf("%s: got %v", opName(op), r)
		}
	}
}
