package driver_test

import (
	"bytes"
	"testing"

	"granary/api"
	"granary/driver"
)

// A command of each op, through one queue and through both.
func TestV3Ordinary(t *testing.T) {
	for _, queue := range []int{0, 1} {
		h := newHost(t, tiny(), 8)
		h.send(queue, api.Write, 1, 2, []byte{1, 2, 3, 4, 5, 6})
		h.send(queue, api.Read, 0, 4, nil)
		h.send(queue, api.Trim, 2, 1, nil)
		h.send(queue, api.Flush, 0, 0, nil)
		h.send(queue, api.Read, 1, 3, nil)
		if got := h.stepAll(); got != 5 {
			t.Errorf("%d are carried out", got)
		}
		h.wantLog("in order", 0, 1, 2, 3, 4)
		h.wantTags("the other queue", 1-queue)
		h.wantReaped("in order", queue,
			driver.Result{Tag: 0},
			driver.Result{Tag: 1, Data: []byte{0, 0, 0, 1, 2, 3, 4, 5, 6, 0, 0, 0}},
			driver.Result{Tag: 2},
			driver.Result{Tag: 3},
			driver.Result{Tag: 4, Data: []byte{1, 2, 3, 0, 0, 0, 0, 0, 0}})
	}
}

func TestV3OrdinaryThroughBoth(t *testing.T) {
	h := newHost(t, tiny(), 4)
	h.send(0, api.Write, 0, 1, []byte{1, 2, 3})
	h.send(0, api.Read, 0, 2, nil)
	h.send(0, api.Trim, 0, 1, nil)
	h.send(1, api.Write, 1, 1, []byte{4, 5, 6})
	h.send(1, api.Flush, 0, 0, nil)
	h.send(1, api.Read, 0, 2, nil)
	h.stepAll()
	h.wantLog("in turns", 0, 3, 1, 4, 2, 5)
	h.wantReaped("queue 1", 1, driver.Result{Tag: 3}, driver.Result{Tag: 4}, driver.Result{Tag: 5, Data: []byte{0, 0, 0, 4, 5, 6}})
	h.wantReaped("queue 0", 0, driver.Result{Tag: 0}, driver.Result{Tag: 1, Data: []byte{1, 2, 3, 4, 5, 6}}, driver.Result{Tag: 2})
}

// Of each op but Flush blocks that are none of the disk's are told, and none at all; nothing is done then.
func TestV3BadLba(t *testing.T) {
	h := newHost(t, tiny(), 4)
	all := counted(12, 1)
	h.keep(0, all)
	for _, op := range []int{api.Write, api.Read, api.Trim} {
		for _, c := range [][2]int{
			{0, 0}, {3, 0}, {4, 0}, {mostLba, 0},
			{0, 5}, {1, 4}, {2, 3}, {3, 2}, {4, 1}, {0, 85}, {3, 85},
			{5, 1}, {256, 1}, {1 << 32, 2}, {mostLba - 1, 1}, {mostLba, 1}, {mostLba, 85},
		} {
			h.want("blocks that are none", op, c[0], c[1], bytesFor(op, c[1], 3), api.BadLba, nil)
			h.wantKept("behind them", 0, all)
		}
	}
	for _, c := range [][2]int{{0, 86}, {0, mostCount}, {mostLba, mostCount}, {mostLba, 0}} {
		h.want("a Trim of blocks that are none", api.Trim, c[0], c[1], nil, api.BadLba, nil)
		h.want("a Flush", api.Flush, c[0], c[1], nil, api.Done, nil)
		h.wantKept("behind them", 0, all)
	}
}

// Of each op the last blocks of the disk are its own.
func TestV3LastLba(t *testing.T) {
	for lba := range 4 {
		h := newHost(t, tiny(), 4)
		h.keep(0, counted(12, 1))
		long := 3 * (4 - lba)
		h.keep(lba, counted(long, 50))
		h.wantKept("up to the last", lba, counted(long, 50))
		h.want("a Trim up to the last", api.Trim, lba, 4-lba, nil, api.Done, nil)
		h.wantKept("all", 0, append(counted(3*lba, 1), make([]byte, long)...))
	}
}

// latchedHost gives a driver whose disk is latched, and what it reads as.
func latchedHost(t testing.TB) (*host, []byte) {
	t.Helper()
	h := newHost(t, tiny(), 4)
	all := counted(12, 1)
	h.keep(0, all)
	h.Fails(1)
	for i := range 100 {
		data := counted(3, 20+i)
		r := h.do(api.Write, i%4, 1, data)
		if r.Status == api.Protected {
			return h, all
		}
		copy(all[3*(i%4):], data)
	}
	t.Fatal("an erase failed, and the disk is not latched")
	return nil, nil
}

func TestV3Protected(t *testing.T) {
	h, all := latchedHost(t)
	for range 2 {
		h.want("a Write", api.Write, 0, 4, counted(12, 200), api.Protected, nil)
		h.want("a Trim", api.Trim, 1, 2, nil, api.Protected, nil)
		h.want("a Flush", api.Flush, 0, 0, nil, api.Protected, nil)
		h.wantKept("it reads as it did", 0, all)
		h.want("no blocks come first", api.Write, 0, 0, nil, api.BadLba, nil)
		h.want("blocks that are none come first", api.Trim, 3, 2, nil, api.BadLba, nil)
		h.mount()
	}
}

// A disk that comes to be latched at some block of a command has done those ahead of it, and no other.
func TestV3ProtectedOnTheWay(t *testing.T) {
	met := [5]bool{}
	for ahead := range 8 {
		h := newHost(t, tiny(), 4)
		h.keep(0, counted(12, 1))
		for i := range ahead {
			h.keep(0, counted(3, i))
		}
		was := h.do(api.Read, 0, 4, nil).Data
		h.Fails(1)
		for i := range 100 {
			data := counted(12, 20+12*i)
			r := h.do(api.Write, 0, 4, data)
			if r.Status == api.Protected {
				met[h.wantSomeOf(was, data)] = true
				break
			}
			if r.Status != api.Done || i == 99 {
				t.Fatalf("an erase failed: Status %d", r.Status)
			}
			was = data
		}
	}
	if met[4] || !met[1] && !met[2] && !met[3] {
		t.Errorf("how many blocks were written ahead of the one at which it was latched: %v", met)
	}
}

// wantSomeOf asks that some blocks from 0 on, not all, read as they are, and those behind them as they were, and tells how many.
func (h *host) wantSomeOf(was, is []byte) int {
	h.t.Helper()
	got := h.do(api.Read, 0, len(is)/3, nil).Data
	done := 0
	for done < len(is) && bytes.Equal(got[done:done+3], is[done:done+3]) {
		done += 3
	}
	if !bytes.Equal(got[done:], was[done:]) {
		h.t.Errorf("it reads as %v, was %v, was to be %v", got, was, is)
	}
	return done / 3
}

func TestV3NoPower(t *testing.T) {
	h := newHost(t, tiny(), 4)
	all := counted(12, 1)
	h.keep(0, all)
	h.want("kept", api.Flush, 0, 0, nil, api.Done, nil)
	h.Cut(1)
	h.want("the Write that is torn", api.Write, 3, 1, []byte{9, 9, 9}, api.NoPower, nil)
	for _, op := range allOps() {
		h.want("power is lost", op, 0, 1, bytesFor(op, 1, 3), api.NoPower, nil)
		status := api.BadLba
		if op == api.Flush {
			status = api.NoPower
		}
		h.want("no blocks come first", op, 0, 0, nil, status, nil)
		h.want("blocks that are none come first", op, 4, 1, bytesFor(op, 1, 3), status, nil)
	}
	h.mount()
	h.wantKept("power is back", 0, all[:9])
	if got := h.do(api.Read, 3, 1, nil).Data; string(got) != string(all[9:]) && string(got) != "\x09\x09\x09" {
		t.Errorf("what was torn reads as %v", got)
	}
	h.keep(0, counted(12, 77))
	h.wantKept("it is written again", 0, counted(12, 77))
}

// Power that is lost at some block of a command: those behind it are not done.
func TestV3NoPowerOnTheWay(t *testing.T) {
	for cut := 1; cut <= 4; cut++ {
		h := newHost(t, plan{geometry(1, 16, 4, 24), 4, 0}, 4)
		old, fresh := counted(12, 1), counted(12, 100)
		h.keep(0, old)
		h.Cut(cut)
		h.want("a Write", api.Write, 0, 4, fresh, api.NoPower, nil)
		h.mount()
		for lba := range 4 {
			got := string(h.do(api.Read, lba, 1, nil).Data)
			was, is := string(old[3*lba:][:3]), string(fresh[3*lba:][:3])
			if got != was && (got != is || lba >= cut) {
				t.Errorf("Cut(%d): lba %d reads as %v", cut, lba, []byte(got))
			}
		}
	}
}

// Commands that wait while power is lost, and when it comes back, are carried out as things stand then.
func TestV3PowerWhileSomeWait(t *testing.T) {
	h := newHost(t, tiny(), 8)
	h.keep(0, []byte{1, 2, 3})
	h.want("kept", api.Flush, 0, 0, nil, api.Done, nil)
	h.Cut(1)
	h.send(0, api.Trim, 1, 1, nil)
	h.send(0, api.Read, 0, 1, nil)
	h.send(0, api.Read, 0, 1, nil)
	h.Step()
	h.Step()
	h.mount()
	h.Step()
	h.wantReaped("lost, and back", 0,
		driver.Result{Tag: 0, Status: api.NoPower}, driver.Result{Tag: 1, Status: api.NoPower}, driver.Result{Tag: 2, Data: []byte{1, 2, 3}})
}

// Rings, tags, the Log, and what is not reaped yet stay when power is lost and comes back.
func TestV3MountChangesNoRing(t *testing.T) {
	h := newHost(t, tiny(), 4)
	h.keep(2, []byte{7, 8, 9})
	h.send(0, api.Read, 2, 1, nil)
	h.send(1, api.Flush, 0, 0, nil)
	h.send(1, api.Flush, 0, 0, nil)
	h.Step()
	h.Step()
	h.mount()
	h.flush("the next tag", 0, 3)
	h.wantLog("behind Mount", 0, 1, 0)
	h.wantStep("what waited", true)
	h.wantStep("what waited", true)
	h.wantLog("what waited, in turns", 0, 1, 0, 2, 3)
	h.wantTags("queue 1", 1, 1, 2)
	h.wantReaped("queue 0", 0, driver.Result{Tag: 0, Data: []byte{7, 8, 9}}, driver.Result{Tag: 3})
}

// Drivers have nothing in common.
func TestDriversStandAlone(t *testing.T) {
	one, other := newHost(t, tiny(), 4), newHost(t, tiny(), 4)
	one.keep(0, []byte{1, 2, 3})
	one.fill(0, 4)
	one.fill(1, 4)
	one.Cut(1)
	other.wantLog("the other one")
	other.wantStep("the other one", false)
	other.flush("the other one", 0, 0)
	other.stepAll()
	other.wantTags("the other one", 0, 0)
	other.wantKept("the other one", 0, make([]byte, 3))
	other.keep(0, []byte{4, 5, 6})
}
