package order_test

import (
	"math/rand"
	"slices"
	"testing"

	"granary/api"
	"granary/driver"
	"granary/order"
)

// wantOrder asks that there is an order, which comes no later than one that is known; it gives it.
func wantOrder(t *testing.T, calls []api.Call, known []int) []int {
	t.Helper()
	if !isOrder(calls, known) {
		t.Fatalf("%v is no order of %+v", known, calls)
	}
	list, err := order.Find(calls)
	if err != nil || !isOrder(calls, list) || slices.Compare(list, known) > 0 {
		t.Fatalf("Find(%+v): %v, %v, and %v is an order", calls, list, err, known)
	}
	return list
}

// without gives calls but one, and an order of them that is like another one without it.
func without(calls []api.Call, list []int, n int) ([]api.Call, []int) {
	var less []int
	for _, m := range list {
		if m < n {
			less = append(less, m)
		} else if m > n {
			less = append(less, m-1)
		}
	}
	return slices.Delete(slices.Clone(calls), n, n+1), less
}

// wantOrderWithoutReads asks that there is an order still, whichever reads are left out.
func wantOrderWithoutReads(t *testing.T, calls []api.Call, known []int) {
	t.Helper()
	list := wantOrder(t, calls, known)
	for n, c := range calls {
		if !c.IsWrite {
			others, known := without(calls, list, n)
			wantOrder(t, others, known)
		}
	}
	for n := len(calls) - 1; n >= 0; n-- {
		if !calls[n].IsWrite {
			calls, list = without(calls, list, n)
			list = wantOrder(t, calls, list)
		}
	}
}

// What was done one behind the other, rightly, has an order; to leave out a read leaves one.
func TestO3Done(t *testing.T) {
	random := rand.New(rand.NewSource(3))
	other := 0
	for range 8000 {
		calls, list := doneCalls(random, anyKind(random, mostCalls))
		wantOrderWithoutReads(t, calls, list)
		if !slices.Equal(wantOrder(t, calls, list), list) {
			other++
		}
	}
	if other < 1000 {
		t.Errorf("only %d had several orders", other)
	}
}

// So it is with whatever has an order, however it came about.
func TestO3LeftOut(t *testing.T) {
	random := rand.New(rand.NewSource(4))
	had := 0
	for range 20000 {
		calls := anyCalls(random, anyKind(random, mostCalls))
		if list, err := order.Find(calls); err == nil {
			wantOrderWithoutReads(t, calls, list)
			had++
		}
	}
	if had < 4000 {
		t.Errorf("only %d had an order", had)
	}
}

// To leave out a read may leave an order where there was none; to leave out a write may leave none.
func TestO3WhatElseIsLeftOut(t *testing.T) {
	calls := []api.Call{write(1, 2, 0, 7), read(3, 4, 0, 7), read(5, 6, 0, 8)}
	wantFind(t, "all", calls, nil, api.ErrNone)
	wantFind(t, "without the last", calls[:2], []int{0, 1}, api.OK)
	wantFind(t, "without the first", calls[1:2], nil, api.ErrNone)
}

// host drives a driver of two queues, and writes down what it sees of each call on one block.
type host struct {
	*driver.Driver
	t     *testing.T
	now   int
	calls []api.Call // with a To of 0 as long as they are not reaped
	tags  []int      // of the calls
	done  []int      // numbers of calls, in the order in which they were carried out
}

func newHost(t *testing.T) *host {
	t.Helper()
	d, err := driver.New(api.Geometry{Dies: 1, Blocks: 8, Pages: 4, Bytes: 24}, 3, 0, 8)
	if err != nil {
		t.Fatalf("New: %v", err)
	}
	return &host{Driver: d, t: t}
}

func (h *host) tick() int {
	h.now++
	return h.now
}

func (h *host) submit(queue, op, lba, value int) {
	h.t.Helper()
	var data []byte
	if op == api.Write {
		data = append([]byte{byte(value)}, make([]byte, h.Size()-1)...)
	}
	from := h.tick()
	tag, err := h.Submit(queue, op, lba, 1, data)
	if err != nil {
		return // the queue is full
	}
	h.calls = append(h.calls, api.Call{From: from, IsWrite: op != api.Read, Lba: lba, Value: value})
	h.tags = append(h.tags, tag)
}

// open gives the number of the call with that tag that is not reaped yet.
func (h *host) open(tag int) int {
	h.t.Helper()
	for n, c := range h.calls {
		if c.To == 0 && h.tags[n] == tag {
			return n
		}
	}
	h.t.Fatalf("no call has the tag %d", tag)
	return 0
}

func (h *host) step() bool {
	h.t.Helper()
	if !h.Step() {
		return false
	}
	log := h.Log()
	h.done = append(h.done, h.open(log[len(log)-1]))
	return true
}

func (h *host) reap(queue int) {
	h.t.Helper()
	results, err := h.Reap(queue)
	if err != nil {
		h.t.Fatalf("Reap(%d): %v", queue, err)
	}
	to := h.tick()
	for _, r := range results {
		n := h.open(r.Tag)
		h.calls[n].To = to
		if r.Status != api.Done {
			h.t.Fatalf("%+v: Status %d", h.calls[n], r.Status)
		}
		if !h.calls[n].IsWrite {
			h.calls[n].Value = int(r.Data[0])
		}
	}
}

// anything does something at random, as long as few calls were submitted.
func (h *host) anything(random *rand.Rand) {
	h.t.Helper()
	switch random.Intn(8) {
	case 0, 1, 2, 3:
		ops := []struct{ op, value int }{{api.Write, 1 + random.Intn(3)}, {api.Write, 0}, {api.Trim, 0}, {api.Read, 0}, {api.Read, 0}}
		o := ops[random.Intn(len(ops))]
		h.submit(random.Intn(2), o.op, random.Intn(3), o.value)
	case 4, 5:
		h.step()
	default:
		h.reap(random.Intn(2))
	}
}

// A driver does what two queues ask one behind the other; so what its host sees has an order, that of its Log among others.
func TestO3Driver(t *testing.T) {
	random := rand.New(rand.NewSource(5))
	met := map[string]int{}
	for range 600 {
		h, most := newHost(t), 1+random.Intn(mostCalls)
		for len(h.calls) < most {
			h.anything(random)
		}
		for h.step() {
		}
		h.reap(0)
		h.reap(1)
		wantOrderWithoutReads(t, h.calls, h.done)
		if !slices.Equal(h.done, counted(len(h.done))) {
			met["not as submitted"]++
		}
		for n, c := range h.calls {
			if !c.IsWrite {
				met["reads"]++
				c.Value = 99
				wantFind(t, "what nobody wrote", but(h.calls, n, c), nil, api.ErrNone)
				c.Value = random.Intn(4)
				if len(h.calls) < 8 && !wantLike(t, "another Value", but(h.calls, n, c)) {
					met["none"]++
				}
			}
		}
	}
	for _, what := range []string{"not as submitted", "reads", "none"} {
		if met[what] < 100 {
			t.Errorf("%s: only %d", what, met[what])
		}
	}
}
