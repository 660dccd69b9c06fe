package ctrl_test

import (
	"bytes"
	"fmt"
	"slices"
	"testing"

	"granary/api"
	"granary/cmd"
	"granary/ctrl"
	"granary/plain"
)

// The numbers as the chapters have them.
const (
	mostQueues   = 4
	mostSlots    = 16
	mostWeight   = 16
	mostMemory   = 16384
	mostMoved    = 2048
	commandBytes = 64
	doneBytes    = 16
	pageBytes    = 64
)

// Where a host of these tests has its slots, and from where on it has pages for data.
const (
	sqBytes = mostSlots * commandBytes
	cqBytes = mostSlots * doneBytes
	sqFrom  = 0
	cqFrom  = sqFrom + mostQueues*sqBytes
	pages   = cqFrom + mostQueues*cqBytes
)

// plan is what a controller's disk is made of.
type plan struct {
	g           api.Geometry
	lbas, spare int
}

func geometry(dies, blocks, pages, bytes int) api.Geometry {
	return api.Geometry{Dies: dies, Blocks: blocks, Pages: pages, Bytes: bytes}
}

func (p plan) size() int { return p.g.Bytes - 21 }

// tiny is a full disk of four lbas of 3 bytes, which is latched by one block that fails.
func tiny() plan { return plan{geometry(1, 6, 2, 24), 4, 0} }

// wide has lbas of 211 bytes: each lies in four pages, so that a list is needed of at least three.
func wide() plan { return plan{geometry(1, 8, 4, 232), 16, 0} }

func wantErr(t testing.TB, name string, err error, want api.Errno) {
	t.Helper()
	if got := plain.Told(err); got != want {
		t.Errorf("%s: got %v, want %v", name, got, want)
	}
}

func made(t testing.TB, n int, p plan) *ctrl.Ctrl {
	t.Helper()
	c, err := ctrl.New(n, p.g, p.lbas, p.spare)
	if err != nil || c == nil {
		t.Fatalf("New(%d, %+v): %v, %v", n, p, c, err)
	}
	return c
}

// host is a controller with what a host has to know of its queues.
type host struct {
	*ctrl.Ctrl
	t     testing.TB
	sizes [mostQueues]int
	sent  [mostQueues]int
	seen  [mostQueues]int
}

func newHost(t testing.TB, p plan) *host {
	t.Helper()
	return &host{Ctrl: made(t, mostMemory, p), t: t}
}

// oneQueue gives a host with the queue 0 alone, of four slots.
func oneQueue(t testing.TB, p plan) *host {
	t.Helper()
	h := newHost(t, p)
	h.queue(0, 4, 1)
	return h
}

func sqOf(id int) int { return sqFrom + id*sqBytes }

func cqOf(id int) int { return cqFrom + id*cqBytes }

// queue makes a queue whose slots stand at a place of their own.
func (h *host) queue(id, size, weight int) {
	h.t.Helper()
	if err := h.Queue(id, sqOf(id), cqOf(id), size, weight); err != nil {
		h.t.Fatalf("Queue(%d) of %d slots: %v", id, size, err)
	}
	h.sizes[id], h.sent[id], h.seen[id] = size, 0, 0
}

func (h *host) drop(id int) {
	h.t.Helper()
	wantErr(h.t, fmt.Sprintf("Drop(%d)", id), h.Drop(id), api.OK)
}

func (h *host) poke(at int, data []byte) {
	h.t.Helper()
	if err := h.Poke(at, data); err != nil {
		h.t.Fatalf("Poke(%d) of %d bytes: %v", at, len(data), err)
	}
}

func (h *host) peek(at, n int) []byte {
	h.t.Helper()
	data, err := h.Peek(at, n)
	if err != nil || len(data) != n {
		h.t.Fatalf("Peek(%d, %d): %v, %v", at, n, data, err)
	}
	return data
}

// all gives the whole memory.
func (h *host) all() []byte {
	h.t.Helper()
	return h.peek(0, mostMemory)
}

// number lets eight bytes be a number, the lowest first.
func (h *host) number(at, x int) {
	h.t.Helper()
	h.poke(at, numbers(x))
}

func numbers(l ...int) []byte {
	var out []byte
	for _, x := range l {
		for i := range 8 {
			out = append(out, byte(uint64(x)>>(8*i)))
		}
	}
	return out
}

func encoded(t testing.TB, c api.Command) []byte {
	t.Helper()
	b, err := cmd.Encode(c)
	if err != nil {
		t.Fatalf("Encode(%+v): %v", c, err)
	}
	return b
}

// sendBytes lets the bytes of a command stand in the next slot of a queue, and tells the tail behind it.
func (h *host) sendBytes(id int, b []byte) {
	h.t.Helper()
	h.poke(sqOf(id)+h.sent[id]%h.sizes[id]*commandBytes, b)
	h.sent[id]++
	wantErr(h.t, "Tail", h.Tail(id, h.sent[id]%h.sizes[id]), api.OK)
}

func (h *host) send(id int, c api.Command) {
	h.t.Helper()
	h.sendBytes(id, encoded(h.t, c))
}

// fill sends flushes till a queue has no room for more.
func (h *host) fill(id int) {
	h.t.Helper()
	for h.sent[id]-h.seen[id] < h.sizes[id]-1 {
		h.send(id, api.Command{Op: api.Flush, Id: h.sent[id]})
	}
}

// wantStep asks for the queue whose command a Step carries out.
func (h *host) wantStep(name string, id int) {
	h.t.Helper()
	got, err := h.Step()
	if got != id || err != nil {
		h.t.Errorf("%s: Step: got %d, %v, want %d", name, got, err, id)
	}
}

// wantIdle asks that nothing waits, and that to ask for it changes nothing in the memory.
func (h *host) wantIdle(name string) {
	h.t.Helper()
	was := h.all()
	got, err := h.Step()
	if got != 0 || plain.Told(err) != api.ErrNone {
		h.t.Errorf("%s: Step: got %d, %v, want ErrNone", name, got, err)
	}
	if !bytes.Equal(h.all(), was) {
		h.t.Errorf("%s: a Step of nothing changes the memory", name)
	}
}

// reap takes the next completion of a queue out, which has to have the Phase of its round.
func (h *host) reap(id int) api.Completion {
	h.t.Helper()
	size := h.sizes[id]
	b := h.peek(cqOf(id)+h.seen[id]%size*doneBytes, doneBytes)
	d, err := cmd.DecodeDone(b)
	if err != nil {
		h.t.Fatalf("DecodeDone(%v): %v", b, err)
	}
	if phase := h.seen[id]/size%2 == 0; d.Phase != phase {
		h.t.Errorf("queue %d, completion %d of %d slots: Phase %v, want %v", id, h.seen[id], size, d.Phase, phase)
	}
	h.seen[id]++
	if want := h.seen[id] % size; d.Queue != id || d.Head != want {
		h.t.Errorf("queue %d, completion %d of %d slots: Queue %d, Head %d, want %d, %d", id, h.seen[id]-1, size, d.Queue, d.Head, id, want)
	}
	wantErr(h.t, "Head", h.Head(id, h.seen[id]%size), api.OK)
	return d
}

// doBytes has one command carried out by the queue 0, and gives its completion.
func (h *host) doBytes(b []byte) api.Completion {
	h.t.Helper()
	h.sendBytes(0, b)
	h.wantStep("one command", 0)
	return h.reap(0)
}

// do gives the Status of a command.
func (h *host) do(c api.Command) int {
	h.t.Helper()
	d := h.doBytes(encoded(h.t, c))
	if d.Id != c.Id {
		h.t.Errorf("%+v: Id %d", c, d.Id)
	}
	return d.Status
}

func (h *host) want(name string, c api.Command, status int) {
	h.t.Helper()
	if got := h.do(c); got != status {
		h.t.Errorf("%s: %+v: Status %d, want %d", name, c, got, status)
	}
}

// keep writes bytes of one lba, by way of the first page for data.
func (h *host) keep(lba int, data []byte) int {
	h.t.Helper()
	h.poke(pages, data)
	return h.do(api.Command{Op: api.Write, Lba: lba, Count: 1, First: pages})
}

// kept reads one lba, by way of the first page for data.
func (h *host) kept(lba, size int) []byte {
	h.t.Helper()
	h.want("to read", api.Command{Op: api.Read, Lba: lba, Count: 1, First: pages}, api.Done)
	return h.peek(pages, size)
}

func (h *host) wantKept(name string, lba int, want []byte) {
	h.t.Helper()
	if got := h.kept(lba, len(want)); !slices.Equal(got, want) {
		h.t.Errorf("%s: lba %d: got %v, want %v", name, lba, got, want)
	}
}

func (h *host) wantRings(name string, id, want int) {
	h.t.Helper()
	got, err := h.Rings(id)
	if got != want || err != nil {
		h.t.Errorf("%s: Rings(%d): got %d, %v, want %d", name, id, got, err, want)
	}
}

// post has one command of a queue carried out, so that its bell has a post.
func (h *host) post(id int) {
	h.t.Helper()
	h.send(id, api.Command{Op: api.Flush})
	h.wantStep("a post", id)
	h.reap(id)
}

func times(n int, do func()) {
	for range n {
		do()
	}
}

// counted gives n bytes that differ from those that begin elsewhere.
func counted(n, from int) []byte {
	out := make([]byte, n)
	for i := range out {
		out[i] = byte(1 + (from+i)%251)
	}
	return out
}
