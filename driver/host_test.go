package driver_test

import (
	"bytes"
	"fmt"
	"slices"
	"testing"

	"granary/api"
	"granary/driver"
	"granary/plain"
)

// The numbers as the chapters have them.
const (
	mostSlots = 16
	mostMoved = 256
	mostLba   = 1 << 62
	mostCount = 65535
)

// plan is what a driver's disk is made of.
type plan struct {
	g           api.Geometry
	lbas, spare int
}

func geometry(dies, blocks, pages, bytes int) api.Geometry {
	return api.Geometry{Dies: dies, Blocks: blocks, Pages: pages, Bytes: bytes}
}

func (p plan) size() int { return p.g.Bytes - 21 }

// tiny is a full disk of four lbas of 3 bytes, which is latched by one block that fails.
func tiny() plan { return plan{geometry(1, 6, 2, 24), 4, 0} }

// many has so many lbas of 3 bytes that one command can move 255 bytes.
func many() plan { return plan{geometry(1, 16, 16, 24), 96, 0} }

// allOps are those that a command may have.
func allOps() []int { return []int{api.Flush, api.Write, api.Read, api.Trim} }

// host is a driver that fails its test where something that may not be refused is.
type host struct {
	*driver.Driver
	t testing.TB
}

func newHost(t testing.TB, p plan, slots int) *host {
	t.Helper()
	d, err := driver.New(p.g, p.lbas, p.spare, slots)
	if err != nil || d == nil {
		t.Fatalf("New(%+v, %d): %v, %v", p, slots, d, err)
	}
	return &host{Driver: d, t: t}
}

// send submits a command, and gives its tag.
func (h *host) send(queue, op, lba, count int, data []byte) int {
	h.t.Helper()
	tag, err := h.Submit(queue, op, lba, count, data)
	if err != nil {
		h.t.Fatalf("Submit(%d, %d, %d, %d) of %d bytes: %v", queue, op, lba, count, len(data), err)
	}
	return tag
}

// flush submits a flush, and wants that tag.
func (h *host) flush(name string, queue, tag int) {
	h.t.Helper()
	if got := h.send(queue, api.Flush, 0, 0, nil); got != tag {
		h.t.Errorf("%s: tag %d, want %d", name, got, tag)
	}
}

// wantRefused asks for an error of Submit, beside which there is no tag.
func (h *host) wantRefused(name string, queue, op, lba, count int, data []byte, want api.Errno) {
	h.t.Helper()
	tag, err := h.Submit(queue, op, lba, count, data)
	if tag != 0 || plain.Told(err) != want {
		h.t.Errorf("%s: Submit(%d, %d, %d, %d) of %d bytes: got %d, %v, want %v", name, queue, op, lba, count, len(data), tag, err, want)
	}
}

func (h *host) wantStep(name string, want bool) {
	h.t.Helper()
	if got := h.Step(); got != want {
		h.t.Errorf("%s: Step: got %v, want %v", name, got, want)
	}
}

// stepAll steps till nothing waits, and tells how often something did.
func (h *host) stepAll() int {
	h.t.Helper()
	n := 0
	for h.Step() {
		if n++; n > 1000 {
			h.t.Fatal("Step goes on and on")
		}
	}
	return n
}

func (h *host) wantLog(name string, want ...int) {
	h.t.Helper()
	if got := h.Log(); !slices.Equal(got, want) {
		h.t.Errorf("%s: Log: got %v, want %v", name, got, want)
	}
}

// reap gives the results of a queue.
func (h *host) reap(queue int) []driver.Result {
	h.t.Helper()
	l, err := h.Reap(queue)
	if err != nil {
		h.t.Fatalf("Reap(%d): %v", queue, err)
	}
	return l
}

func sameResult(a, b driver.Result) bool {
	return a.Tag == b.Tag && a.Status == b.Status && bytes.Equal(a.Data, b.Data)
}

func (h *host) wantReaped(name string, queue int, want ...driver.Result) {
	h.t.Helper()
	if got := h.reap(queue); !slices.EqualFunc(got, want, sameResult) {
		h.t.Errorf("%s: Reap(%d): got %v, want %v", name, queue, got, want)
	}
}

// wantTags asks for the tags of what is reaped, of which all has to be Done.
func (h *host) wantTags(name string, queue int, want ...int) {
	h.t.Helper()
	var l []driver.Result
	for _, tag := range want {
		l = append(l, driver.Result{Tag: tag})
	}
	h.wantReaped(name, queue, l...)
}

// do has one command carried out, where nothing else waits, and gives its result.
func (h *host) do(op, lba, count int, data []byte) driver.Result {
	h.t.Helper()
	tag := h.send(0, op, lba, count, data)
	h.wantStep("one command", true)
	l := h.reap(0)
	if len(l) != 1 || l[0].Tag != tag {
		h.t.Fatalf("one command with tag %d: Reap: %v", tag, l)
	}
	return l[0]
}

// want asks for the Status of a command, and for its Data.
func (h *host) want(name string, op, lba, count int, data []byte, status int, read []byte) {
	h.t.Helper()
	got := h.do(op, lba, count, data)
	if got.Status != status || !bytes.Equal(got.Data, read) {
		h.t.Errorf("%s: op %d, lba %d, count %d: Status %d, Data %v, want %d, %v", name, op, lba, count, got.Status, got.Data, status, read)
	}
}

func (h *host) keep(lba int, data []byte) {
	h.t.Helper()
	h.want("to write", api.Write, lba, len(data)/h.Size(), data, api.Done, nil)
}

func (h *host) wantKept(name string, lba int, want []byte) {
	h.t.Helper()
	h.want(name, api.Read, lba, len(want)/h.Size(), nil, api.Done, want)
}

// mount gives power back.
func (h *host) mount() {
	h.t.Helper()
	if err := h.Mount(); err != nil {
		h.t.Fatalf("Mount: %v", err)
	}
}

// bytesFor gives data for a command: what a Write needs, and none for the others.
func bytesFor(op, count, size int) []byte {
	if op == api.Write {
		return counted(count*size, count)
	}
	return nil
}

// counted gives n bytes, none of which is 0, that differ from those that begin elsewhere.
func counted(n, from int) []byte {
	out := make([]byte, max(n, 0))
	for i := range out {
		out[i] = byte(1 + (from+i)%251)
	}
	return out
}

func opName(op int) string {
	return fmt.Sprintf("op %d", op)
}
