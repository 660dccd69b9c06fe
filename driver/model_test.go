package driver_test

import (
	"bytes"
	"errors"
	"fmt"
	"math/rand"
	"slices"
	"strings"
	"testing"

	"granary/api"
	"granary/disk"
	"granary/driver"
	"granary/plain"
)

// order is a command that waits.
type order struct {
	tag, op, lba, count int
	data                []byte
}

// like is what the chapters say of a driver. Its disk is one of its own, which is asked just what chapter 18 says: what it answers is chapter 11's.
type like struct {
	disk        *disk.Disk
	lbas, slots int
	waits       [2][]order
	done        [2][]driver.Result
	at, credit  int // where turns stand
	log         []int
}

// unreaped tells how many commands of a queue are not reaped yet.
func (m *like) unreaped(queue int) int { return len(m.waits[queue]) + len(m.done[queue]) }

func (m *like) has(tag int) bool {
	for queue := range 2 {
		for _, o := range m.waits[queue] {
			if o.tag == tag {
				return true
			}
		}
		for _, r := range m.done[queue] {
			if r.Tag == tag {
				return true
			}
		}
	}
	return false
}

func (m *like) submit(queue, op, lba, count int, data []byte) (int, api.Errno) {
	moves := op == 2 || op == 3
	switch {
	case queue != 0 && queue != 1, op < 1, op > 4, lba < 0, lba > mostLba, count < 0, count > mostCount:
		return 0, api.ErrRange
	case moves && count*m.disk.Size() > mostMoved:
		return 0, api.ErrRange
	case op == 2 && len(data) != count*m.disk.Size():
		return 0, api.ErrShape
	case m.unreaped(queue) >= m.slots-1:
		return 0, api.ErrFull
	}
	tag := 0
	for m.has(tag) {
		tag++
	}
	m.waits[queue] = append(m.waits[queue], order{tag, op, lba, count, bytes.Clone(data)})
	return tag, api.OK
}

func (m *like) step() bool {
	if len(m.waits[0])+len(m.waits[1]) == 0 {
		return false
	}
	if m.credit == 0 || len(m.waits[m.at]) == 0 {
		if len(m.waits[1-m.at]) > 0 {
			m.at = 1 - m.at
		}
		m.credit = 1
	}
	m.credit--
	o := m.waits[m.at][0]
	m.waits[m.at] = m.waits[m.at][1:]
	m.log = append(m.log, o.tag)
	r := m.carry(o)
	r.Tag = o.tag
	m.done[m.at] = append(m.done[m.at], r)
	return true
}

func (m *like) carry(o order) driver.Result {
	if o.op == 1 {
		return driver.Result{Status: statusOf(m.disk.Flush())}
	}
	if o.count == 0 || o.lba >= m.lbas || o.count > m.lbas-o.lba {
		return driver.Result{Status: api.BadLba}
	}
	var read []byte
	for i := range o.count {
		var err error
		switch o.op {
		case 2:
			size := m.disk.Size()
			err = m.disk.Write(o.lba+i, o.data[i*size:(i+1)*size])
		case 3:
			var block []byte
			block, err = m.disk.Read(o.lba + i)
			read = append(read, block...)
		case 4:
			err = m.disk.Trim(o.lba + i)
		}
		if err != nil {
			return driver.Result{Status: statusOf(err)}
		}
	}
	return driver.Result{Data: read}
}

func statusOf(err error) int {
	switch {
	case err == nil:
		return api.Done
	case errors.Is(err, api.ErrPower):
		return api.NoPower
	}
	return api.Protected
}

func (m *like) reap(queue int) ([]driver.Result, api.Errno) {
	if queue != 0 && queue != 1 {
		return nil, api.ErrRange
	}
	l := m.done[queue]
	m.done[queue] = nil
	return l, api.OK
}

// rig has a driver and its model, which are called alike.
type rig struct {
	t        testing.TB
	driver   *driver.Driver
	model    *like
	calls    []string
	statuses [6]int
	turns    [2]int
	refused  [12]int
}

func newRig(t testing.TB, p plan, slots int) *rig {
	t.Helper()
	d, err := disk.New(p.g, p.lbas, p.spare)
	if err != nil {
		t.Fatal(err)
	}
	return &rig{
		t:      t,
		driver: newHost(t, p, slots).Driver,
		model:  &like{disk: d, lbas: p.lbas, slots: slots, credit: 1},
		calls:  []string{fmt.Sprintf("New(%+v, %d)", p, slots)},
	}
}

func (r *rig) called(format string, args ...any) {
	r.calls = append(r.calls, fmt.Sprintf(format, args...))
}

func (r *rig) wrong(got, want any) {
	r.t.Helper()
	from := max(0, len(r.calls)-60)
	r.t.Fatalf("%s\ngot %v, want %v", strings.Join(r.calls[from:], "\n"), got, want)
}

func (r *rig) submit(queue, op, lba, count int, data []byte) {
	r.t.Helper()
	r.called("Submit(%d, %d, %d, %d, %v)", queue, op, lba, count, data)
	given := bytes.Clone(data)
	want, told := r.model.submit(queue, op, lba, count, data)
	got, err := r.driver.Submit(queue, op, lba, count, data)
	if got != want || plain.Told(err) != told {
		r.wrong(fmt.Sprint(got, err), fmt.Sprint(want, told))
	}
	if !bytes.Equal(data, given) {
		r.wrong(data, given)
	}
	// What is handed in is not kept: so it may be spoilt.
	for i := range data {
		data[i] ^= 0x55
	}
	r.refused[told]++
}

func (r *rig) step() {
	r.t.Helper()
	r.called("Step()")
	want := r.model.step()
	if got := r.driver.Step(); got != want {
		r.wrong(got, want)
	}
	if want {
		r.turns[r.model.at]++
	}
	if got := r.driver.Log(); !slices.Equal(got, r.model.log) {
		r.wrong(got, r.model.log)
	}
}

func (r *rig) reap(queue int) {
	r.t.Helper()
	r.called("Reap(%d)", queue)
	want, told := r.model.reap(queue)
	got, err := r.driver.Reap(queue)
	if plain.Told(err) != told || !slices.EqualFunc(got, want, sameResult) {
		r.wrong(fmt.Sprint(got, err), fmt.Sprint(want, told))
	}
	for _, one := range got {
		r.statuses[one.Status]++
		clear(one.Data)
	}
}

func (r *rig) cut(n int) {
	r.called("Cut(%d)", n)
	r.driver.Cut(n)
	r.model.disk.Cut(n)
}

func (r *rig) fails(n int) {
	r.called("Fails(%d)", n)
	r.driver.Fails(n)
	r.model.disk.Fails(n)
}

func (r *rig) mount() {
	r.t.Helper()
	r.called("Mount()")
	want := plain.Told(r.model.disk.Mount())
	if err := r.driver.Mount(); plain.Told(err) != want {
		r.wrong(err, want)
	}
}

// source makes numbers of bytes.
type source struct{ left []byte }

func (s *source) below(n int) int {
	if len(s.left) == 0 {
		return 0
	}
	x := int(s.left[0])
	s.left = s.left[1:]
	if n > 256 && len(s.left) > 0 {
		x = x<<8 | int(s.left[0])
		s.left = s.left[1:]
	}
	return x % n
}

// oneOf gives mostly the first, else one of the others.
func (s *source) oneOf(usual int, others ...int) int {
	if i := s.below(32); i < len(others) {
		return others[i]
	}
	return usual
}

// send submits a command that is mostly a fair one.
func (r *rig) send(s *source) {
	r.t.Helper()
	size, lbas := r.model.disk.Size(), r.model.lbas
	queue := s.oneOf(s.below(2), -1, 2)
	op := s.oneOf([]int{1, 2, 2, 2, 3, 3, 3, 4}[s.below(8)], 0, 5, 255, 257)
	lba := s.oneOf(s.below(lbas), lbas, lbas+1, mostLba, mostLba+1, -1)
	count := s.oneOf(1+s.below(max(1, min(mostMoved/size, lbas-min(max(lba, 0), lbas)))), 0, mostMoved/size, mostMoved/size+1, mostCount, mostCount+1, -1)
	long := s.oneOf(count*size, count*size-1, count*size+1, 0)
	// Of a count that is refused it does not count how many bytes there are.
	data := counted(min(long, 1000), s.below(256))
	if op != 2 && s.below(4) > 0 {
		data = nil
	}
	r.submit(queue, op, lba, count, data)
}

// call makes one call, as bytes say.
func (r *rig) call(s *source) {
	r.t.Helper()
	switch kind := s.below(64); {
	case kind < 28:
		r.send(s)
	case kind < 50:
		r.step()
	case kind < 60:
		r.reap(s.oneOf(s.below(2), -1, 2))
	case kind < 61:
		r.fails([]int{-1, 0, 1, 0}[s.below(4)])
	case kind < 62:
		r.cut(s.below(24) - 1)
	default:
		r.mount()
	}
}

// modelPlans of disks: of small blocks and of great ones, full ones, and one that may have bad blocks.
func modelPlans() []plan {
	return []plan{
		tiny(),
		{geometry(1, 5, 1, 24), 1, 0},
		{geometry(1, 7, 2, 64), 4, 1},
		{geometry(2, 4, 3, 96), 12, 0},
		{geometry(1, 6, 8, 256), 16, 0},
		{geometry(1, 9, 16, 48), 80, 0},
		{geometry(1, 13, 16, 24), 90, 1},
	}
}

// Calls at random, all held against the model.
func TestAllAtRandom(t *testing.T) {
	statuses, turns, refused := [6]int{}, [2]int{}, [12]int{}
	for seed := range 210 {
		random := rand.New(rand.NewSource(int64(seed)))
		plans := modelPlans()
		r := newRig(t, plans[seed%len(plans)], 2+seed/len(plans)%15)
		b := make([]byte, 4000)
		random.Read(b)
		s := &source{b}
		for len(s.left) > 0 {
			r.call(s)
		}
		for i, n := range r.statuses {
			statuses[i] += n
		}
		for i, n := range r.turns {
			turns[i] += n
		}
		for i, n := range r.refused {
			refused[i] += n
		}
	}
	for _, status := range []int{api.Done, api.BadLba, api.Protected, api.NoPower} {
		if statuses[status] < 100 {
			t.Errorf("only %d commands were of Status %d", statuses[status], status)
		}
	}
	for _, status := range []int{api.BadOp, api.BadField} {
		if statuses[status] != 0 {
			t.Errorf("%d commands were of Status %d, which none can have that is submitted", statuses[status], status)
		}
	}
	for queue, n := range turns {
		if n < 1000 {
			t.Errorf("only %d commands were of queue %d", n, queue)
		}
	}
	for _, told := range []api.Errno{api.OK, api.ErrRange, api.ErrShape, api.ErrFull} {
		if refused[told] < 100 {
			t.Errorf("only %d Submits were answered %v", refused[told], told)
		}
	}
}

// All short sequences of calls, of rings of two slots and of three.
func TestAllSequences(t *testing.T) {
	const long = 5
	calls := []func(r *rig){
		func(r *rig) { r.submit(0, api.Write, 0, 1, []byte{1, 2, byte(len(r.calls))}) },
		func(r *rig) { r.submit(1, api.Read, 0, 1, nil) },
		func(r *rig) { r.submit(1, api.Trim, 0, 1, nil) },
		func(r *rig) { r.submit(0, api.Write, 0, 1, nil) },
		func(r *rig) { r.step() },
		func(r *rig) { r.reap(0) },
		func(r *rig) { r.reap(1) },
	}
	total := 1
	for range long {
		total *= len(calls)
	}
	for slots := 2; slots <= 3; slots++ {
		for code := range total {
			r := newRig(t, plan{geometry(1, 5, 1, 24), 1, 0}, slots)
			for left, i := code, 0; i < long; left, i = left/len(calls), i+1 {
				calls[left%len(calls)](r)
			}
			for range long {
				r.step()
			}
			r.reap(1)
			r.reap(0)
		}
	}
}

// FuzzDriver takes bytes for calls, and holds all of them against the model.
func FuzzDriver(f *testing.F) {
	for seed := range 24 {
		random := rand.New(rand.NewSource(int64(seed)))
		calls := make([]byte, 1000)
		random.Read(calls)
		f.Add(seed, seed/2, calls)
	}
	f.Fuzz(func(t *testing.T, slots, which int, calls []byte) {
		plans := modelPlans()
		r := newRig(t, plans[uint(which)%uint(len(plans))], 2+int(uint(slots)%15))
		s := &source{calls}
		for len(s.left) > 0 {
			r.call(s)
		}
	})
}
