package ctrl_test

import (
	"bytes"
	"encoding/binary"
	"fmt"
	"math"
	"math/rand"
	"slices"
	"strings"
	"testing"

	"granary/api"
	"granary/ctrl"
	"granary/disk"
	"granary/list"
	"granary/plain"
)

// pair is what the chapters say of a queue and its bell.
type pair struct {
	id, sq, cq, size, weight int
	head, tail               int
	done, read               int // how many completions were written in all; the slot up to which they are read
	limit, delay             int
	masked                   bool
	now                      int   // how many ticks there were
	posted                   []int // when each that waits was posted
	rings                    int
}

func (p *pair) waits() int {
	if (p.done+1)%p.size == p.read {
		return 0
	}
	n := 0
	for slot := p.head; slot != p.tail; slot = (slot + 1) % p.size {
		n++
	}
	return n
}

func (p *pair) ring() {
	if p.masked || len(p.posted) == 0 {
		return
	}
	if len(p.posted) >= p.limit || p.now >= p.posted[0]+p.delay {
		p.rings++
		p.posted = nil
	}
}

// like is what the chapter says of a controller. Its disk is one of its own, which is asked just what the chapter says: what it answers is chapter 11's.
type like struct {
	memory     []byte
	disk       *disk.Disk
	lbas       int
	pairs      []*pair // those that are there, by their ids
	at, credit int     // where in that list turns stand
}

func (m *like) find(id int) (*pair, api.Errno) {
	if id < 0 || id > 3 {
		return nil, api.ErrRange
	}
	for _, p := range m.pairs {
		if p.id == id {
			return p, api.OK
		}
	}
	return nil, api.ErrNone
}

func (m *like) inside(at, n int) bool {
	return at >= 0 && at <= len(m.memory) && at+n <= len(m.memory)
}

func (m *like) queue(id, sq, cq, size, weight int) api.Errno {
	_, told := m.find(id)
	switch {
	case told == api.ErrRange || size < 2 || size > 16 || weight < 1 || weight > 16:
		return api.ErrRange
	case told == api.OK:
		return api.ErrState
	case sq&63 != 0 || cq&15 != 0:
		return api.ErrShape
	case !m.inside(sq, 64*size) || !m.inside(cq, 16*size):
		return api.ErrRange
	}
	m.pairs = append(m.pairs, &pair{id: id, sq: sq, cq: cq, size: size, weight: weight, limit: 1})
	slices.SortFunc(m.pairs, func(a, b *pair) int { return a.id - b.id })
	m.anew()
	return api.OK
}

func (m *like) anew() {
	if len(m.pairs) > 0 {
		m.at, m.credit = 0, m.pairs[0].weight
	}
}

func (m *like) drop(id int) api.Errno {
	p, told := m.find(id)
	if told == api.OK {
		m.pairs = slices.DeleteFunc(m.pairs, func(other *pair) bool { return other == p })
		m.anew()
	}
	return told
}

func (m *like) tailOrHead(id, slot int, set func(p *pair)) api.Errno {
	p, told := m.find(id)
	if told != api.OK {
		return told
	}
	if slot < 0 || slot > p.size-1 {
		return api.ErrRange
	}
	set(p)
	return api.OK
}

func (m *like) calm(id, limit, delay int) api.Errno {
	p, told := m.find(id)
	if told != api.OK {
		return told
	}
	if limit < 1 || limit > 64 || delay < 0 || delay > 1000 {
		return api.ErrRange
	}
	p.limit, p.delay, p.masked, p.posted = limit, delay, false, nil
	return api.OK
}

func (m *like) mask(id int, on bool) api.Errno {
	p, told := m.find(id)
	if told == api.OK {
		p.masked = on
		p.ring()
	}
	return told
}

func (m *like) tick() {
	for _, p := range m.pairs {
		p.now++
		p.ring()
	}
}

func (m *like) turn() *pair {
	if !slices.ContainsFunc(m.pairs, func(p *pair) bool { return p.waits() > 0 }) {
		return nil
	}
	if m.credit == 0 || m.pairs[m.at].waits() == 0 {
		m.at = (m.at + 1) % len(m.pairs)
		for m.pairs[m.at].waits() == 0 {
			m.at = (m.at + 1) % len(m.pairs)
		}
		m.credit = m.pairs[m.at].weight
	}
	m.credit--
	return m.pairs[m.at]
}

func (m *like) step(t testing.TB) (int, api.Errno) {
	p := m.turn()
	if p == nil {
		return 0, api.ErrNone
	}
	command := bytes.Clone(m.memory[p.sq+64*p.head:][:64])
	status := m.carry(t, command)
	p.head = (p.head + 1) % p.size
	done := m.memory[p.cq+16*(p.done%p.size):][:16]
	clear(done)
	done[0], done[1], done[2], done[4], done[6] = command[2], command[3], byte(p.id), byte(p.head), byte(status)
	if p.done/p.size%2 == 0 {
		done[7] = 1
	}
	p.done++
	p.posted = append(p.posted, p.now)
	p.ring()
	return p.id, api.OK
}

func (m *like) carry(t testing.TB, b []byte) int {
	lba, first, second := binary.LittleEndian.Uint64(b[8:]), binary.LittleEndian.Uint64(b[24:]), binary.LittleEndian.Uint64(b[32:])
	count := uint64(binary.LittleEndian.Uint32(b[16:]))
	if max(lba, first, second) > 1<<62 {
		return api.BadField
	}
	switch b[0] {
	case 1:
		return statusOf(m.disk.Flush())
	case 2, 3, 4:
	default:
		return api.BadOp
	}
	if count == 0 || lba+count > uint64(m.lbas) {
		return api.BadLba
	}
	long := int(count) * m.disk.Size()
	if b[0] == 4 {
		return m.blocks(int(lba), int(count), func(lba, _ int) error { return m.disk.Trim(lba) })
	}
	if long > mostMoved {
		return api.BadField
	}
	l, err := list.Walk(memoryOf(t, m.memory), int(first), int(second), long)
	if err != nil {
		return api.BadField
	}
	return m.move(b[0] == 2, int(lba), int(count), l)
}

func statusOf(err error) int {
	switch plain.Told(err) {
	case api.OK:
		return api.Done
	case api.ErrPower:
		return api.NoPower
	}
	return api.Protected
}

func (m *like) blocks(lba, count int, do func(lba, i int) error) int {
	for i := range count {
		if status := statusOf(do(lba+i, i)); status != api.Done {
			return status
		}
	}
	return api.Done
}

// move goes byte by byte: places has where each of them stands.
func (m *like) move(isWrite bool, lba, count int, l []api.Segment) int {
	var places []int
	for _, s := range l {
		for i := range s.Long {
			places = append(places, s.At+i)
		}
	}
	data := make([]byte, len(places))
	for i, at := range places {
		data[i] = m.memory[at]
	}
	size := m.disk.Size()
	if isWrite {
		return m.blocks(lba, count, func(lba, i int) error { return m.disk.Write(lba, data[i*size:(i+1)*size]) })
	}
	status := m.blocks(lba, count, func(lba, i int) error {
		block, err := m.disk.Read(lba)
		copy(data[i*size:], block)
		return err
	})
	if status == api.Done {
		for i, at := range places {
			m.memory[at] = data[i]
		}
	}
	return status
}

// rig is a controller beside what the chapter says of it.
type rig struct {
	t     testing.TB
	c     *ctrl.Ctrl
	m     like
	log   []string
	steps [6]int // how many commands were of each Status
	turns [mostQueues]int
}

func newRig(t testing.TB, n int, p plan) *rig {
	t.Helper()
	d, err := disk.New(p.g, p.lbas, p.spare)
	if err != nil {
		t.Fatalf("disk %+v: %v", p, err)
	}
	return &rig{t: t, c: made(t, n, p), m: like{memory: make([]byte, n), disk: d, lbas: p.lbas}}
}

func (r *rig) fatal(format string, args ...any) {
	r.t.Helper()
	log := r.log[max(0, len(r.log)-30):]
	r.t.Fatalf("%s\nbehind %d calls, the last of them: %s", fmt.Sprintf(format, args...), len(r.log), strings.Join(log, "; "))
}

// same holds an error against what the chapter says, and with it all that can be asked without a change.
func (r *rig) same(name string, err error, want api.Errno) {
	r.t.Helper()
	r.log = append(r.log, name+": "+want.Error())
	if got := plain.Told(err); got != want {
		r.fatal("%s: got %v, want %v", name, got, want)
	}
	if is, err := r.c.Peek(0, len(r.m.memory)); err != nil || !bytes.Equal(is, r.m.memory) {
		r.fatal("%s: the memory differs, %v", name, err)
	}
	for id := -1; id <= mostQueues; id++ {
		p, told := r.m.find(id)
		want := 0
		if told == api.OK {
			want = p.rings
		}
		if got, err := r.c.Rings(id); got != want || plain.Told(err) != told {
			r.fatal("%s: Rings(%d): got %d, %v, want %d, %v", name, id, got, err, want, told)
		}
	}
}

func (r *rig) queue(id, sq, cq, size, weight int) {
	r.t.Helper()
	r.same(fmt.Sprintf("Queue(%d, %d, %d, %d, %d)", id, sq, cq, size, weight), r.c.Queue(id, sq, cq, size, weight), r.m.queue(id, sq, cq, size, weight))
}

func (r *rig) drop(id int) {
	r.t.Helper()
	r.same(fmt.Sprintf("Drop(%d)", id), r.c.Drop(id), r.m.drop(id))
}

func (r *rig) tail(id, slot int) {
	r.t.Helper()
	want := r.m.tailOrHead(id, slot, func(p *pair) { p.tail = slot })
	r.same(fmt.Sprintf("Tail(%d, %d)", id, slot), r.c.Tail(id, slot), want)
}

func (r *rig) head(id, slot int) {
	r.t.Helper()
	want := r.m.tailOrHead(id, slot, func(p *pair) { p.read = slot })
	r.same(fmt.Sprintf("Head(%d, %d)", id, slot), r.c.Head(id, slot), want)
}

func (r *rig) calm(id, limit, delay int) {
	r.t.Helper()
	r.same(fmt.Sprintf("Calm(%d, %d, %d)", id, limit, delay), r.c.Calm(id, limit, delay), r.m.calm(id, limit, delay))
}

func (r *rig) mask(id int, on bool) {
	r.t.Helper()
	r.same(fmt.Sprintf("Mask(%d, %v)", id, on), r.c.Mask(id, on), r.m.mask(id, on))
}

func (r *rig) tick() {
	r.t.Helper()
	r.c.Tick()
	r.m.tick()
	r.same("Tick", nil, api.OK)
}

func (r *rig) step() {
	r.t.Helper()
	want, told := r.m.step(r.t)
	got, err := r.c.Step()
	if got != want {
		r.fatal("Step: got %d, want %d", got, want)
	}
	r.same(fmt.Sprintf("Step of %d", want), err, told)
	if p, found := r.m.find(want); told == api.OK && found == api.OK {
		r.steps[r.m.memory[p.cq+16*((p.done-1)%p.size)+6]]++
		r.turns[want]++
	}
}

func (r *rig) poke(at int, data []byte) {
	r.t.Helper()
	want := api.ErrRange
	if r.m.inside(at, len(data)) {
		want = api.OK
		copy(r.m.memory[at:], data)
	}
	r.same(fmt.Sprintf("Poke(%d, %d bytes)", at, len(data)), r.c.Poke(at, data), want)
}

func (r *rig) cut(n int) {
	r.c.Cut(n)
	r.m.disk.Cut(n)
	r.same(fmt.Sprintf("Cut(%d)", n), nil, api.OK)
}

func (r *rig) fails(n int) {
	r.c.Fails(n)
	r.m.disk.Fails(n)
	r.same(fmt.Sprintf("Fails(%d)", n), nil, api.OK)
}

func (r *rig) mount() {
	r.same("Mount", r.c.Mount(), plain.Told(r.m.disk.Mount()))
}

// source gives numbers out of bytes; of none that are left all are 0.
type source struct{ left []byte }

func (s *source) below(n int) int {
	x := 0
	for most := 1; most < n; most <<= 8 {
		x <<= 8
		if len(s.left) > 0 {
			x |= int(s.left[0])
			s.left = s.left[1:]
		}
	}
	return x % n
}

// oneOf gives a number of a list, the first one more often than the others.
func (s *source) oneOf(l ...int) int {
	if s.below(4) > 0 {
		return l[0]
	}
	return l[s.below(len(l))]
}

func (s *source) command(n, lbas int) api.Command {
	lba := s.below(lbas)
	count := 1 + s.below(lbas-lba)
	return api.Command{
		Op:     s.oneOf(1+s.below(4), 0, 5, 255),
		Id:     s.below(65536),
		Lba:    s.oneOf(lba, lbas, lbas+1, 1<<62),
		Count:  s.oneOf(count, 0, 1, lbas, lbas+1, 1<<32-1),
		First:  s.oneOf(4*s.below(n/4+1), s.below(n+1), n, 1<<62),
		Second: s.oneOf(64*s.below(n/64+1), 8*s.below(n/8+1), s.below(n+1), n, 1<<62),
	}
}

// send lets a command stand at a queue's tail, and tells the slot behind it.
func (r *rig) send(s *source) {
	if len(r.m.pairs) == 0 {
		return
	}
	p := r.m.pairs[s.below(len(r.m.pairs))]
	b := encoded(r.t, s.command(len(r.m.memory), r.m.lbas))
	if s.below(12) == 0 {
		b[s.below(64)] ^= byte(1 + s.below(255))
	}
	r.poke(p.sq+64*p.tail, b)
	r.tail(p.id, (p.tail+1)%p.size)
}

// readAll tells the head up to which completions were written.
func (r *rig) readAll(s *source) {
	if len(r.m.pairs) > 0 {
		p := r.m.pairs[s.below(len(r.m.pairs))]
		r.head(p.id, p.done%p.size)
	}
}

// litter pokes something: a list of pages, or bytes.
func (r *rig) litter(s *source) {
	n := len(r.m.memory)
	data := make([]byte, 8*s.below(9))
	for at := 0; at < len(data); at += 8 {
		copy(data[at:], numbers(s.oneOf(64*s.below(n/64+1), s.below(n), 1<<62, -1)))
	}
	r.poke(s.oneOf(8*s.below(n/8+1), s.below(n+1), -1, n), data)
}

func (r *rig) makeQueue(s *source) {
	n := len(r.m.memory)
	size := s.oneOf(2+s.below(15), 2, 1, 16, 17)
	sq := s.oneOf(64*s.below(n/64+1), n, n-64*size, 8, -64, math.MinInt, math.MaxInt-63)
	cq := s.oneOf(16*s.below(n/16+1), n, n-16*size, 8, -16, math.MinInt, math.MaxInt-15)
	r.queue(s.oneOf(s.below(4), -1, 4), sq, cq, size, s.oneOf(1+s.below(4), 0, 1, 16, 17))
}

// bells has one call that is about them.
func (r *rig) bells(s *source) {
	switch id := s.oneOf(s.below(4), -1, 4); s.below(6) {
	case 0:
		r.calm(id, s.oneOf(1+s.below(4), 0, 64, 65), s.oneOf(s.below(5), -1, 1000, 1001))
	case 1:
		r.mask(id, s.below(3) == 0)
	default:
		r.tick()
	}
}

// troubles has one call that is about the disk.
func (r *rig) troubles(s *source) {
	switch s.below(8) {
	case 0:
		r.fails(s.below(3) - 1)
	case 1, 2:
		r.cut(s.below(8) - 1)
	default:
		r.mount()
	}
}

// ends tells a tail or a head that need not be fair.
func (r *rig) ends(s *source) {
	id, slot := s.oneOf(s.below(4), -1, 4), s.oneOf(s.below(17), -1, 16)
	if s.below(2) == 0 {
		r.tail(id, slot)
	} else {
		r.head(id, slot)
	}
}

// call makes one call, as bytes say.
func (r *rig) call(s *source) {
	r.t.Helper()
	switch kind := s.below(64); {
	case kind < 20:
		r.send(s)
	case kind < 40:
		r.step()
	case kind < 49:
		r.readAll(s)
	case kind < 52:
		r.makeQueue(s)
	case kind < 53:
		r.drop(s.oneOf(s.below(4), -1, 4))
	case kind < 55:
		r.ends(s)
	case kind < 59:
		r.bells(s)
	case kind < 60:
		r.troubles(s)
	default:
		r.litter(s)
	}
}

// plans of disks: of small blocks and of great ones, full ones, and one that may have bad blocks.
func modelPlans() []plan {
	return []plan{
		tiny(),
		{geometry(1, 5, 1, 24), 1, 0},
		{geometry(1, 7, 2, 64), 4, 1},
		{geometry(2, 4, 3, 96), 12, 0},
		{geometry(1, 6, 8, 256), 16, 0},
		{geometry(1, 9, 16, 48), 80, 0},
	}
}

// Calls at random, all held against the model.
func TestAllAtRandom(t *testing.T) {
	status, turns := [6]int{}, [mostQueues]int{}
	for seed := range 240 {
		random := rand.New(rand.NewSource(int64(seed)))
		plans := modelPlans()
		n := []int{256, 1024, 2048 + random.Intn(2048), mostMemory}[seed/len(plans)%4]
		r := newRig(t, n, plans[seed%len(plans)])
		b := make([]byte, 6000)
		random.Read(b)
		s := &source{b}
		for len(s.left) > 0 {
			r.call(s)
		}
		for i := range status {
			status[i] += r.steps[i]
		}
		for id := range turns {
			turns[id] += r.turns[id]
		}
	}
	for i, n := range status {
		if n < 100 {
			t.Errorf("only %d commands were of Status %d", n, i)
		}
	}
	for id, n := range turns {
		if n < 1000 {
			t.Errorf("only %d commands were of queue %d", n, id)
		}
	}
}

// All short sequences of calls of two queues, of which one has three slots and one two.
func TestAllSequences(t *testing.T) {
	const long = 4
	calls := []func(r *rig){
		func(r *rig) { r.tail(0, 1) },
		func(r *rig) { r.tail(0, 2) },
		func(r *rig) { r.tail(2, 1) },
		func(r *rig) { r.head(0, 1) },
		func(r *rig) { r.head(0, 2) },
		func(r *rig) { r.head(2, 1) },
		func(r *rig) { r.step() },
		func(r *rig) { r.drop(0) },
		func(r *rig) { r.queue(0, 0, 640, 3, 2) },
		func(r *rig) { r.queue(1, 64, 768, 2, 1) },
		func(r *rig) { r.calm(0, 2, 1) },
		func(r *rig) { r.tick() },
		func(r *rig) { r.mask(2, true) },
		func(r *rig) { r.mask(2, false) },
	}
	total := 1
	for range long {
		total *= len(calls)
	}
	for code := range total {
		r := newRig(t, 1024, plan{geometry(1, 5, 1, 24), 1, 0})
		r.queue(0, 0, 640, 3, 2)
		r.queue(2, 256, 704, 2, 1)
		for left, i := code, 0; i < long; left, i = left/len(calls), i+1 {
			calls[left%len(calls)](r)
		}
		r.step()
		r.step()
	}
}

// What is refused changes nothing: between all calls there is one that is refused, and all goes on as the model says.
func TestWhatIsRefusedChangesNothing(t *testing.T) {
	for seed := range 60 {
		random := rand.New(rand.NewSource(int64(seed)))
		r := newRig(t, 2048, modelPlans()[seed%len(modelPlans())])
		b := make([]byte, 3000)
		random.Read(b)
		s := &source{b}
		for len(s.left) > 0 {
			r.call(s)
			r.wrong(random)
		}
	}
}

// wrong makes a call that is refused, whatever there is.
func (r *rig) wrong(random *rand.Rand) {
	bad := []int{-1, -2, 17, 100, 1 << 32, math.MaxInt, math.MinInt} // no id, size, weight, slot, or place
	noLimit, noDelay := []int{0, -1, 65, math.MaxInt}, []int{-1, 1001, math.MaxInt, math.MinInt}
	no, id := bad[random.Intn(len(bad))], random.Intn(4)
	switch random.Intn(12) {
	case 0:
		r.queue(no, 0, 0, 2, 1)
	case 1:
		r.queue(id, 0, 0, no, 1)
	case 2:
		r.queue(id, 0, 0, 2, no)
	case 3:
		r.queue(id, 8, 0, 2, 1)
	case 4:
		r.queue(id, 0, 8, 2, 1)
	case 5:
		r.queue(id, math.MinInt, 0, 2, 1)
	case 6:
		r.drop(no)
	case 7:
		r.tail(id, no)
	case 8:
		r.head(id, no)
	case 9:
		r.calm(id, noLimit[random.Intn(len(noLimit))], 0)
	case 10:
		r.calm(id, 1, noDelay[random.Intn(len(noDelay))])
	case 11:
		r.poke(no, make([]byte, 3000))
	}
}

// FuzzCtrl takes bytes for calls, and holds all of them against the model.
func FuzzCtrl(f *testing.F) {
	for seed := range 24 {
		random := rand.New(rand.NewSource(int64(seed)))
		calls := make([]byte, 1500)
		random.Read(calls)
		f.Add(64*random.Intn(40), seed, calls)
	}
	f.Fuzz(func(t *testing.T, n, which int, calls []byte) {
		plans := modelPlans()
		r := newRig(t, 256+int(uint(n)%4096), plans[uint(which)%uint(len(plans))])
		s := &source{calls}
		for len(s.left) > 0 {
			r.call(s)
		}
	})
}
