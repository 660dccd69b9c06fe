package driver_test

import (
	"bytes"
	"math/rand"
	"testing"

	"granary/api"
	"granary/driver"
)

// act is a command as a host sees it, and when: -1 is not yet.
type act struct {
	queue, tag              int
	op, lba, count          int
	data                    []byte
	submitted, done, reaped int
	result                  driver.Result
}

// event is what the disk saw: a command, or, if there is none, a Mount.
type event struct{ *act }

// watch is a host that writes down what it sees. It asks nothing of the driver's inside, and knows of no turns.
type watch struct {
	*host
	now     int
	acts    []*act
	history []event
}

func (w *watch) tick() int {
	w.now++
	return w.now
}

// open gives the command with that tag that is not reaped yet.
func (w *watch) open(tag int) *act {
	w.t.Helper()
	var found *act
	for _, a := range w.acts {
		if a.tag == tag && a.reaped < 0 {
			if found != nil {
				w.t.Fatalf("two commands have the tag %d", tag)
			}
			found = a
		}
	}
	if found == nil {
		w.t.Fatalf("no command has the tag %d", tag)
	}
	return found
}

func (w *watch) submit(queue, op, lba, count int, data []byte) {
	tag, err := w.Submit(queue, op, lba, count, data)
	if err == nil {
		w.acts = append(w.acts, &act{queue: queue, tag: tag, op: op, lba: lba, count: count, data: data, submitted: w.tick(), done: -1, reaped: -1})
	}
}

func (w *watch) step() {
	w.t.Helper()
	was := len(w.Log())
	did := w.Step()
	log := w.Log()
	if !did {
		for _, a := range w.acts {
			if a.done < 0 {
				w.t.Fatalf("nothing is carried out, and %+v waits", *a)
			}
		}
		if len(log) != was {
			w.t.Fatalf("nothing is carried out, and the Log has %d more", len(log)-was)
		}
		return
	}
	if len(log) != was+1 {
		w.t.Fatalf("one is carried out, and the Log has %d more", len(log)-was)
	}
	a := w.open(log[was])
	if a.done >= 0 {
		w.t.Fatalf("carried out twice: %+v", *a)
	}
	for _, other := range w.acts {
		if other.queue == a.queue && other.done < 0 && other.submitted < a.submitted {
			w.t.Fatalf("%+v is carried out, and %+v waits", *a, *other)
		}
	}
	a.done = w.tick()
	w.history = append(w.history, event{a})
}

func (w *watch) reapAll(queue int) {
	w.t.Helper()
	last := -1
	for _, r := range w.reap(queue) {
		a := w.open(r.Tag)
		if a.queue != queue || a.done < 0 || a.done < last {
			w.t.Fatalf("queue %d: %+v is reaped, behind what was done at %d", queue, *a, last)
		}
		last = a.done
		a.reaped, a.result = w.tick(), r
	}
	for _, a := range w.acts {
		if a.queue == queue && a.done >= 0 && a.reaped < 0 {
			w.t.Fatalf("not reaped: %+v", *a)
		}
	}
}

// finish lets all that waits be carried out and reaped.
func (w *watch) finish() {
	w.t.Helper()
	for {
		was := len(w.history)
		w.step()
		if len(w.history) == was {
			break
		}
	}
	w.reapAll(0)
	w.reapAll(1)
	for _, a := range w.acts {
		if a.submitted >= a.done || a.done >= a.reaped {
			w.t.Fatalf("not carried out between its Submit and its Reap: %+v", *a)
		}
	}
}

// anyCommand submits a command at random.
func (w *watch) anyCommand(random *rand.Rand, p plan) {
	op := allOps()[random.Intn(4)]
	lba := random.Intn(p.lbas)
	count := random.Intn(2 + min(mostMoved/p.size(), p.lbas-lba))
	if op != api.Trim {
		count = min(count, mostMoved/p.size())
	}
	var data []byte
	if op == api.Write {
		data = make([]byte, count*p.size())
		random.Read(data)
	}
	w.submit(random.Intn(2), op, lba, count, data)
}

// block is what is known of a block: what it may read as now, and what it may read as behind a Mount.
type block struct {
	now, kept [][]byte
	mounted   bool // nothing was written or trimmed there behind the last Mount
}

func has(l [][]byte, data []byte) bool {
	for _, one := range l {
		if bytes.Equal(one, data) {
			return true
		}
	}
	return false
}

func (b *block) write(data []byte, status int) {
	b.mounted = false
	b.kept = append(b.kept, data)
	if status == api.Done {
		b.now = [][]byte{data}
	} else {
		b.now = append(b.now, data)
	}
}

func (b *block) read(data []byte) bool {
	if !has(b.now, data) {
		return false
	}
	b.now = [][]byte{data}
	if b.mounted {
		b.kept = [][]byte{data}
	}
	return true
}

// replay does all on a list of blocks, one by one, in the order that the Log told. Where no power is lost and no block goes bad, each block has one thing that it may read as.
func (w *watch) replay(p plan) {
	w.t.Helper()
	blocks := make([]block, p.lbas)
	zero := make([]byte, p.size())
	for i := range blocks {
		blocks[i] = block{now: [][]byte{zero}, kept: [][]byte{zero}}
	}
	for i, e := range w.history {
		if e.act == nil {
			for j := range blocks {
				blocks[j].now, blocks[j].mounted = bytesOf(blocks[j].kept), true
			}
			continue
		}
		w.replayOne(i, *e.act, blocks, p)
	}
}

// bytesOf gives a list of its own.
func bytesOf(l [][]byte) [][]byte { return append([][]byte(nil), l...) }

func (w *watch) replayOne(i int, a act, blocks []block, p plan) {
	w.t.Helper()
	size := p.size()
	if a.op != api.Read && a.result.Data != nil {
		w.t.Fatalf("%d: %+v has Data", i, a)
	}
	if a.op == api.Flush {
		for j := range blocks {
			if a.result.Status == api.Done {
				blocks[j].kept = bytesOf(blocks[j].now)
			}
		}
		return
	}
	if bad := a.count < 1 || a.lba+a.count > p.lbas; bad != (a.result.Status == api.BadLba) {
		w.t.Fatalf("%d: %+v", i, a)
	}
	if a.result.Status == api.BadLba {
		return
	}
	if a.op == api.Read && len(a.result.Data) != a.count*size && a.result.Status == api.Done {
		w.t.Fatalf("%d: %+v", i, a)
	}
	for j := range a.count {
		b := &blocks[a.lba+j]
		switch a.op {
		case api.Write:
			b.write(a.data[j*size:(j+1)*size], a.result.Status)
		case api.Trim:
			b.write(make([]byte, size), a.result.Status)
		case api.Read:
			if a.result.Status == api.Done && !b.read(a.result.Data[j*size:(j+1)*size]) {
				w.t.Fatalf("%d: %+v: lba %d may read as %v", i, a, a.lba+j, b.now)
			}
		}
	}
}

// All is as if the commands had been done on a list of blocks, one by one, in the order that Log tells, each behind its Submit and ahead of its Reap.
func TestV4AsOnAListOfBlocks(t *testing.T) {
	for seed := range 140 {
		random := rand.New(rand.NewSource(int64(seed)))
		p := modelPlans()[seed%len(modelPlans())]
		w := &watch{host: newHost(t, p, 2+random.Intn(15))}
		for range 400 {
			switch random.Intn(8) {
			case 0, 1, 2, 3:
				w.anyCommand(random, p)
			case 4, 5, 6:
				w.step()
			default:
				w.reapAll(random.Intn(2))
			}
		}
		w.finish()
		for _, a := range w.acts {
			if a.result.Status != api.Done && a.result.Status != api.BadLba {
				t.Fatalf("there is power, and nothing fails: %+v", *a)
			}
		}
		w.replay(p)
	}
}

// So it is, too, where power is lost and blocks go bad: then a block may read as it was kept, or as something says that was done later.
func TestV4AsOnAListOfBlocksWithTroubles(t *testing.T) {
	met := [6]int{}
	for seed := range 280 {
		random := rand.New(rand.NewSource(int64(seed)))
		p := modelPlans()[seed%len(modelPlans())]
		w := &watch{host: newHost(t, p, 2+random.Intn(15))}
		for range 400 {
			switch kind := random.Intn(160); {
			case kind < 80:
				w.anyCommand(random, p)
			case kind < 130:
				w.step()
			case kind < 152:
				w.reapAll(random.Intn(2))
			case kind < 153:
				w.Fails(random.Intn(2))
			case kind < 155:
				w.Cut(random.Intn(20))
			default:
				w.mount()
				w.history = append(w.history, event{})
			}
		}
		w.finish()
		for _, a := range w.acts {
			met[a.result.Status]++
		}
		w.replay(p)
	}
	for _, status := range []int{api.Done, api.BadLba, api.Protected, api.NoPower} {
		if met[status] < 100 {
			t.Errorf("only %d commands were of Status %d", met[status], status)
		}
	}
}
