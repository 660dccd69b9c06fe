package ctrl

import (
	"granary/api"
	"granary/bell"
	"granary/ring"
)

const (
	commandBytes = 64
	doneBytes    = 16
	minSize      = 2
	minWeight    = 1
	maxWeight    = 16
)

// A bell rings at each completion, till the host wants it calmer.
const (
	firstLimit = 1
	firstDelay = 0
)

// queues by their ids; nil is one that is not there.
type queues [api.MaxQueues]*queue

// there gives those that are there, by their ids.
func (l *queues) there() []*queue {
	var out []*queue
	for _, q := range l {
		if q != nil {
			out = append(out, q)
		}
	}
	return out
}

// queue is a pair of rings, of which the slots stand in the memory, with the bell that tells of its completions.
type queue struct {
	alarm
	id, weight int
	sq, cq     int // where the slots of commands and of completions begin
	size       int // how many there are, of each
	head, tail int // of the commands
	post       *ring.Post
}

func isSize(size int) bool { return minSize <= size && size <= api.MaxRing }

func isWeight(weight int) bool { return minWeight <= weight && weight <= maxWeight }

func newQueue(id, sq, cq, size, weight int) (*queue, error) {
	b, err := bell.New(firstLimit, firstDelay)
	if err != nil {
		return nil, err
	}
	p, err := ring.NewPost(size)
	if err != nil {
		return nil, err
	}
	return &queue{alarm: alarm{Bell: b}, id: id, weight: weight, sq: sq, cq: cq, size: size, post: p}, nil
}

func (q *queue) setTail(tail int) error {
	if tail < 0 || tail >= q.size {
		return api.ErrRange
	}
	q.tail = tail
	return nil
}

// waiting tells how many commands wait. Where a completion has no room none does, as what was done could not be told.
func (q *queue) waiting() int {
	if q.post.Full() {
		return 0
	}
	return (q.tail - q.head + q.size) % q.size
}

// goOn lets the head stand behind the command that was carried out.
func (q *queue) goOn() { q.head = (q.head + 1) % q.size }

// commandAt tells where the next command stands.
func (q *queue) commandAt() int { return q.sq + q.head*commandBytes }

func (q *queue) doneAt(slot int) int { return q.cq + slot*doneBytes }

// alarm is a bell that may be made anew, whose rings go on from those of the bells ahead of it.
type alarm struct {
	*bell.Bell
	before int // how often those rang
}

// Rings tells how often it rang, this bell and those ahead of it.
func (a *alarm) Rings() int { return a.before + a.Bell.Rings() }

// renew puts a new bell in the place of the one that is there, which forgets what waited.
func (a *alarm) renew(limit, delay int) error {
	b, err := bell.New(limit, delay)
	if err != nil {
		return err
	}
	a.before, a.Bell = a.Rings(), b
	return nil
}
