package driver

import (
	"granary/api"
	"granary/cmd"
	"granary/ring"
)

// pair is what a host has to know of a pair of rings, whose slots stand in the controller's memory.
type pair struct {
	id, size int
	waiting  *ring.Ring // tags of the commands that were not carried out yet, in the slots in which these stand
	seer     *ring.Seer // sees which completions are new
	head     int        // the slot up to which completions are read
	open     int        // how many commands are not reaped yet
}

func newPair(id, size int) (*pair, error) {
	w, err := ring.New(size)
	if err != nil {
		return nil, err
	}
	s, err := ring.NewSeer(size)
	if err != nil {
		return nil, err
	}
	return &pair{id: id, size: size, waiting: w, seer: s}, nil
}

// isFull tells whether a command more has no room. One that was carried out needs its room till it is reaped, as its completion stands there: so the controller never lacks a slot for one.
func (p *pair) isFull() bool { return p.open == p.size-1 }

// tail tells the slot up to which commands stand.
func (p *pair) tail() int {
	_, tail := p.waiting.Ends()
	return tail
}

// commandAt tells where the next command is to stand.
func (p *pair) commandAt() int { return commandsOf(p.id) + p.tail()*commandBytes }

// push lets the command that stands in the tail's slot wait.
func (p *pair) push(tag int) error {
	if err := p.waiting.Push(tag); err != nil {
		return err
	}
	p.open++
	return nil
}

// take gives the completions that are new, of the bytes of all slots, and counts them as reaped.
func (p *pair) take(b []byte) ([]api.Completion, error) {
	all := make([]api.Completion, p.size)
	phases := make([]bool, p.size)
	for slot := range all {
		done, err := cmd.DecodeDone(b[slot*doneBytes:][:doneBytes])
		if err != nil {
			return nil, err
		}
		all[slot], phases[slot] = done, done.Phase
	}
	slots, err := p.seer.Take(phases)
	if err != nil {
		return nil, err
	}
	var taken []api.Completion
	for _, slot := range slots {
		taken = append(taken, all[slot])
	}
	p.head = (p.head + len(taken)) % p.size
	p.open -= len(taken)
	return taken, nil
}
