package ctrl

import (
	"errors"

	"granary/api"
	"granary/cmd"
	"granary/list"
	"granary/mem"
)

// store is what a controller asks of its disk.
type store interface {
	Size() int
	Write(lba int, data []byte) error
	Trim(lba int) error
	Read(lba int) ([]byte, error)
	Flush() error
	Mount() error
	Cut(n int)
	Fails(n int)
}

// engine carries commands out, between a memory and a disk of so many lbas.
type engine struct {
	memory *mem.Memory
	disk   store
	lbas   int
}

// lies tells whether n bytes from at on lie in the memory. The end is not worked out as a sum, which could go beyond the greatest int.
func (e *engine) lies(at, n int) bool {
	return at >= 0 && n <= e.memory.Size()-at
}

// idOf tells the Id of a command's bytes, also of those that Decode refuses, as their completion has it too.
func idOf(command []byte) int {
	return int(command[2]) | int(command[3])<<8
}

// carryOut does what a command's bytes say, and tells its Status.
func (e *engine) carryOut(command []byte) int {
	c, err := cmd.Decode(command)
	if err != nil {
		return api.BadField
	}
	switch c.Op {
	case api.Flush:
		return statusOf(e.disk.Flush())
	case api.Write, api.Read, api.Trim:
		return e.onBlocks(c)
	}
	return api.BadOp
}

// statusOf tells the Status of a command of which the disk answers an error, or nil.
func statusOf(err error) int {
	if err == nil {
		return api.Done
	}
	if errors.Is(err, api.ErrPower) {
		return api.NoPower
	}
	return api.Protected
}

func (e *engine) onBlocks(c api.Command) int {
	// The sum stays below the greatest int, as a command's Lba is at most 2^62, and its Count has four bytes.
	if c.Count < 1 || c.Lba+c.Count > e.lbas {
		return api.BadLba
	}
	if c.Op == api.Trim {
		return eachBlock(c, e.disk.Trim)
	}
	// Walk refuses also more bytes than one command moves.
	segments, err := list.Walk(e.memory, c.First, c.Second, c.Count*e.disk.Size())
	if err != nil {
		return api.BadField
	}
	if c.Op == api.Write {
		return e.write(c, segments)
	}
	return e.read(c, segments)
}

// eachBlock does something with a command's blocks, one by one, up to the first at which it fails.
func eachBlock(c api.Command, do func(lba int) error) int {
	for i := range c.Count {
		if err := do(c.Lba + i); err != nil {
			return statusOf(err)
		}
	}
	return api.Done
}

func (e *engine) write(c api.Command, segments []api.Segment) int {
	data, err := list.Gather(e.memory, segments)
	if err != nil {
		return api.BadField
	}
	size := e.disk.Size()
	return eachBlock(c, func(lba int) error {
		block := data[:size]
		data = data[size:]
		return e.disk.Write(lba, block)
	})
}

func (e *engine) read(c api.Command, segments []api.Segment) int {
	var data []byte
	status := eachBlock(c, func(lba int) error {
		block, err := e.disk.Read(lba)
		data = append(data, block...)
		return err
	})
	if status != api.Done {
		return status
	}
	if err := list.Scatter(e.memory, segments, data); err != nil {
		return api.BadField
	}
	return api.Done
}
