package disk

import (
	"granary/api"
)

// troubles is what goes wrong with a disk's chip, as it was handed in; 0 where nothing does.
type troubles struct {
	cut   int // the how-manieth program or erase from now on is torn
	fails int // how many of the next erases fail
}

// Cut lets the n-th program or erase of the chip from now on be torn, and takes back the Cut ahead of it; none is, if n is below 1.
func (t *troubles) Cut(n int) { t.cut = max(n, 0) }

// Fails lets the next n erases of the chip fail, and takes back the Fails ahead of it; none does, if n is below 1.
func (t *troubles) Fails(n int) { t.fails = max(n, 0) }

// isTorn counts one program or erase, and tells whether it is the one that is torn.
func (t *troubles) isTorn() bool {
	if t.cut == 0 {
		return false
	}
	t.cut--
	return t.cut == 0
}

// programFault tells what the next program meets.
func (t *troubles) programFault() int {
	if t.isTorn() {
		return api.Torn
	}
	return api.Fine
}

// eraseFault tells what the next erase meets. One that is torn has not failed, so that it is none of those that Fails asks for.
func (t *troubles) eraseFault() int {
	if t.isTorn() {
		return api.Torn
	}
	if t.fails == 0 {
		return api.Fine
	}
	t.fails--
	return api.Fail
}
