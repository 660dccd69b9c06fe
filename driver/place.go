package driver

import (
	"granary/api"
)

const (
	pairs    = 2   // of rings
	maxMoved = 256 // bytes that one command of a driver moves

	commandBytes = 64
	doneBytes    = 16

	// tags is how many commands there can be at once: a ring has room for one fewer than it has slots.
	tags = pairs * (api.MaxRing - 1)

	// Each tag has pages of its own in the memory, so that no command moves bytes where another one's lie: those of its data, one behind the other, and one behind them for the list that names them.
	dataBytes = maxMoved
	tagBytes  = dataBytes + api.PageBytes

	// The slots stand behind all pages: so they begin at a multiple of their bytes.
	commandsFrom = tags * tagBytes
	donesFrom    = commandsFrom + pairs*api.MaxRing*commandBytes
	memoryBytes  = donesFrom + pairs*api.MaxRing*doneBytes
)

// dataOf tells where the data of the command with that tag stands.
func dataOf(tag int) int { return tag * tagBytes }

// listOf tells where the list stands that names its pages.
func listOf(tag int) int { return dataOf(tag) + dataBytes }

// pagesOf gives the pages in which so many bytes of it stand.
func pagesOf(tag, long int) []int {
	var pages []int
	for at := 0; at < long; at += api.PageBytes {
		pages = append(pages, dataOf(tag)+at)
	}
	return pages
}

// commandsOf tells where the slots of a pair's commands begin.
func commandsOf(id int) int { return commandsFrom + id*api.MaxRing*commandBytes }

// donesOf tells where the slots of its completions begin.
func donesOf(id int) int { return donesFrom + id*api.MaxRing*doneBytes }
