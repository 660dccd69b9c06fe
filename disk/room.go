package disk

import (
	"errors"
	"slices"

	"granary/api"
	"granary/frame"
	"granary/sweep"
)

// Why room never lacks. While no more than spare blocks are bad:
//
// Each lba has one live page at most, and lbas have no more of them than there are in all blocks but spare and besideLbas. At most one block is neither blank nor full: the one that is written into. So, if fewer pages are blank than those of blankBlocks and of one block more for each that may still go bad, then there are so many full blocks that lbas do not fill them: one of them has a page that is not live, and to empty it wins a page.
//
// To empty it takes fewer pages than a block has. An erase that fails has taken them for nothing, but then one block fewer may still go bad, and a whole block's pages need not be blank any more. A page that is torn is won back as well; but power may be lost again and again ahead of that, and each time one page is torn: pages of blankBlocks less one are there for that, more than D5 asks for.
const (
	besideLbas  = 4
	blankBlocks = besideLbas - 1
)

// block is what the chip tells of one of its blocks. They are numbered die by die.
type block struct {
	bad        bool
	next, wear int
}

// blocks tells what the chip tells of all of them.
func (d *Disk) blocks() ([]block, error) {
	blocks := make([]block, d.geometry.Dies*d.geometry.Blocks)
	for i := range blocks {
		b, err := d.blockAt(i)
		if err != nil {
			return nil, err
		}
		blocks[i] = b
	}
	return blocks, nil
}

func (d *Disk) blockAt(number int) (block, error) {
	die, at := d.split(number)
	bad, err := d.chip.Bad(die, at)
	if err != nil {
		return block{}, err
	}
	next, err := d.chip.Next(die, at)
	if err != nil {
		return block{}, err
	}
	wear, err := d.chip.Wear(die, at)
	if err != nil {
		return block{}, err
	}
	return block{bad, next, wear}, nil
}

// split tells the die of a block, and which block of it that is.
func (d *Disk) split(number int) (die, at int) {
	return number / d.geometry.Blocks, number % d.geometry.Blocks
}

func (d *Disk) countBad() (int, error) {
	blocks, err := d.blocks()
	if err != nil {
		return 0, err
	}
	bad := 0
	for _, b := range blocks {
		if b.bad {
			bad++
		}
	}
	return bad, nil
}

// pages tells all pages of the chip. The place of a page is its number among them.
func (d *Disk) pages() ([][]byte, error) {
	pages := make([][]byte, d.geometry.Dies*d.geometry.Blocks*d.geometry.Pages)
	for place := range pages {
		page, err := d.pageAt(place)
		if err != nil {
			return nil, err
		}
		pages[place] = page
	}
	return pages, nil
}

func (d *Disk) pageAt(place int) ([]byte, error) {
	die, at := d.split(place / d.geometry.Pages)
	return d.chip.Read(die, at, place%d.geometry.Pages)
}

// frameAt tells the frame at a place where one is.
func (d *Disk) frameAt(place int) (api.Frame, error) {
	page, err := d.pageAt(place)
	if err != nil {
		return api.Frame{}, err
	}
	f, _ := frame.Open(page)
	return f, nil
}

// put programs the newest frame of an lba. Where its frames stood till then they are not live any more.
func (d *Disk) put(kind, lba int, data []byte) error {
	place, err := d.program(api.Frame{Kind: kind, Lba: lba, Seq: d.seq, Data: data})
	if err != nil {
		return err
	}
	d.seq++
	return d.book.Set(lba, place)
}

// program writes a frame into a blank page, and tells its place.
func (d *Disk) program(f api.Frame) (int, error) {
	page, err := frame.Pack(d.geometry.Bytes, f)
	if err != nil {
		return 0, err
	}
	blocks, err := d.blocks()
	if err != nil {
		return 0, err
	}
	number, err := nextBlock(blocks, d.geometry.Pages)
	if err != nil {
		return 0, err
	}
	die, at := d.split(number)
	next := blocks[number].next
	if err := d.chip.Program(die, at, next, page, d.programFault()); err != nil {
		return 0, err
	}
	return number*d.geometry.Pages + next, nil
}

// nextBlock tells which block is written into: the one that is neither blank nor full, so that there is never a second one; else the least worn of the blank ones.
func nextBlock(blocks []block, pages int) (int, error) {
	least := -1
	for i, b := range blocks {
		if b.bad || b.next == pages {
			continue
		}
		if b.next > 0 {
			return i, nil
		}
		if least < 0 || b.wear < blocks[least].wear {
			least = i
		}
	}
	if least < 0 {
		return 0, api.ErrFull
	}
	return least, nil
}

// makeRoom empties blocks till enough pages are blank for one more to be written.
func (d *Disk) makeRoom() error {
	for {
		blocks, err := d.blocks()
		if err != nil {
			return err
		}
		if !d.isShort(blocks) {
			return nil
		}
		if err := d.emptyOne(blocks); err != nil {
			return err
		}
	}
}

// isShort tells whether fewer pages are blank than have to be ahead of a write.
func (d *Disk) isShort(blocks []block) bool {
	return countBlank(blocks, d.geometry.Pages) < (d.spare-d.bad+blankBlocks)*d.geometry.Pages
}

func countBlank(blocks []block, pages int) int {
	blank := 0
	for _, b := range blocks {
		if !b.bad {
			blank += pages - b.next
		}
	}
	return blank
}

// emptyOne empties the full block that has the fewest live pages: these are written elsewhere, then it is erased. If power is lost on the way, what was moved so far is not to be moved again.
func (d *Disk) emptyOne(blocks []block) error {
	pages := d.geometry.Pages
	told := make([]sweep.Block, len(blocks))
	ranks := wearRanks(blocks)
	for i, b := range blocks {
		live, err := d.book.Live(i*pages, (i+1)*pages)
		if err != nil {
			return err
		}
		told[i] = sweep.Block{Used: !b.bad && b.next == pages, Live: live, Wear: ranks[i]}
	}
	number, err := sweep.Choose(told, pages)
	if err != nil {
		return err
	}
	for place := number * pages; place < (number+1)*pages; place++ {
		if err := d.moveFrom(place); err != nil {
			return err
		}
	}
	return d.erase(number)
}

// wearRanks tells of each block how many are worn less. A chip has no bound on how often a block is worn, nor has a disk then; sweep has one. Which of two is worn less is all that it asks here, and that the ranks tell as well.
func wearRanks(blocks []block) []int {
	wears := make([]int, len(blocks))
	for i, b := range blocks {
		wears[i] = b.wear
	}
	slices.Sort(wears)
	ranks := make([]int, len(blocks))
	for i, b := range blocks {
		ranks[i], _ = slices.BinarySearch(wears, b.wear)
	}
	return ranks
}

// moveFrom writes what is live at a place elsewhere.
func (d *Disk) moveFrom(place int) error {
	lba, err := d.book.Of(place)
	if errors.Is(err, api.ErrNone) {
		return nil
	}
	if err != nil {
		return err
	}
	f, err := d.frameAt(place)
	if err != nil {
		return err
	}
	return d.put(f.Kind, lba, f.Data)
}

// erase makes a block blank, or bad, if that fails: which is no error as long as no more than spare are.
func (d *Disk) erase(number int) error {
	die, at := d.split(number)
	err := d.chip.Erase(die, at, d.eraseFault())
	if !errors.Is(err, api.ErrFail) {
		return err
	}
	d.bad++
	if d.isLatched() {
		return api.ErrLatched
	}
	return nil
}
