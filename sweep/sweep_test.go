package sweep_test

import (
	"fmt"
	"math"
	"math/bits"
	"math/rand"
	"slices"
	"testing"

	"granary/api"
	"granary/plain"
	"granary/sweep"
)

// The greatest numbers of pages and of wear, as the chapter has them.
const (
	mostPages = 4096
	mostWear  = 1000000000
)

// used and idle are blocks as they are handed in.
func used(live, wear int) sweep.Block { return sweep.Block{Used: true, Live: live, Wear: wear} }
func idle(live, wear int) sweep.Block { return sweep.Block{Live: live, Wear: wear} }

// guarded gives blocks that have others behind them in their memory, which could be chosen, and do not count.
func guarded(blocks []sweep.Block) []sweep.Block {
	long := append(slices.Clone(blocks), used(0, 0), used(-1, -1))
	return long[:len(blocks)]
}

// kept does a call, and asks that the blocks, and what lies behind them, stay as they are.
func kept(t *testing.T, name string, blocks []sweep.Block, call func()) {
	t.Helper()
	all := blocks[:cap(blocks)]
	was := slices.Clone(all)
	call()
	if !slices.Equal(all, was) {
		t.Errorf("%s: the blocks were %v, and are %v", name, was, all)
	}
}

func wantChoose(t *testing.T, blocks []sweep.Block, pages, want int, e api.Errno) {
	t.Helper()
	name := fmt.Sprintf("Choose(%v, %d)", blocks, pages)
	given := guarded(blocks)
	kept(t, name, given, func() {
		if got, err := sweep.Choose(given, pages); got != want || plain.Told(err) != e {
			t.Errorf("%s: got %d, %v, want %d, %v", name, got, plain.Told(err), want, e)
		}
	})
}

func wantLevel(t *testing.T, blocks []sweep.Block, gap, want int, e api.Errno) {
	t.Helper()
	name := fmt.Sprintf("Level(%v, %d)", blocks, gap)
	given := guarded(blocks)
	kept(t, name, given, func() {
		if got, err := sweep.Level(given, gap); got != want || plain.Told(err) != e {
			t.Errorf("%s: got %d, %v, want %d, %v", name, got, plain.Told(err), want, e)
		}
	})
}

func wantPlan(t *testing.T, blocks []sweep.Block, pages, need int, want []int, e api.Errno) {
	t.Helper()
	name := fmt.Sprintf("Plan(%v, %d, %d)", blocks, pages, need)
	given := guarded(blocks)
	kept(t, name, given, func() {
		got, err := sweep.Plan(given, pages, need)
		if !slices.Equal(got, want) || plain.Told(err) != e {
			t.Errorf("%s: got %v, %v, want %v, %v", name, got, plain.Told(err), want, e)
		}
		if err != nil && got != nil {
			t.Errorf("%s: a list beside an error", name)
		}
	})
}

// wantAll asks the same error of the three calls.
func wantAll(t *testing.T, blocks []sweep.Block, pages, gap, need int, e api.Errno) {
	t.Helper()
	wantChoose(t, blocks, pages, 0, e)
	wantLevel(t, blocks, gap, 0, e)
	wantPlan(t, blocks, pages, need, nil, e)
}

// wrong is what the chapter says of the numbers, by its words. Amount is a gap or a need, or 0.
func wrong(blocks []sweep.Block, pages, amount int) api.Errno {
	if len(blocks) > 64 {
		return api.ErrFull
	}
	fine := pages >= 1 && pages <= mostPages && amount >= 0
	for _, b := range blocks {
		fine = fine && b.Live >= 0 && b.Live <= pages && b.Wear >= 0 && b.Wear <= mostWear
	}
	if !fine {
		return api.ErrRange
	}
	return api.OK
}

// choose is what the chapter says of Choose: no other that can be chosen comes ahead. Nothing is sorted.
func choose(blocks []sweep.Block, pages int) (int, api.Errno) {
	if e := wrong(blocks, pages, 0); e != api.OK {
		return 0, e
	}
	best := -1
	for i, b := range blocks {
		if !b.Used || b.Live == pages {
			continue
		}
		if best < 0 || b.Live < blocks[best].Live || b.Live == blocks[best].Live && b.Wear < blocks[best].Wear {
			best = i
		}
	}
	if best < 0 {
		return 0, api.ErrNone
	}
	return best, api.OK
}

func level(blocks []sweep.Block, gap int) (int, api.Errno) {
	if e := wrong(blocks, mostPages, gap); e != api.OK {
		return 0, e
	}
	var wears []int
	greatest := 0
	for _, b := range blocks {
		greatest = max(greatest, b.Wear)
		if b.Used {
			wears = append(wears, b.Wear)
		}
	}
	if len(wears) == 0 || slices.Min(wears) >= greatest-gap {
		return 0, api.ErrNone
	}
	return slices.IndexFunc(blocks, func(b sweep.Block) bool { return b.Used && b.Wear == slices.Min(wears) }), api.OK
}

// plan empties blocks of a copy, one behind the other, as the chapter says.
func plan(blocks []sweep.Block, pages, need int) ([]int, api.Errno) {
	if e := wrong(blocks, pages, need); e != api.OK {
		return nil, e
	}
	left := slices.Clone(blocks)
	var out []int
	for won := 0; won < need; {
		i, e := choose(left, pages)
		if e != api.OK {
			return nil, e
		}
		out = append(out, i)
		won += pages - left[i].Live
		left[i].Used = false
	}
	return out, api.OK
}

// wantModel asks that the three calls answer as the chapter says.
func wantModel(t *testing.T, blocks []sweep.Block, pages, gap, need int) {
	t.Helper()
	k, e := choose(blocks, pages)
	wantChoose(t, blocks, pages, k, e)
	k, e = level(blocks, gap)
	wantLevel(t, blocks, gap, k, e)
	list, e := plan(blocks, pages, need)
	wantPlan(t, blocks, pages, need, list, e)
}

// most is what all blocks that can be chosen win together.
func most(blocks []sweep.Block, pages int) int {
	won := 0
	for _, b := range blocks {
		if b.Used {
			won += pages - b.Live
		}
	}
	return won
}

// W1

func TestBlocksAtMost(t *testing.T) {
	for _, n := range []int{0, 1, 2, 63, 64} {
		blocks := slices.Repeat([]sweep.Block{used(1, 3)}, n)
		if n > 0 {
			blocks[n-1] = used(0, 1)
		}
		wantModel(t, blocks, 2, 0, n+1)
		if n > 1 {
			wantChoose(t, blocks, 2, n-1, api.OK)
			wantLevel(t, blocks, 1, n-1, api.OK)
			wantPlan(t, blocks, 2, 3, []int{n - 1, 0}, api.OK)
		}
	}
	for _, n := range []int{65, 66, 128, 1000} {
		wantAll(t, slices.Repeat([]sweep.Block{used(1, 3)}, n), 2, 0, 0, api.ErrFull)
		wantAll(t, make([]sweep.Block, n), 2, 0, 0, api.ErrFull)
	}
	if api.MaxBlocks != 64 {
		t.Errorf("MaxBlocks is %d", api.MaxBlocks)
	}
}

func TestNoBlocks(t *testing.T) {
	for _, blocks := range [][]sweep.Block{nil, {}} {
		wantAll(t, blocks, 1, 0, 1, api.ErrNone)
		wantAll(t, blocks, mostPages, math.MaxInt, math.MaxInt, api.ErrNone)
		wantPlan(t, blocks, 1, 0, nil, api.OK)
	}
}

func TestPages(t *testing.T) {
	for _, pages := range []int{1, 2, 3, 4095, 4096} {
		blocks := []sweep.Block{used(pages, 0), used(pages-1, 7), idle(0, 0)}
		wantChoose(t, blocks, pages, 1, api.OK)
		wantPlan(t, blocks, pages, 1, []int{1}, api.OK)
		wantPlan(t, blocks, pages, 2, nil, api.ErrNone)
	}
	for _, pages := range []int{0, -1, -4096, math.MinInt, 4097, 4098, math.MaxInt32, 1 << 32, 1<<32 + 1, math.MaxInt} {
		for _, blocks := range [][]sweep.Block{nil, {used(0, 0)}, {used(1, 1), idle(0, 0)}} {
			wantChoose(t, blocks, pages, 0, api.ErrRange)
			for _, need := range []int{0, 1, math.MaxInt} {
				wantPlan(t, blocks, pages, need, nil, api.ErrRange)
			}
		}
	}
}

// wrongAt gives four blocks that are fine, but for the one at a place.
func wrongAt(place int, b sweep.Block) []sweep.Block {
	blocks := []sweep.Block{used(0, 9), idle(1, 8), used(1, 7), used(1, 9)}
	blocks[place] = b
	return blocks
}

func TestLive(t *testing.T) {
	for _, pages := range []int{1, 2, 4, 4095, 4096} {
		for place := range 4 {
			for _, isUsed := range []bool{true, false} {
				for _, live := range []int{0, 1, pages - 1, pages} {
					wantModel(t, wrongAt(place, sweep.Block{Used: isUsed, Live: live}), pages, 0, 2)
				}
				for _, live := range []int{-1, math.MinInt, pages + 1, 2 * pages, 1 << 32, math.MaxInt} {
					blocks := wrongAt(place, sweep.Block{Used: isUsed, Live: live})
					wantChoose(t, blocks, pages, 0, api.ErrRange)
					wantPlan(t, blocks, pages, 0, nil, api.ErrRange)
					wantPlan(t, blocks, pages, 1, nil, api.ErrRange)
				}
			}
		}
	}
}

func TestLiveOfLevel(t *testing.T) {
	for place := range 4 {
		for _, isUsed := range []bool{true, false} {
			for _, live := range []int{0, 1, 4095, 4096} {
				blocks := wrongAt(place, sweep.Block{Used: isUsed, Live: live, Wear: 5})
				want := place
				if !isUsed {
					blocks = append(blocks, used(0, 3))
					want = 4
				}
				wantLevel(t, blocks, 1, want, api.OK)
			}
			for _, live := range []int{-1, math.MinInt, 4097, 1 << 32, math.MaxInt} {
				wantLevel(t, wrongAt(place, sweep.Block{Used: isUsed, Live: live, Wear: 5}), 1, 0, api.ErrRange)
			}
		}
	}
}

func TestWear(t *testing.T) {
	for place := range 4 {
		for _, isUsed := range []bool{true, false} {
			for _, wear := range []int{0, 1, 999999999, 1000000000} {
				wantModel(t, wrongAt(place, sweep.Block{Used: isUsed, Wear: wear}), 4, 1, 9)
			}
			for _, wear := range []int{-1, math.MinInt, 1000000001, 1 << 32, math.MaxInt} {
				wantAll(t, wrongAt(place, sweep.Block{Used: isUsed, Wear: wear}), 4, 1, 0, api.ErrRange)
				wantAll(t, wrongAt(place, sweep.Block{Used: isUsed, Wear: wear}), 4, 1, 1, api.ErrRange)
			}
		}
	}
}

func TestFullComesFirst(t *testing.T) {
	many := func(b sweep.Block) []sweep.Block { return slices.Repeat([]sweep.Block{b}, 65) }
	for _, b := range []sweep.Block{used(0, 0), idle(0, 0), used(-1, 0), used(mostPages+1, 0), used(0, -1), used(0, mostWear+1), used(2, 0)} {
		for _, pages := range []int{2, 0, -1, 4097} {
			for _, amount := range []int{0, -1, math.MinInt, math.MaxInt} {
				wantAll(t, many(b), pages, amount, amount, api.ErrFull)
			}
		}
	}
}

func TestRangeComesAheadOfNone(t *testing.T) {
	for _, blocks := range [][]sweep.Block{nil, {idle(0, 0)}, {used(2, 0)}, {used(2, 0), idle(0, 0)}} {
		wantAll(t, blocks, 2, 0, 9, api.ErrNone)
		wantAll(t, blocks, 0, -1, 9, api.ErrRange)
		wantPlan(t, blocks, 2, -1, nil, api.ErrRange)
		for _, b := range []sweep.Block{idle(-1, 0), idle(4097, 0), idle(0, -1), idle(0, mostWear+1)} {
			wantAll(t, append(slices.Clone(blocks), b), 2, 0, 9, api.ErrRange)
			wantAll(t, append([]sweep.Block{b}, blocks...), 2, 0, 9, api.ErrRange)
		}
	}
}

// W2

func TestChooseTheFewestLive(t *testing.T) {
	wantChoose(t, []sweep.Block{used(3, 0)}, 4, 0, api.OK)
	wantChoose(t, []sweep.Block{used(3, 0), used(2, 9), used(3, 0)}, 4, 1, api.OK)
	wantChoose(t, []sweep.Block{used(0, mostWear), used(1, 0)}, 4, 0, api.OK)
	wantChoose(t, []sweep.Block{used(1, 0), used(0, mostWear)}, 4, 1, api.OK)
	wantChoose(t, []sweep.Block{used(9, 1), used(10, 1), used(100, 1)}, 200, 0, api.OK)
	wantChoose(t, []sweep.Block{used(4096, 0), used(4095, 0)}, 4096, 1, api.OK)
}

func TestChooseOfSeveralTheLeastWorn(t *testing.T) {
	wantChoose(t, []sweep.Block{used(1, 5), used(1, 4), used(1, 6)}, 4, 1, api.OK)
	wantChoose(t, []sweep.Block{used(1, 5), used(1, 6), used(2, 0), used(1, 0)}, 4, 3, api.OK)
	wantChoose(t, []sweep.Block{used(1, mostWear), used(1, mostWear-1)}, 4, 1, api.OK)
	wantChoose(t, []sweep.Block{used(0, 1), idle(0, 0)}, 4, 0, api.OK)
}

func TestChooseOfTheseTheFirst(t *testing.T) {
	for n := 1; n <= 64; n++ {
		for from := 0; from < n; from += 5 {
			blocks := slices.Repeat([]sweep.Block{used(1, 4)}, n)
			for i := range from {
				blocks[i] = []sweep.Block{used(1, 5), used(2, 0), idle(0, 0)}[i%3]
			}
			wantChoose(t, blocks, 4, from, api.OK)
		}
	}
}

func TestChooseNotOfThoseThatAreNotUsed(t *testing.T) {
	wantChoose(t, []sweep.Block{idle(0, 0), used(3, 9), idle(0, 0)}, 4, 1, api.OK)
	wantChoose(t, []sweep.Block{idle(0, 0)}, 4, 0, api.ErrNone)
	wantChoose(t, make([]sweep.Block, 64), 4, 0, api.ErrNone)
}

func TestChooseNotOfThoseThatAreAllLive(t *testing.T) {
	wantChoose(t, []sweep.Block{used(4, 0), used(3, 9)}, 4, 1, api.OK)
	wantChoose(t, []sweep.Block{used(4, 0), used(4, 9)}, 4, 0, api.ErrNone)
	wantChoose(t, []sweep.Block{used(1, 0)}, 1, 0, api.ErrNone)
	wantChoose(t, []sweep.Block{used(4096, 0), idle(0, 0)}, 4096, 0, api.ErrNone)
}

func TestLevelTheLeastWorn(t *testing.T) {
	wantLevel(t, []sweep.Block{used(0, 9), used(0, 2), used(0, 5)}, 3, 1, api.OK)
	wantLevel(t, []sweep.Block{used(0, 2), used(4096, 1)}, 0, 1, api.OK)
	wantLevel(t, []sweep.Block{used(0, 9), used(7, 2), used(0, 2), used(0, 2)}, 3, 1, api.OK)
	wantLevel(t, []sweep.Block{used(0, 9), idle(0, 0), used(0, 2), idle(0, 1)}, 3, 2, api.OK)
	wantLevel(t, []sweep.Block{used(0, 0), used(0, mostWear)}, mostWear-1, 0, api.OK)
	wantLevel(t, []sweep.Block{used(0, mostWear), used(0, 0)}, mostWear-1, 1, api.OK)
}

func TestLevelHoldsAgainstAllBlocks(t *testing.T) {
	wantLevel(t, []sweep.Block{idle(0, 9), used(0, 5)}, 3, 1, api.OK)
	wantLevel(t, []sweep.Block{used(0, 5), idle(4096, 9), used(0, 6)}, 3, 0, api.OK)
	wantLevel(t, []sweep.Block{used(0, 5), idle(0, 0), used(0, 6)}, 1, 0, api.ErrNone)
}

func TestLevelGap(t *testing.T) {
	for _, gap := range []int{0, 1, 2, 100, mostWear - 2, mostWear - 1} {
		for _, isUsed := range []bool{true, false} {
			for _, low := range []int{0, mostWear - 1 - gap} {
				high := sweep.Block{Used: isUsed, Wear: low + gap}
				wantLevel(t, []sweep.Block{high, used(0, low)}, gap, 0, api.ErrNone)
				high.Wear++
				wantLevel(t, []sweep.Block{high, used(0, low)}, gap, 1, api.OK)
			}
		}
	}
	for _, gap := range []int{mostWear, mostWear + 1, 1 << 32, math.MaxInt} {
		wantLevel(t, []sweep.Block{used(0, 0), used(0, mostWear)}, gap, 0, api.ErrNone)
	}
	for _, gap := range []int{-1, -2, math.MinInt} {
		for _, blocks := range [][]sweep.Block{nil, {used(0, 0)}, {used(0, 0), used(0, 9)}, {idle(0, 0)}, {used(-1, 0)}} {
			wantLevel(t, blocks, gap, 0, api.ErrRange)
		}
	}
}

func TestLevelOfNone(t *testing.T) {
	wantLevel(t, []sweep.Block{used(0, 7)}, 0, 0, api.ErrNone)
	wantLevel(t, []sweep.Block{used(0, 7), used(1, 7), idle(0, 7)}, 0, 0, api.ErrNone)
	wantLevel(t, []sweep.Block{idle(0, 0), idle(0, mostWear)}, 0, 0, api.ErrNone)
}

func TestChaptersTable(t *testing.T) {
	blocks := []sweep.Block{used(2, 0), used(1, 5), used(1, 4)}
	wantChoose(t, blocks, 4, 2, api.OK)
	wantPlan(t, blocks, 4, 5, []int{2, 1}, api.OK)
	wantLevel(t, blocks, 3, 0, api.OK)
}

// W3

func TestPlanTillItIsEnough(t *testing.T) {
	blocks := []sweep.Block{used(3, 0), used(0, 5), idle(0, 0), used(4, 0), used(0, 4), used(1, 9)}
	for _, x := range []struct {
		need int
		want []int
	}{
		{0, nil}, {1, []int{4}}, {4, []int{4}}, {5, []int{4, 1}}, {8, []int{4, 1}},
		{9, []int{4, 1, 5}}, {11, []int{4, 1, 5}}, {12, []int{4, 1, 5, 0}},
	} {
		wantPlan(t, blocks, 4, x.need, x.want, api.OK)
	}
	for _, need := range []int{13, 14, 1 << 32, math.MaxInt} {
		wantPlan(t, blocks, 4, need, nil, api.ErrNone)
	}
}

func TestPlanOfNothing(t *testing.T) {
	for _, blocks := range [][]sweep.Block{nil, {idle(0, 0)}, {used(4, 0)}, {used(0, 0)}, make([]sweep.Block, 64)} {
		wantPlan(t, blocks, 4, 0, nil, api.OK)
		for _, need := range []int{-1, -2, math.MinInt} {
			wantPlan(t, blocks, 4, need, nil, api.ErrRange)
		}
	}
}

func TestPlanOfAllOfThem(t *testing.T) {
	for _, pages := range []int{1, 2, 7, 4096} {
		for _, n := range []int{1, 2, 63, 64} {
			var blocks []sweep.Block
			var want []int
			for i := range n {
				blocks = append(blocks, used(0, n-i))
				want = append(want, n-1-i)
			}
			wantPlan(t, blocks, pages, n*pages, want, api.OK)
			wantPlan(t, blocks, pages, n*pages-pages, want[:n-1], api.OK)
			wantPlan(t, blocks, pages, n*pages-pages+1, want, api.OK)
			wantPlan(t, blocks, pages, n*pages+1, nil, api.ErrNone)
		}
	}
}

func TestPlanLeavesOutWhatWinsNothing(t *testing.T) {
	blocks := []sweep.Block{used(4, 0), idle(0, 0), used(3, 1), used(4, 0), used(3, 1)}
	wantPlan(t, blocks, 4, 2, []int{2, 4}, api.OK)
	wantPlan(t, blocks, 4, 3, nil, api.ErrNone)
}

// W4

func TestNoUsedBlockHasFewerLive(t *testing.T) {
	r := rand.New(rand.NewSource(9))
	for range 2000 {
		pages := 1 + r.Intn(6)
		blocks := someBlocks(r, r.Intn(65), pages, 4)
		k, err := sweep.Choose(blocks, pages)
		for i, b := range blocks {
			if err == nil && b.Used && b.Live < blocks[k].Live || err != nil && b.Used && b.Live < pages {
				t.Fatalf("Choose(%v, %d): %d, %v, but there is %d", blocks, pages, k, err, i)
			}
		}
	}
}

func TestNoPlanWithFewerBlocks(t *testing.T) {
	r := rand.New(rand.NewSource(10))
	for range 300 {
		pages := 1 + r.Intn(5)
		blocks := someBlocks(r, r.Intn(9), pages, 3)
		for need := range most(blocks, pages) + 3 {
			fewest := fewestOf(blocks, pages, need)
			got, err := sweep.Plan(blocks, pages, need)
			if fewest < 0 && err == nil || fewest >= 0 && (err != nil || len(got) != fewest) {
				t.Fatalf("Plan(%v, %d, %d): %v, %v, but %d are enough", blocks, pages, need, got, err, fewest)
			}
		}
	}
}

// fewestOf tells how many used blocks are enough, by a look at each choice of them; -1 if all are not.
func fewestOf(blocks []sweep.Block, pages, need int) int {
	fewest := -1
	for choice := range uint(1) << len(blocks) {
		won := 0
		fine := true
		for i, b := range blocks {
			if choice>>i&1 == 1 {
				fine = fine && b.Used
				won += pages - b.Live
			}
		}
		count := bits.OnesCount(choice)
		if fine && won >= need && (fewest < 0 || count < fewest) {
			fewest = count
		}
	}
	return fewest
}

// What is said of the whole, and not of this chapter alone.

func TestPlansAreTheCallers(t *testing.T) {
	blocks := []sweep.Block{used(2, 0), used(1, 5), used(1, 4)}
	one, err := sweep.Plan(blocks, 4, 8)
	other, otherErr := sweep.Plan(blocks, 4, 8)
	if err != nil || otherErr != nil {
		t.Fatal(err, otherErr)
	}
	for i := range one[:cap(one)] {
		one[:cap(one)][i] = 99
	}
	if !slices.Equal(other, []int{2, 1, 0}) {
		t.Errorf("the other plan is %v", other)
	}
	wantPlan(t, blocks, 4, 8, []int{2, 1, 0}, api.OK)
}

func TestNothingIsKept(t *testing.T) {
	blocks := []sweep.Block{used(2, 0), used(1, 5), used(1, 4)}
	wantPlan(t, blocks, 4, 8, []int{2, 1, 0}, api.OK)
	wantAll(t, blocks, 0, -1, -1, api.ErrRange)
	blocks[0].Live = 0
	wantChoose(t, blocks, 4, 0, api.OK)
	blocks[0].Used = false
	wantChoose(t, blocks, 4, 2, api.OK)
	wantPlan(t, blocks, 4, 6, []int{2, 1}, api.OK)
}

// TestAllSmallBlocks asks all lists of up to three blocks of few numbers, and of one beyond them on either side.
func TestAllSmallBlocks(t *testing.T) {
	const pages = 2
	var kinds []sweep.Block
	for live := -1; live <= pages+1; live++ {
		for wear := -1; wear <= 2; wear++ {
			kinds = append(kinds, used(live, wear), idle(live, wear))
		}
	}
	lists := [][]sweep.Block{nil}
	for range 3 {
		var longer [][]sweep.Block
		for _, list := range lists {
			for _, b := range kinds {
				longer = append(longer, append(slices.Clone(list), b))
			}
		}
		for i, list := range longer {
			wantModel(t, list, pages, i%4-1, i/4%8-1)
		}
		if t.Failed() {
			return
		}
		lists = longer
	}
}

// someBlocks gives blocks whose numbers are often the same.
func someBlocks(r *rand.Rand, n, pages, wears int) []sweep.Block {
	var blocks []sweep.Block
	for range n {
		blocks = append(blocks, sweep.Block{Used: r.Intn(4) > 0, Live: r.Intn(pages + 1), Wear: r.Intn(wears)})
	}
	return blocks
}

func TestManyBlocks(t *testing.T) {
	for seed := range 3000 {
		r := rand.New(rand.NewSource(int64(seed)))
		pages := []int{1, 2, 5, 16, 4096}[r.Intn(5)]
		blocks := someBlocks(r, r.Intn(66), pages, []int{1, 3, 20, mostWear + 1}[r.Intn(4)])
		all := most(blocks, pages)
		for _, need := range []int{0, 1, r.Intn(all + 2), all - 1, all, all + 1} {
			wantModel(t, blocks, pages, r.Intn(22)-1, need)
		}
		if t.Failed() {
			t.Fatalf("seed %d", seed)
		}
	}
}

// FuzzSweep makes blocks of three bytes each, and holds the calls against what the chapter says.
func FuzzSweep(f *testing.F) {
	f.Add([]byte{1, 2, 0, 1, 1, 5, 1, 1, 4}, 4, 3, 5)
	f.Add([]byte{}, 1, 0, 0)
	f.Add([]byte{0, 0, 0, 3, 255, 255}, 4096, -1, -1)
	f.Fuzz(func(t *testing.T, text []byte, pages, gap, need int) {
		var blocks []sweep.Block
		for ; len(text) >= 3 && len(blocks) < 70; text = text[3:] {
			blocks = append(blocks, sweep.Block{Used: text[0]%2 == 1, Live: int(int8(text[1])), Wear: int(int8(text[2]))})
		}
		wantModel(t, blocks, pages, gap, need)
	})
}
