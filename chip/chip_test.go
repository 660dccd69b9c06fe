package chip_test

import (
	"fmt"
	"math"
	"math/rand"
	"reflect"
	"slices"
	"testing"

	"granary/api"
	"granary/chip"
	"granary/plain"
)

func mustNew(t *testing.T, g api.Geometry) *chip.Chip {
	t.Helper()
	c, err := chip.New(g)
	if err != nil || c == nil {
		t.Fatalf("New(%v): %v, %v", g, c, err)
	}
	return c
}

func wantErr(t *testing.T, name string, err error, want api.Errno) {
	t.Helper()
	if got := plain.Told(err); got != want {
		t.Errorf("%s: got %v, want %v", name, got, want)
	}
}

// some gives n bytes that are neither 0 nor 0xFF, other ones for each seed.
func some(n, seed int) []byte {
	data := make([]byte, n)
	for i := range data {
		data[i] = byte(1 + (i*7+seed*31)%253)
	}
	return data
}

func filled(n int, value byte) []byte {
	return slices.Repeat([]byte{value}, n)
}

// half gives what a page is whose program failed or was torn.
func half(data []byte) []byte {
	return append(slices.Clone(data[:len(data)/2]), filled(len(data)-len(data)/2, 0xFF)...)
}

// blockLook is all that can be seen of a block.
type blockLook struct {
	Pages      [][]byte
	Next, Wear int
	Bad        bool
}

func lookAt(t *testing.T, c *chip.Chip, g api.Geometry, die, block int) blockLook {
	t.Helper()
	var look blockLook
	for page := range g.Pages {
		data, err := c.Read(die, block, page)
		if err != nil {
			t.Fatalf("Read(%d, %d, %d): %v", die, block, page, err)
		}
		look.Pages = append(look.Pages, data)
	}
	var err1, err2, err3 error
	look.Next, err1 = c.Next(die, block)
	look.Wear, err2 = c.Wear(die, block)
	look.Bad, err3 = c.Bad(die, block)
	if err1 != nil || err2 != nil || err3 != nil {
		t.Fatalf("Next, Wear, Bad of %d, %d: %v, %v, %v", die, block, err1, err2, err3)
	}
	return look
}

// lookAll tells all that can be seen of a chip that is on.
func lookAll(t *testing.T, c *chip.Chip, g api.Geometry) [][]blockLook {
	t.Helper()
	var all [][]blockLook
	for die := range g.Dies {
		var looks []blockLook
		for block := range g.Blocks {
			looks = append(looks, lookAt(t, c, g, die, block))
		}
		all = append(all, looks)
	}
	return all
}

func blankBlock(g api.Geometry) blockLook {
	var look blockLook
	for range g.Pages {
		look.Pages = append(look.Pages, filled(g.Bytes, 0xFF))
	}
	return look
}

func blankAll(g api.Geometry) [][]blockLook {
	var all [][]blockLook
	for range g.Dies {
		var looks []blockLook
		for range g.Blocks {
			looks = append(looks, blankBlock(g))
		}
		all = append(all, looks)
	}
	return all
}

func wantLook(t *testing.T, name string, c *chip.Chip, g api.Geometry, want [][]blockLook) {
	t.Helper()
	if c.Off() {
		t.Fatalf("%s: the chip is off", name)
	}
	got := lookAll(t, c, g)
	for die := range g.Dies {
		for block := range g.Blocks {
			if !reflect.DeepEqual(got[die][block], want[die][block]) {
				t.Errorf("%s: die %d, block %d: got %v, want %v", name, die, block, got[die][block], want[die][block])
			}
		}
	}
}

var small = api.Geometry{Dies: 2, Blocks: 3, Pages: 3, Bytes: 16}

// H1

func TestNewIsOnAndBlank(t *testing.T) {
	for _, g := range []api.Geometry{
		{Dies: 1, Blocks: 1, Pages: 1, Bytes: 8},
		{Dies: 4, Blocks: 16, Pages: 16, Bytes: 256},
		{Dies: 4, Blocks: 1, Pages: 1, Bytes: 8},
		{Dies: 1, Blocks: 16, Pages: 1, Bytes: 8},
		{Dies: 1, Blocks: 1, Pages: 16, Bytes: 8},
		{Dies: 1, Blocks: 1, Pages: 1, Bytes: 256},
		{Dies: 2, Blocks: 3, Pages: 5, Bytes: 24},
	} {
		wantLook(t, fmt.Sprint(g), mustNew(t, g), g, blankAll(g))
	}
}

func TestNewOfEachNumber(t *testing.T) {
	ok := func(n, least, greatest int) bool { return least <= n && n <= greatest }
	numbers := []int{math.MinInt, -8, -1}
	for n := range 300 {
		numbers = append(numbers, n)
	}
	numbers = append(numbers, 512, 1<<32+8, 1<<62, math.MaxInt-7, math.MaxInt)
	for _, n := range numbers {
		for place, g := range []api.Geometry{
			{Dies: n, Blocks: 2, Pages: 2, Bytes: 8},
			{Dies: 2, Blocks: n, Pages: 2, Bytes: 8},
			{Dies: 2, Blocks: 2, Pages: n, Bytes: 8},
			{Dies: 2, Blocks: 2, Pages: 2, Bytes: n},
		} {
			may := []bool{ok(n, 1, 4), ok(n, 1, 16), ok(n, 1, 16), ok(n, 8, 256) && n%8 == 0}[place]
			c, err := chip.New(g)
			if may {
				if c == nil || err != nil {
					t.Errorf("New(%v): %v, %v", g, c, err)
				}
				continue
			}
			wantErr(t, fmt.Sprintf("New(%v)", g), err, api.ErrRange)
			if c != nil {
				t.Errorf("New(%v) gave a chip beside its error", g)
			}
		}
	}
}

// H2

// worn gives a chip with a block of each kind: in die 0 one that is blank, one with a page, one that is full;
// in die 1 one that is bad and has a page, one whose erase was torn, one that is worn.
func worn(t *testing.T) *chip.Chip {
	t.Helper()
	c := mustNew(t, small)
	steps := []struct {
		err  error
		want api.Errno
	}{
		{c.Program(0, 1, 0, some(16, 1), api.Fine), api.OK},
		{c.Program(0, 2, 0, some(16, 2), api.Fine), api.OK},
		{c.Program(0, 2, 1, some(16, 3), api.Fail), api.ErrFail},
		{c.Program(0, 2, 2, some(16, 4), api.Fine), api.OK},
		{c.Program(1, 0, 0, some(16, 5), api.Fine), api.OK},
		{c.Erase(1, 0, api.Fail), api.ErrFail},
		{c.Erase(1, 2, api.Fine), api.OK},
		{c.Erase(1, 1, api.Torn), api.ErrPower},
	}
	for i, s := range steps {
		wantErr(t, fmt.Sprintf("step %d", i), s.err, s.want)
	}
	c.On()
	return c
}

func wornLook() [][]blockLook {
	all := blankAll(small)
	all[0][1].Pages[0], all[0][1].Next = some(16, 1), 1
	all[0][2].Pages, all[0][2].Next = [][]byte{some(16, 2), half(some(16, 3)), some(16, 4)}, 3
	all[1][0].Pages[0], all[1][0].Next, all[1][0].Bad = some(16, 5), 1, true
	all[1][1].Pages = [][]byte{filled(16, 0), filled(16, 0), filled(16, 0)}
	all[1][1].Next, all[1][1].Wear = 3, 1
	all[1][2].Wear = 1
	return all
}

func TestWorn(t *testing.T) {
	wantLook(t, "worn", worn(t), small, wornLook())
}

func wantNothing(t *testing.T, name string, c *chip.Chip, die, block, page int, want api.Errno) {
	t.Helper()
	data, err := c.Read(die, block, page)
	wantErr(t, name+": Read", err, want)
	next, err1 := c.Next(die, block)
	wear, err2 := c.Wear(die, block)
	bad, err3 := c.Bad(die, block)
	if page == 0 {
		wantErr(t, name+": Next", err1, want)
		wantErr(t, name+": Wear", err2, want)
		wantErr(t, name+": Bad", err3, want)
		if next != 0 || wear != 0 || bad {
			t.Errorf("%s: Next, Wear, Bad told %d, %d, %v beside an error", name, next, wear, bad)
		}
	}
	if data != nil {
		t.Errorf("%s: Read told %v beside an error", name, data)
	}
}

func TestOffComesFirst(t *testing.T) {
	c := worn(t)
	wantErr(t, "torn", c.Erase(1, 2, api.Torn), api.ErrPower)
	for range 2 {
		if !c.Off() {
			t.Fatal("a torn erase left the chip on")
		}
	}
	for _, die := range []int{-1, 0, 1, 2} {
		for _, block := range []int{-1, 0, 1, 2, 3} {
			wantNothing(t, "off", c, die, block, 0, api.ErrPower)
			for _, page := range []int{-1, 0, 1, 3} {
				_, err := c.Read(die, block, page)
				wantErr(t, "off: Read", err, api.ErrPower)
				for _, fault := range []int{-1, api.Fine, api.Fail, api.Torn, 3} {
					wantErr(t, "off: Erase", c.Erase(die, block, fault), api.ErrPower)
					wantErr(t, "off: Program", c.Program(die, block, page, some(16, 9), fault), api.ErrPower)
					wantErr(t, "off: Program of too much", c.Program(die, block, page, some(17, 9), fault), api.ErrPower)
				}
			}
		}
	}
	c.On()
	want := wornLook()
	want[1][2] = want[1][1]
	want[1][2].Wear = 2
	wantLook(t, "on again", c, small, want)
}

func TestOnOfWhatIsOn(t *testing.T) {
	c := worn(t)
	c.On()
	wantLook(t, "On twice", c, small, wornLook())
}

func TestErrRangeAheadOfTheOthers(t *testing.T) {
	c := worn(t)
	type call struct{ die, block, page, fault int }
	for _, x := range []call{
		{-1, 0, 0, 0}, {2, 0, 0, 0}, {math.MinInt, 0, 0, 0}, {math.MaxInt, 0, 0, 0}, {1 << 62, 0, 0, 0},
		{0, -1, 0, 0}, {0, 3, 0, 0}, {1, -1, 0, 0}, {1, 3, 0, 0}, {0, math.MinInt, 0, 0}, {0, math.MaxInt, 0, 0},
		// A block that would stand in the list of all blocks, but not in that die.
		{-1, 3, 0, 0}, {2, -3, 0, 0}, {0, 5, 0, 0}, {1, -2, 0, 0},
	} {
		name := fmt.Sprint(x)
		wantNothing(t, name, c, x.die, x.block, x.page, api.ErrRange)
		for _, fault := range []int{api.Fine, api.Fail, api.Torn, 7} {
			wantErr(t, name, c.Erase(x.die, x.block, fault), api.ErrRange)
			wantErr(t, name, c.Program(x.die, x.block, x.page, some(16, 1), fault), api.ErrRange)
			wantErr(t, name, c.Program(x.die, x.block, x.page, nil, fault), api.ErrRange)
		}
	}
	for _, page := range []int{-1, 3, math.MinInt, math.MaxInt, 1 << 60} {
		for die := range 2 {
			for block := range 3 {
				wantNothing(t, "page", c, die, block, page, api.ErrRange)
				for _, size := range []int{0, 15, 16, 17} {
					wantErr(t, "page", c.Program(die, block, page, some(size, 1), api.Fine), api.ErrRange)
					wantErr(t, "page", c.Program(die, block, page, some(size, 1), api.Torn), api.ErrRange)
				}
			}
		}
	}
	for _, fault := range []int{-1, 3, math.MinInt, math.MaxInt, 256, 1 << 32} {
		for die := range 2 {
			for block := range 3 {
				wantErr(t, "fault", c.Erase(die, block, fault), api.ErrRange)
				for page := range 3 {
					wantErr(t, "fault", c.Program(die, block, page, some(16, 1), fault), api.ErrRange)
					wantErr(t, "fault", c.Program(die, block, page, some(8, 1), fault), api.ErrRange)
				}
			}
		}
	}
	wantLook(t, "nothing changed", c, small, wornLook())
}

func TestErrShapeThenErrFailThenErrOrder(t *testing.T) {
	c := worn(t)
	for _, fault := range []int{api.Fine, api.Fail, api.Torn} {
		for page := range 3 {
			for _, size := range []int{0, 1, 8, 15, 17, 32} {
				for die := range 2 {
					for block := range 3 {
						wantErr(t, "shape", c.Program(die, block, page, some(size, 1), fault), api.ErrShape)
					}
				}
			}
			wantErr(t, "bad", c.Program(1, 0, page, some(16, 1), fault), api.ErrFail)
			wantErr(t, "full", c.Program(0, 2, page, some(16, 1), fault), api.ErrOrder)
			wantErr(t, "torn", c.Program(1, 1, page, some(16, 1), fault), api.ErrOrder)
			if page != 0 {
				wantErr(t, "blank", c.Program(0, 0, page, some(16, 1), fault), api.ErrOrder)
			}
			if page != 1 {
				wantErr(t, "one page", c.Program(0, 1, page, some(16, 1), fault), api.ErrOrder)
			}
		}
		wantErr(t, "bad", c.Program(1, 0, 0, nil, fault), api.ErrShape)
		wantErr(t, "bad", c.Erase(1, 0, fault), api.ErrFail)
		if c.Off() {
			t.Fatal("a call that was not carried out took the power")
		}
	}
	wantLook(t, "nothing changed", c, small, wornLook())
}

// H3

func TestProgramOfEachPageAndFault(t *testing.T) {
	told := map[int]api.Errno{api.Fine: api.OK, api.Fail: api.ErrFail, api.Torn: api.ErrPower}
	for _, g := range []api.Geometry{
		{Dies: 1, Blocks: 1, Pages: 1, Bytes: 8},
		{Dies: 2, Blocks: 2, Pages: 3, Bytes: 24},
		{Dies: 4, Blocks: 16, Pages: 16, Bytes: 256},
	} {
		for fault, want := range told {
			c, all := mustNew(t, g), blankAll(g)
			die, block := g.Dies-1, g.Blocks-1
			for page := range g.Pages {
				data := some(g.Bytes, page)
				wantErr(t, "Program", c.Program(die, block, page, data, fault), want)
				if c.Off() != (fault == api.Torn) {
					t.Fatalf("fault %d: Off %v", fault, c.Off())
				}
				c.On()
				all[die][block].Next = page + 1
				all[die][block].Pages[page] = data
				if fault != api.Fine {
					all[die][block].Pages[page] = half(data)
				}
				if page+1 < g.Pages {
					wantErr(t, "the same again", c.Program(die, block, page, data, api.Fine), api.ErrOrder)
				}
			}
			for page := range g.Pages {
				wantErr(t, "no more", c.Program(die, block, page, some(g.Bytes, 77), fault), api.ErrOrder)
			}
			wantLook(t, fmt.Sprintf("%v, fault %d", g, fault), c, g, all)
		}
	}
}

func TestChaptersExample(t *testing.T) {
	c := mustNew(t, api.Geometry{Dies: 1, Blocks: 2, Pages: 2, Bytes: 8})
	wantErr(t, "second first", c.Program(0, 0, 1, some(8, 1), api.Fine), api.ErrOrder)
	wantErr(t, "torn", c.Program(0, 0, 0, some(8, 1), api.Torn), api.ErrPower)
	c.On()
	got, err := c.Read(0, 0, 0)
	if err != nil || !slices.Equal(got, half(some(8, 1))) {
		t.Errorf("got %v, %v", got, err)
	}
}

// H4

func TestEraseFine(t *testing.T) {
	c := worn(t)
	want := wornLook()
	for i, at := range [][2]int{{0, 0}, {0, 1}, {0, 2}, {1, 1}, {1, 2}, {1, 2}} {
		wantErr(t, "Erase", c.Erase(at[0], at[1], api.Fine), api.OK)
		wear := want[at[0]][at[1]].Wear
		want[at[0]][at[1]] = blankBlock(small)
		want[at[0]][at[1]].Wear = wear + 1
		wantLook(t, fmt.Sprintf("erase %d", i), c, small, want)
	}
	wantErr(t, "Program behind Erase", c.Program(1, 1, 0, some(16, 8), api.Fine), api.OK)
	want[1][1].Pages[0], want[1][1].Next = some(16, 8), 1
	wantLook(t, "Program behind Erase", c, small, want)
}

func TestEraseFails(t *testing.T) {
	for die := range 2 {
		for block := range 3 {
			c := worn(t)
			want := wornLook()
			wantErr(t, "Erase", c.Erase(die, block, api.Fail), api.ErrFail)
			want[die][block].Bad = true
			wantLook(t, fmt.Sprintf("%d, %d", die, block), c, small, want)
			for _, fault := range []int{api.Fine, api.Fail, api.Torn} {
				wantErr(t, "Erase of a bad one", c.Erase(die, block, fault), api.ErrFail)
				wantErr(t, "Program of a bad one", c.Program(die, block, min(want[die][block].Next, 2), some(16, 1), fault), api.ErrFail)
			}
			wantLook(t, fmt.Sprintf("%d, %d is bad", die, block), c, small, want)
		}
	}
}

func TestEraseTorn(t *testing.T) {
	for _, at := range [][2]int{{0, 0}, {0, 1}, {0, 2}, {1, 1}, {1, 2}} {
		c := worn(t)
		want := wornLook()
		wantErr(t, "Erase", c.Erase(at[0], at[1], api.Torn), api.ErrPower)
		if !c.Off() {
			t.Fatal("a torn erase left the chip on")
		}
		c.On()
		want[at[0]][at[1]].Pages = [][]byte{filled(16, 0), filled(16, 0), filled(16, 0)}
		want[at[0]][at[1]].Next = 3
		want[at[0]][at[1]].Wear++
		wantLook(t, fmt.Sprint(at), c, small, want)
		for page := range 3 {
			wantErr(t, "Program", c.Program(at[0], at[1], page, some(16, 1), api.Fine), api.ErrOrder)
		}
		wantErr(t, "Erase again", c.Erase(at[0], at[1], api.Fine), api.OK)
		wear := want[at[0]][at[1]].Wear
		want[at[0]][at[1]] = blankBlock(small)
		want[at[0]][at[1]].Wear = wear + 1
		wantLook(t, fmt.Sprint(at, " again"), c, small, want)
	}
}

// P2, P4

func TestListsAreTheCallersOwn(t *testing.T) {
	c := mustNew(t, small)
	room := append(some(16, 1), 7, 7, 7, 7)
	data := room[:16]
	wantErr(t, "Program", c.Program(0, 0, 0, data, api.Fine), api.OK)
	if !slices.Equal(room, append(some(16, 1), 7, 7, 7, 7)) {
		t.Errorf("Program wrote into what it was given: %v", room)
	}
	clear(room)
	first, _ := c.Read(0, 0, 0)
	second, _ := c.Read(0, 0, 0)
	blank, _ := c.Read(0, 0, 1)
	if !slices.Equal(first, some(16, 1)) || !slices.Equal(second, first) {
		t.Errorf("the chip kept what it was given: %v, %v", first, second)
	}
	clear(first[:cap(first)])
	clear(blank[:cap(blank)])
	if third, _ := c.Read(0, 0, 0); !slices.Equal(second, some(16, 1)) || !slices.Equal(third, second) {
		t.Errorf("what was read shares memory: %v, %v", second, third)
	}
	if again, _ := c.Read(0, 0, 1); !slices.Equal(again, filled(16, 0xFF)) {
		t.Errorf("a blank page shares memory: %v", again)
	}
}

func TestChipsAreApart(t *testing.T) {
	one, other := mustNew(t, small), mustNew(t, small)
	wantErr(t, "Program", one.Program(0, 0, 0, some(16, 1), api.Fine), api.OK)
	wantErr(t, "Erase", one.Erase(0, 1, api.Torn), api.ErrPower)
	wantLook(t, "the other", other, small, blankAll(small))
}

// The whole, step by step, against what the chapter says of one block.

type model struct {
	g   api.Geometry
	off bool
	all [][]blockLook
}

func (m *model) program(die, block, page int, data []byte, fault int) api.Errno {
	if m.off {
		return api.ErrPower
	}
	if die < 0 || die >= m.g.Dies || block < 0 || block >= m.g.Blocks || page < 0 || page >= m.g.Pages || fault < 0 || fault > 2 {
		return api.ErrRange
	}
	b := &m.all[die][block]
	if len(data) != m.g.Bytes {
		return api.ErrShape
	}
	if b.Bad {
		return api.ErrFail
	}
	if b.Next != page {
		return api.ErrOrder
	}
	b.Next++
	b.Pages[page] = slices.Clone(data)
	if fault == api.Fine {
		return api.OK
	}
	b.Pages[page] = half(data)
	if fault == api.Fail {
		return api.ErrFail
	}
	m.off = true
	return api.ErrPower
}

func (m *model) erase(die, block, fault int) api.Errno {
	if m.off {
		return api.ErrPower
	}
	if die < 0 || die >= m.g.Dies || block < 0 || block >= m.g.Blocks || fault < 0 || fault > 2 {
		return api.ErrRange
	}
	b := &m.all[die][block]
	if b.Bad {
		return api.ErrFail
	}
	if fault == api.Fail {
		b.Bad = true
		return api.ErrFail
	}
	wear := b.Wear + 1
	*b = blankBlock(m.g)
	b.Wear = wear
	if fault == api.Fine {
		return api.OK
	}
	b.Next = m.g.Pages
	for page := range b.Pages {
		b.Pages[page] = filled(m.g.Bytes, 0)
	}
	m.off = true
	return api.ErrPower
}

func TestManySteps(t *testing.T) {
	for seed := range 60 {
		r := rand.New(rand.NewSource(int64(seed)))
		g := api.Geometry{Dies: 1 + r.Intn(4), Blocks: 1 + r.Intn(4), Pages: 1 + r.Intn(4), Bytes: 8 * (1 + r.Intn(3))}
		c, m := mustNew(t, g), &model{g: g, all: blankAll(g)}
		near := func(n int) int {
			if r.Intn(12) == 0 {
				return []int{-1, n}[r.Intn(2)]
			}
			return r.Intn(n)
		}
		for step := range 300 {
			die, block, page := near(g.Dies), near(g.Blocks), near(g.Pages)
			fault := []int{0, 0, 0, 0, 0, 0, 1, 2, 3}[r.Intn(9)]
			name := fmt.Sprintf("seed %d, step %d", seed, step)
			switch {
			case m.off && r.Intn(3) == 0:
				c.On()
				m.off = false
			case r.Intn(5) == 0:
				if fault == api.Fail && r.Intn(3) > 0 {
					fault = api.Fine // so that some blocks stay good
				}
				wantErr(t, name, c.Erase(die, block, fault), m.erase(die, block, fault))
			default:
				if die >= 0 && die < g.Dies && block >= 0 && block < g.Blocks && r.Intn(4) > 0 {
					page = m.all[die][block].Next
				}
				data := some(g.Bytes-r.Intn(20)/19, step)
				wantErr(t, name, c.Program(die, block, page, data, fault), m.program(die, block, page, data, fault))
			}
			if c.Off() != m.off {
				t.Fatalf("%s: Off %v", name, c.Off())
			}
			if !m.off && step%10 == 0 {
				wantLook(t, name, c, g, m.all)
			}
			if t.Failed() {
				t.FailNow()
			}
		}
		c.On()
		wantLook(t, fmt.Sprintf("seed %d", seed), c, g, m.all)
	}
}
