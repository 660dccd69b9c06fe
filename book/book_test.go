package book_test

import (
	"fmt"
	"math"
	"math/rand"
	"slices"
	"testing"

	"granary/api"
	"granary/book"
	"granary/plain"
)

// gone stands in a look and in a model for nowhere, and for none.
const gone = -1

func mustNew(t *testing.T, lbas, places int) *book.Book {
	t.Helper()
	b, err := book.New(lbas, places)
	if err != nil || b == nil {
		t.Fatalf("New(%d, %d): %v, %v", lbas, places, b, err)
	}
	return b
}

func wantErr(t *testing.T, name string, err error, want api.Errno) {
	t.Helper()
	if got := plain.Told(err); got != want {
		t.Errorf("%s: got %v, want %v", name, got, want)
	}
}

// wantTold asks for what a call answered: a number, or an error with 0 beside it.
func wantTold(t *testing.T, name, call string, numbers []int, got int, err error, want int, e api.Errno) {
	t.Helper()
	if got != want || plain.Told(err) != e {
		t.Errorf("%s: %s%v: got %d, %v, want %d, %v", name, call, numbers, got, plain.Told(err), want, e)
	}
}

func wantAt(t *testing.T, name string, b *book.Book, lba, want int, e api.Errno) {
	t.Helper()
	got, err := b.At(lba)
	wantTold(t, name, "At", []int{lba}, got, err, want, e)
}

func wantOf(t *testing.T, name string, b *book.Book, place, want int, e api.Errno) {
	t.Helper()
	got, err := b.Of(place)
	wantTold(t, name, "Of", []int{place}, got, err, want, e)
}

func wantLive(t *testing.T, name string, b *book.Book, from, to, want int, e api.Errno) {
	t.Helper()
	got, err := b.Live(from, to)
	wantTold(t, name, "Live", []int{from, to}, got, err, want, e)
}

// model is what the chapter says, with one table alone: the rest is looked for in it.
type model struct {
	places int
	at     []int
}

func newModel(lbas, places int) *model {
	return &model{places, slices.Repeat([]int{gone}, lbas)}
}

func (m *model) hasLba(lba int) bool     { return lba >= 0 && lba < len(m.at) }
func (m *model) hasPlace(place int) bool { return place >= 0 && place < m.places }

func (m *model) set(lba, place int) api.Errno {
	if !m.hasLba(lba) || !m.hasPlace(place) {
		return api.ErrRange
	}
	for other, lies := range m.at {
		if other != lba && lies == place {
			return api.ErrState
		}
	}
	m.at[lba] = place
	return api.OK
}

func (m *model) drop(lba int) api.Errno {
	if !m.hasLba(lba) {
		return api.ErrRange
	}
	m.at[lba] = gone
	return api.OK
}

func (m *model) live(from, to int) int {
	live := 0
	for _, place := range m.at {
		if place >= from && place < to {
			live++
		}
	}
	return live
}

// same asks all that a book tells: of each lba, of each place, of each place alone as a range, and of the ranges ahead of it and from it on.
func same(t *testing.T, name string, b *book.Book, m *model) {
	t.Helper()
	of := slices.Repeat([]int{gone}, m.places)
	for lba, place := range m.at {
		if place == gone {
			wantAt(t, name, b, lba, 0, api.ErrNone)
			continue
		}
		of[place] = lba
		wantAt(t, name, b, lba, place, api.OK)
	}
	live := 0
	all := m.live(0, m.places)
	for place, lba := range of {
		wantLive(t, name, b, 0, place, live, api.OK)
		wantLive(t, name, b, place, m.places, all-live, api.OK)
		if lba == gone {
			wantOf(t, name, b, place, 0, api.ErrNone)
			wantLive(t, name, b, place, place+1, 0, api.OK)
			continue
		}
		live++
		wantOf(t, name, b, place, lba, api.OK)
		wantLive(t, name, b, place, place+1, 1, api.OK)
	}
	wantLive(t, name, b, 0, m.places, all, api.OK)
}

// op is a call: 's' of an lba and a place, or 'd' of an lba.
type op struct {
	call       byte
	lba, place int
}

func (o op) String() string { return fmt.Sprintf("%c %d %d", o.call, o.lba, o.place) }

func (m *model) do(o op) api.Errno {
	if o.call == 'd' {
		return m.drop(o.lba)
	}
	return m.set(o.lba, o.place)
}

func do(b *book.Book, o op) error {
	if o.call == 'd' {
		return b.Drop(o.lba)
	}
	return b.Set(o.lba, o.place)
}

// step does a call on both, and asks that they answer alike.
func step(t *testing.T, name string, b *book.Book, m *model, o op) {
	t.Helper()
	want := m.do(o)
	if got := plain.Told(do(b, o)); got != want {
		t.Errorf("%s: %v: got %v, want %v", name, o, got, want)
	}
}

// after gives a book on which these were done, one behind the other, and what is said of it.
func after(t *testing.T, lbas, places int, ops ...op) (*book.Book, *model) {
	t.Helper()
	b, m := mustNew(t, lbas, places), newModel(lbas, places)
	for _, o := range ops {
		step(t, "after", b, m, o)
	}
	return b, m
}

// beyond are none of n numbers from 0 on.
func beyond(n int) []int {
	return []int{math.MinInt, math.MinInt + 1, -1 << 32, -n, -2, -1, n, n + 1, 2 * n, 1 << 32, 1 << 62, math.MaxInt - 1, math.MaxInt}
}

// B1

func TestNewOfEachNumber(t *testing.T) {
	numbers := []int{math.MinInt, math.MinInt + 1, -1 << 32, -4096, -256, -2, -1, 0, 1, 2, 3, 16, 64, 255, 256, 257, 258, 512, 1024, 4095, 4096, 4097, 4098, 8192, 1<<32 + 1, 1<<32 + 256, 1 << 62, math.MaxInt - 1, math.MaxInt}
	for _, lbas := range numbers {
		for _, places := range numbers {
			b, err := book.New(lbas, places)
			if lbas >= 1 && lbas <= 256 && places >= 1 && places <= 4096 {
				if b == nil || err != nil {
					t.Errorf("New(%d, %d): %v", lbas, places, err)
				}
				continue
			}
			wantErr(t, fmt.Sprintf("New(%d, %d)", lbas, places), err, api.ErrRange)
			if b != nil {
				t.Errorf("New(%d, %d) gave a book beside its error", lbas, places)
			}
		}
	}
}

// sizes of books: the least and the greatest ones, with more lbas than places and with fewer.
func sizes() [][2]int {
	return [][2]int{{1, 1}, {1, 2}, {2, 1}, {3, 7}, {7, 3}, {1, 4096}, {256, 1}, {255, 4095}, {256, 4096}}
}

func TestAtFirstAllLieNowhere(t *testing.T) {
	for _, s := range sizes() {
		b, m := after(t, s[0], s[1])
		same(t, fmt.Sprint(s), b, m)
	}
}

func TestEachLbaAtEachPlace(t *testing.T) {
	for lbas := 1; lbas <= 5; lbas++ {
		for places := 1; places <= 5; places++ {
			for lba := range lbas {
				for place := range places {
					b, m := after(t, lbas, places, op{'s', lba, place})
					same(t, fmt.Sprintf("%d of %d at %d of %d", lba, lbas, place, places), b, m)
				}
			}
		}
	}
}

func TestFirstAndLast(t *testing.T) {
	for _, s := range sizes() {
		for _, lba := range []int{0, s[0] - 1} {
			for _, place := range []int{0, s[1] - 1} {
				name := fmt.Sprintf("%v: %d at %d", s, lba, place)
				b, m := after(t, s[0], s[1], op{'s', lba, place})
				wantAt(t, name, b, lba, place, api.OK)
				wantOf(t, name, b, place, lba, api.OK)
				same(t, name, b, m)
				step(t, name, b, m, op{'d', lba, 0})
				wantAt(t, name, b, lba, 0, api.ErrNone)
				wantOf(t, name, b, place, 0, api.ErrNone)
				same(t, name, b, m)
			}
		}
	}
}

func TestAsManyAsThereAreLbas(t *testing.T) {
	b, m := after(t, api.MaxLbas, api.MaxPlaces)
	for lba := range api.MaxLbas {
		step(t, "all", b, m, op{'s', lba, api.MaxPlaces - 1 - 16*lba})
	}
	same(t, "all", b, m)
	wantLive(t, "all", b, 0, api.MaxPlaces, api.MaxLbas, api.OK)
	for lba := range api.MaxLbas {
		step(t, "away", b, m, op{'d', lba, 0})
	}
	same(t, "away", b, m)
	wantLive(t, "away", b, 0, api.MaxPlaces, 0, api.OK)
}

func TestAsManyAsThereArePlaces(t *testing.T) {
	b, m := after(t, 4, 2, op{'s', 3, 0}, op{'s', 1, 1})
	for _, o := range []op{{'s', 0, 0}, {'s', 0, 1}, {'s', 2, 0}, {'s', 2, 1}, {'s', 1, 0}, {'s', 3, 1}} {
		wantErr(t, o.String(), do(b, o), api.ErrState)
		same(t, o.String(), b, m)
	}
	step(t, "one leaves", b, m, op{'d', 3, 0})
	step(t, "another comes", b, m, op{'s', 2, 0})
	same(t, "another came", b, m)
}

// B2

func TestChapter(t *testing.T) {
	b := mustNew(t, 2, 4)
	wantErr(t, "Set(1, 3)", b.Set(1, 3), api.OK)
	wantErr(t, "another lies there", b.Set(0, 3), api.ErrState)
	wantAt(t, "it stays", b, 1, 3, api.OK)
	wantAt(t, "the other one", b, 0, 0, api.ErrNone)
	wantOf(t, "it stays", b, 3, 1, api.OK)
	wantOf(t, "elsewhere", b, 2, 0, api.ErrNone)
	wantErr(t, "Set(1, 0)", b.Set(1, 0), api.OK)
	wantAt(t, "moved", b, 1, 0, api.OK)
	wantOf(t, "moved", b, 0, 1, api.OK)
	wantOf(t, "where it lay", b, 3, 0, api.ErrNone)
	wantErr(t, "another may lie there now", b.Set(0, 3), api.OK)
	wantLive(t, "both", b, 0, 4, 2, api.OK)
	wantErr(t, "Drop(1)", b.Drop(1), api.OK)
	wantAt(t, "dropped", b, 1, 0, api.ErrNone)
	wantOf(t, "dropped", b, 0, 0, api.ErrNone)
	wantOf(t, "the other one stays", b, 3, 0, api.OK)
	wantLive(t, "one", b, 0, 4, 1, api.OK)
}

func TestSetWhereItLies(t *testing.T) {
	for _, o := range []op{{'s', 0, 0}, {'s', 2, 3}, {'s', 1, 2}} {
		b, m := after(t, 3, 4, o, o)
		same(t, "twice", b, m)
		wantErr(t, "thrice", do(b, o), api.OK)
		wantAt(t, "thrice", b, o.lba, o.place, api.OK)
		wantOf(t, "thrice", b, o.place, o.lba, api.OK)
		same(t, "thrice", b, m)
	}
}

func TestSetMovesOneAlone(t *testing.T) {
	b, m := after(t, 3, 6, op{'s', 0, 0}, op{'s', 1, 2}, op{'s', 2, 5})
	for _, o := range []op{{'s', 1, 3}, {'s', 1, 1}, {'s', 1, 4}, {'s', 1, 2}, {'s', 0, 1}, {'s', 2, 0}, {'s', 1, 5}} {
		wantErr(t, o.String(), do(b, o), api.OK)
		m.do(o)
		same(t, o.String(), b, m)
	}
}

func TestTwoChangePlacesByAThird(t *testing.T) {
	b, m := after(t, 2, 3, op{'s', 0, 0}, op{'s', 1, 1})
	wantErr(t, "straight", b.Set(0, 1), api.ErrState)
	wantErr(t, "straight", b.Set(1, 0), api.ErrState)
	same(t, "straight", b, m)
	for _, o := range []op{{'s', 0, 2}, {'s', 1, 0}, {'s', 0, 1}} {
		step(t, "by a third", b, m, o)
	}
	same(t, "by a third", b, m)
	wantAt(t, "changed", b, 0, 1, api.OK)
	wantAt(t, "changed", b, 1, 0, api.OK)
}

func TestDrop(t *testing.T) {
	b, m := after(t, 3, 3, op{'s', 0, 2}, op{'s', 2, 0})
	for _, lba := range []int{1, 0, 0, 2, 2, 1} {
		wantErr(t, "Drop, whether it lies somewhere or not", b.Drop(lba), api.OK)
		m.drop(lba)
		same(t, fmt.Sprintf("Drop(%d)", lba), b, m)
	}
	for _, o := range []op{{'s', 1, 2}, {'s', 0, 0}, {'s', 2, 1}} {
		step(t, "all lie elsewhere now", b, m, o)
	}
	same(t, "all lie elsewhere now", b, m)
}

func TestNoSuchLbaAndNoSuchPlace(t *testing.T) {
	for _, s := range sizes() {
		b, m := after(t, s[0], s[1], op{'s', s[0] - 1, 0})
		if s[0] > 1 && s[1] > 1 {
			step(t, "two", b, m, op{'s', 0, s[1] - 1})
		}
		for _, lba := range beyond(s[0]) {
			name := fmt.Sprintf("%v, lba %d", s, lba)
			wantErr(t, name+": Set", b.Set(lba, 0), api.ErrRange)
			wantErr(t, name+": Set", b.Set(lba, s[1]-1), api.ErrRange)
			wantErr(t, name+": Drop", b.Drop(lba), api.ErrRange)
			wantAt(t, name, b, lba, 0, api.ErrRange)
			for _, place := range beyond(s[1]) {
				wantErr(t, name+": Set, and no such place", b.Set(lba, place), api.ErrRange)
			}
		}
		for _, place := range beyond(s[1]) {
			name := fmt.Sprintf("%v, place %d", s, place)
			wantErr(t, name+": Set", b.Set(0, place), api.ErrRange)
			wantErr(t, name+": Set", b.Set(s[0]-1, place), api.ErrRange)
			wantOf(t, name, b, place, 0, api.ErrRange)
		}
		same(t, fmt.Sprintf("%v: refused", s), b, m)
	}
}

func TestRangeComesAheadOfState(t *testing.T) {
	b, m := after(t, 2, 2, op{'s', 0, 0}, op{'s', 1, 1})
	wantErr(t, "no such lba, and another lies there", b.Set(2, 0), api.ErrRange)
	wantErr(t, "no such lba, and another lies there", b.Set(-1, 1), api.ErrRange)
	wantErr(t, "another lies there", b.Set(1, 0), api.ErrState)
	same(t, "refused", b, m)
}

func TestErrNoneTellsNothingElse(t *testing.T) {
	b, _ := after(t, 3, 5, op{'s', 1, 4}, op{'s', 2, 3}, op{'d', 2, 0})
	for _, lba := range []int{0, 2} {
		wantAt(t, "nowhere", b, lba, 0, api.ErrNone)
	}
	for _, place := range []int{0, 1, 2, 3} {
		wantOf(t, "none", b, place, 0, api.ErrNone)
	}
	wantAt(t, "one", b, 1, 4, api.OK)
	wantOf(t, "one", b, 4, 1, api.OK)
}

func TestLbaZeroAtPlaceZeroIsNotNone(t *testing.T) {
	b, _ := after(t, 2, 2, op{'s', 0, 0})
	wantAt(t, "zero", b, 0, 0, api.OK)
	wantOf(t, "zero", b, 0, 0, api.OK)
	wantAt(t, "the other one", b, 1, 0, api.ErrNone)
	wantOf(t, "the other one", b, 1, 0, api.ErrNone)
	wantErr(t, "taken by lba 0", b.Set(1, 0), api.ErrState)
	wantLive(t, "zero", b, 0, 2, 1, api.OK)
}

func TestLiveOfEachRange(t *testing.T) {
	b, m := after(t, 5, 8, op{'s', 0, 0}, op{'s', 4, 2}, op{'s', 1, 3}, op{'s', 2, 7}, op{'s', 3, 5}, op{'d', 3, 0})
	for from := -3; from <= 11; from++ {
		for to := -3; to <= 11; to++ {
			if from < 0 || to > 8 || to < from {
				wantLive(t, "no range", b, from, to, 0, api.ErrRange)
				continue
			}
			wantLive(t, "range", b, from, to, m.live(from, to), api.OK)
		}
	}
	same(t, "asked", b, m)
}

func TestLiveAtTheEdges(t *testing.T) {
	for _, s := range sizes() {
		b, m := after(t, s[0], s[1], op{'s', 0, s[1] - 1})
		name := fmt.Sprint(s)
		wantLive(t, name, b, 0, s[1], 1, api.OK)
		wantLive(t, name, b, 0, 0, 0, api.OK)
		wantLive(t, name, b, 0, s[1]-1, 0, api.OK)
		wantLive(t, name, b, s[1]-1, s[1], 1, api.OK)
		wantLive(t, name, b, s[1], s[1], 0, api.OK)
		for _, wrong := range beyond(s[1] + 1) {
			for _, number := range []int{0, s[1] - 1, s[1], wrong} {
				wantLive(t, name, b, wrong, number, 0, api.ErrRange)
				wantLive(t, name, b, number, wrong, 0, api.ErrRange)
			}
		}
		wantLive(t, name, b, s[1], s[1]-1, 0, api.ErrRange)
		wantLive(t, name, b, s[1], 0, 0, api.ErrRange)
		same(t, name, b, m)
	}
}

func TestBooksAreEachTheirOwn(t *testing.T) {
	a, first := after(t, 2, 3, op{'s', 0, 1})
	b, second := after(t, 2, 3, op{'s', 1, 1})
	step(t, "one", a, first, op{'s', 0, 2})
	step(t, "other", b, second, op{'d', 1, 0})
	same(t, "one", a, first)
	same(t, "other", b, second)
}

// B3

// wantBothWays asks, without any model, that At and Of lead back to one another, and that Live of all places is how many lbas lie somewhere.
func wantBothWays(t *testing.T, name string, b *book.Book, lbas, places int) {
	t.Helper()
	lie, lain := 0, 0
	for lba := range lbas {
		if place, err := b.At(lba); err == nil {
			lie++
			wantOf(t, name, b, place, lba, api.OK)
		}
	}
	for place := range places {
		if lba, err := b.Of(place); err == nil {
			lain++
			wantAt(t, name, b, lba, place, api.OK)
		}
	}
	if lie != lain {
		t.Errorf("%s: %d lbas lie at %d places", name, lie, lain)
	}
	wantLive(t, name, b, 0, places, lie, api.OK)
}

// eachOp gives all calls of a book, and those of one lba and of one place beyond on either side.
func eachOp(lbas, places int) []op {
	var ops []op
	for lba := -1; lba <= lbas; lba++ {
		ops = append(ops, op{'d', lba, 0})
		for place := -1; place <= places; place++ {
			ops = append(ops, op{'s', lba, place})
		}
	}
	return ops
}

// eachRun does all runs of some length.
func eachRun(t *testing.T, lbas, places, length int, run []op) {
	t.Helper()
	if len(run) == length {
		b, m := after(t, lbas, places, run...)
		name := fmt.Sprint(run)
		same(t, name, b, m)
		wantBothWays(t, name, b, lbas, places)
		return
	}
	for _, o := range eachOp(lbas, places) {
		eachRun(t, lbas, places, length, append(run[:len(run):len(run)], o))
	}
}

func TestEachShortRun(t *testing.T) {
	for _, x := range []struct{ lbas, places, length int }{{1, 1, 4}, {1, 2, 4}, {2, 1, 4}, {2, 2, 3}, {2, 3, 3}, {3, 2, 3}} {
		eachRun(t, x.lbas, x.places, x.length, nil)
	}
}

func TestLongRuns(t *testing.T) {
	r := rand.New(rand.NewSource(5))
	for _, s := range [][2]int{{2, 2}, {3, 5}, {5, 3}, {16, 16}, {16, 64}, {64, 16}, {255, 100}, {256, 300}, {256, 4096}} {
		b, m := after(t, s[0], s[1])
		name := fmt.Sprint(s)
		for i := range 3000 {
			o := op{'s', r.Intn(s[0]+2) - 1, r.Intn(s[1]+2) - 1}
			if r.Intn(4) == 0 {
				o.call = 'd'
			}
			step(t, name, b, m, o)
			if i%(1+s[1]/4) == 0 {
				same(t, name, b, m)
				wantBothWays(t, name, b, s[0], s[1])
			}
		}
		same(t, name, b, m)
		wantBothWays(t, name, b, s[0], s[1])
	}
}
