package disk_test

import (
	"bytes"
	"fmt"
	"math"
	"math/rand"
	"slices"
	"strings"
	"sync"
	"testing"

	"granary/api"
	"granary/disk"
	"granary/plain"
)

// The numbers as the chapter has them.
const (
	mostLbas   = 256
	besideData = 21
	extra      = 4 // blocks beside those of lbas and spare
)

// plan is what a disk is made of.
type plan struct {
	g           api.Geometry
	lbas, spare int
}

func (p plan) String() string {
	return fmt.Sprintf("%dx%dx%dx%d, %d lbas, spare %d", p.g.Dies, p.g.Blocks, p.g.Pages, p.g.Bytes, p.lbas, p.spare)
}

func geometry(dies, blocks, pages, bytes int) api.Geometry {
	return api.Geometry{Dies: dies, Blocks: blocks, Pages: pages, Bytes: bytes}
}

// full gives a plan with as many lbas as there may be.
func full(dies, blocks, pages, bytes, spare int) plan {
	g := geometry(dies, blocks, pages, bytes)
	return plan{g, min(mostLbas, (dies*blocks-spare-extra)*pages), spare}
}

// small has plans of disks on which all comes soon: full ones, with one page in a block and with more, of one die and of several.
func small() []plan {
	return []plan{
		full(1, 5, 1, 24, 0),
		full(1, 8, 1, 24, 2),
		full(1, 5, 2, 24, 0),
		{geometry(1, 6, 2, 24), 2, 0},
		full(1, 6, 2, 24, 1),
		full(2, 4, 2, 32, 1),
		full(3, 2, 3, 24, 0),
		full(1, 9, 3, 24, 3),
		full(1, 7, 4, 40, 1),
		full(4, 3, 5, 24, 2),
		full(1, 6, 8, 24, 1),
		full(1, 5, 16, 24, 0),
	}
}

// value is one thing that an lba may read as.
type value = string

// model is what the chapter says of a disk.
type model struct {
	plan
	now     []value   // what each lba reads as
	open    []bool    // no Read told yet which of those in may that is
	may     [][]value // what each may read as behind a loss
	mounted bool      // once at least
	off     bool
	losses  int
	bad     int
	cut     bool // some Cut may still be met
	fails   int  // how many erases may still fail
}

// rig is a disk beside its model.
type rig struct {
	model
	t   testing.TB
	d   *disk.Disk
	log []string
}

func newRig(t testing.TB, p plan) *rig {
	t.Helper()
	d, err := disk.New(p.g, p.lbas, p.spare)
	if err != nil || d == nil {
		t.Fatalf("New of %v: %v, %v", p, d, err)
	}
	r := &rig{t: t, d: d, model: model{plan: p}}
	for range p.lbas {
		r.now = append(r.now, r.zero())
		r.may = append(r.may, []value{r.zero()})
	}
	r.open = make([]bool, p.lbas)
	return r
}

func (r *rig) zero() value { return strings.Repeat("\x00", r.g.Bytes-besideData) }

// filled gives data of an lba that is known by a number.
func (r *rig) filled(number int) []byte {
	data := make([]byte, r.g.Bytes-besideData)
	for i := range data {
		data[i] = byte(number>>(8*(i%3)) + i/3)
	}
	return data
}

func (r *rig) fatal(format string, args ...any) {
	r.t.Helper()
	log := r.log[max(0, len(r.log)-40):]
	r.t.Fatalf("%v: %s\nbehind %d calls, the last of them: %s", r.plan, fmt.Sprintf(format, args...), len(r.log), strings.Join(log, "; "))
}

func (r *rig) note(format string, args ...any) {
	r.log = append(r.log, fmt.Sprintf(format, args...))
}

func (r *rig) latched() bool { return r.bad > r.spare }

// state asks State, and holds it against what was called: blocks come to be bad only as often as Fails lets them.
func (r *rig) state() {
	r.t.Helper()
	bad, latched, off := r.d.State()
	if bad < r.bad || bad-r.bad > r.fails {
		r.fatal("State: %d bad, of which %d were ahead, and %d may be", bad, r.bad, r.fails)
	}
	r.fails -= bad - r.bad
	r.bad = bad
	if bad > r.spare+1 {
		r.fatal("State: %d bad: a latched disk has erased", bad)
	}
	if latched != (bad > r.spare) || off != r.off {
		r.fatal("State: %d, %v, %v, want latched %v, off %v", bad, latched, off, bad > r.spare, r.off)
	}
}

// judge holds the error of a Write, Trim or Flush against the model, and tells it.
func (r *rig) judge(name string, err error) api.Errno {
	r.t.Helper()
	told := plain.Told(err)
	r.note("%s: %v", name, told)
	was := r.latched()
	switch {
	case r.off:
		if told != api.ErrPower {
			r.fatal("%s without power: %v", name, told)
		}
		r.state()
		return told
	case told == api.ErrPower:
		if !r.cut || was {
			r.fatal("%s: %v, without a cut, or latched", name, told)
		}
		r.cut = false
		r.lose()
	}
	r.state()
	switch {
	case told == api.ErrFull && r.losses > r.g.Pages:
		// Behind so many losses nothing is promised of room.
	case (told == api.ErrLatched) != (r.latched() && told != api.ErrPower):
		r.fatal("%s: %v, %d bad", name, told, r.bad)
	case told != api.OK && told != api.ErrPower && told != api.ErrLatched:
		r.fatal("%s: %v", name, told)
	}
	return told
}

// lose lets the model lose its power: what was not told yet is not told any more.
func (r *rig) lose() {
	r.off = true
	r.losses++
	r.leave()
}

func (r *rig) leave() {
	for i := range r.open {
		r.open[i] = true
	}
}

// changed lets an lba of the model read as something, if the call was well; and it may, if power was lost in it.
func (r *rig) changed(lba int, v value, wasOff bool, told api.Errno) {
	if wasOff || told != api.OK && told != api.ErrPower {
		return
	}
	if !slices.Contains(r.may[lba], v) {
		r.may[lba] = append(r.may[lba], v)
	}
	if told == api.OK {
		r.now[lba], r.open[lba] = v, false
	}
}

func (r *rig) write(lba int, data []byte) api.Errno {
	r.t.Helper()
	was, wasOff := string(data), r.off
	told := r.judge(fmt.Sprintf("Write of %d, %v", lba, data[:3]), r.d.Write(lba, data))
	if string(data) != was {
		r.fatal("Write changed what it was given")
	}
	r.changed(lba, was, wasOff, told)
	// What it was given is the caller's to change.
	for i := range data {
		data[i] ^= 0xFF
	}
	return told
}

func (r *rig) trim(lba int) api.Errno {
	r.t.Helper()
	wasOff := r.off
	told := r.judge(fmt.Sprintf("Trim of %d", lba), r.d.Trim(lba))
	r.changed(lba, r.zero(), wasOff, told)
	return told
}

func (r *rig) flush() api.Errno {
	r.t.Helper()
	told := r.judge("Flush", r.d.Flush())
	if told == api.OK {
		for i := range r.may {
			if !r.open[i] {
				r.may[i] = []value{r.now[i]}
			}
		}
	}
	return told
}

// read reads an lba. What it tells is kept from then on, if it is behind a Mount.
func (r *rig) read(lba int) {
	r.t.Helper()
	data, err := r.d.Read(lba)
	if r.off {
		if data != nil || plain.Told(err) != api.ErrPower {
			r.fatal("Read of %d without power: %v, %v", lba, data, err)
		}
		return
	}
	if err != nil || len(data) != len(r.zero()) {
		r.fatal("Read of %d: %v, %v", lba, data, err)
	}
	got := string(data)
	if !r.open[lba] && got != r.now[lba] {
		r.fatal("Read of %d: %v, want %v", lba, data, []byte(r.now[lba]))
	}
	if r.open[lba] && !slices.Contains(r.may[lba], got) {
		r.fatal("Read of %d behind Mount: %v, want one of %q", lba, data, r.may[lba])
	}
	r.now[lba], r.open[lba] = got, false
	if r.mounted {
		r.may[lba] = []value{got}
	}
	// What came out is the caller's to change.
	for i := range data {
		data[i] ^= 0xFF
	}
}

func (r *rig) readAll() {
	r.t.Helper()
	for lba := range r.lbas {
		r.read(lba)
	}
}

func (r *rig) mount() {
	r.t.Helper()
	r.note("Mount")
	if err := r.d.Mount(); err != nil {
		r.fatal("Mount: %v", err)
	}
	if !r.off {
		r.lose()
	}
	r.off, r.mounted = false, true
	r.state()
}

func (r *rig) setCut(n int) {
	r.note("Cut of %d", n)
	r.d.Cut(n)
	r.cut = n > 0
}

func (r *rig) setFails(n int) {
	r.note("Fails of %d", n)
	r.d.Fails(n)
	r.fails = max(n, 0)
}

// churn writes, trims and flushes at random, so often, as long as there is power and nothing is latched; the last error is told.
func (r *rig) churn(random *rand.Rand, times int) api.Errno {
	r.t.Helper()
	for range times {
		told := api.OK
		lba := random.Intn(r.lbas)
		switch random.Intn(8) {
		case 0:
			told = r.trim(lba)
		case 1, 2:
			told = r.flush()
		case 3:
			r.read(lba)
		default:
			told = r.write(lba, r.filled(random.Int()))
		}
		if told != api.OK {
			return told
		}
	}
	return api.OK
}

// till does something till it is so as it is to be. What never comes to be so is a fault.
func (r *rig) till(isSo func() bool, do func()) {
	r.t.Helper()
	for range 100_000 {
		if isSo() {
			return
		}
		do()
	}
	r.fatal("it never comes to be so")
}

func (r *rig) isOff() bool { return r.off }

// fill writes each lba once, and flushes.
func (r *rig) fill() {
	r.t.Helper()
	for lba := range r.lbas {
		r.write(lba, r.filled(1000+lba))
	}
	r.flush()
}

func wantNew(t *testing.T, g api.Geometry, lbas, spare int, want api.Errno) {
	t.Helper()
	d, err := disk.New(g, lbas, spare)
	if plain.Told(err) != want || (d == nil) != (want != api.OK) {
		t.Errorf("New of %v, %d, %d: %v, %v, want %v", g, lbas, spare, d, err, want)
	}
}

func TestD1NewErrors(t *testing.T) {
	good := geometry(1, 6, 2, 24)
	wantNew(t, good, 4, 0, api.OK)
	for _, g := range []api.Geometry{
		{}, geometry(0, 6, 2, 24), geometry(5, 6, 2, 24), geometry(1, 0, 2, 24), geometry(1, 17, 2, 24),
		geometry(1, 6, 0, 24), geometry(1, 6, 17, 24), geometry(1, 6, 2, 23), geometry(1, 6, 2, 25),
		geometry(1, 6, 2, 0), geometry(1, 6, 2, 264), geometry(-1, 6, 2, 24), geometry(1, 6, 2, math.MinInt),
		geometry(math.MaxInt, math.MaxInt, math.MaxInt, math.MaxInt),
	} {
		wantNew(t, g, 1, 0, api.ErrRange)
		wantNew(t, g, -1, -1, api.ErrRange)
	}
	// A chip that may be, whose pages are too small: ahead of all that is wrong with the other numbers.
	for _, small := range []int{8, 16} {
		wantNew(t, geometry(1, 6, 2, small), 1, 0, api.ErrShape)
		wantNew(t, geometry(1, 6, 2, small), 0, 0, api.ErrShape)
		wantNew(t, geometry(1, 6, 2, small), 1, -1, api.ErrShape)
		wantNew(t, geometry(1, 6, 2, small), 100, 0, api.ErrShape)
	}
	for _, lbas := range []int{0, -1, mostLbas + 1, math.MaxInt, math.MinInt} {
		wantNew(t, good, lbas, 0, api.ErrRange)
		wantNew(t, good, lbas, 50, api.ErrRange)
		wantNew(t, geometry(4, 16, 16, 24), lbas, 0, api.ErrRange)
	}
	for _, spare := range []int{-1, math.MinInt} {
		wantNew(t, good, 1, spare, api.ErrRange)
		wantNew(t, good, 100, spare, api.ErrRange)
	}
	for _, spare := range []int{2, 3, 6, 7, math.MaxInt - 4, math.MaxInt - 1, math.MaxInt} {
		wantNew(t, good, 1, spare, api.ErrFull)
		wantNew(t, good, mostLbas, spare, api.ErrFull)
	}
	wantNew(t, geometry(1, 4, 16, 24), 1, 0, api.ErrFull)
	wantNew(t, geometry(1, 1, 1, 24), 1, 0, api.ErrFull)
	wantNew(t, geometry(1, 1, 1, 24), 1, math.MaxInt, api.ErrFull)
	wantNew(t, geometry(4, 16, 16, 256), 1, 0, api.OK)
	wantNew(t, geometry(4, 16, 16, 256), mostLbas, 0, api.OK)
	wantNew(t, geometry(4, 16, 16, 256), mostLbas, 44, api.OK)
	wantNew(t, geometry(4, 16, 16, 256), mostLbas, 45, api.ErrFull)
}

func TestD1RoomOfEveryShape(t *testing.T) {
	for dies := 1; dies <= 4; dies++ {
		for blocks := 1; blocks <= 16; blocks++ {
			for _, pages := range []int{1, 2, 3, 16} {
				for spare := range dies*blocks + 2 {
					room := (dies*blocks - spare - extra) * pages
					g := geometry(dies, blocks, pages, 24)
					if room >= 1 && room <= mostLbas {
						wantNew(t, g, room, spare, api.OK)
					}
					if room < mostLbas {
						wantNew(t, g, max(room, 0)+1, spare, api.ErrFull)
					}
				}
			}
		}
	}
}

func TestD1SizeAndWhatIsThereAtFirst(t *testing.T) {
	for _, bytes := range []int{24, 32, 64, 248, 256} {
		r := newRig(t, full(1, 6, 2, bytes, 0))
		if got := r.d.Size(); got != bytes-21 {
			t.Errorf("Size with %d bytes: %d", bytes, got)
		}
		r.readAll()
		r.state()
		r.mount()
		r.readAll()
		r.mount()
		r.readAll()
	}
}

func TestTable(t *testing.T) {
	d, err := disk.New(geometry(1, 6, 2, 24), 2, 0)
	if err != nil || d.Size() != 3 {
		t.Fatalf("New: %v, Size %d", err, d.Size())
	}
	if err := d.Write(0, []byte{1, 2, 3}); err != nil {
		t.Errorf("Write: %v", err)
	}
	d.Cut(1)
	if err := d.Flush(); plain.Told(err) != api.ErrPower {
		t.Errorf("Flush: %v", err)
	}
	if bad, latched, off := d.State(); bad != 0 || latched || !off {
		t.Errorf("State: %v, %v, %v", bad, latched, off)
	}
	if err := d.Mount(); err != nil {
		t.Errorf("Mount: %v", err)
	}
	got, err := d.Read(0)
	if err != nil || !bytes.Equal(got, []byte{1, 2, 3}) && !bytes.Equal(got, []byte{0, 0, 0}) {
		t.Errorf("Read: %v, %v", got, err)
	}
}

// A Flush behind a Write or a Trim reaches the chip, behind a Mount as well as ahead of it.
func TestD3FlushMeetsTheNextCut(t *testing.T) {
	for _, p := range small() {
		for _, ahead := range []func(*rig) api.Errno{
			func(r *rig) api.Errno { return r.write(0, r.filled(1)) },
			func(r *rig) api.Errno { return r.trim(0) },
		} {
			r := newRig(t, p)
			for range 3 {
				if told := ahead(r); told != api.OK {
					r.fatal("ahead of the cut: %v", told)
				}
				r.setCut(1)
				if told := r.flush(); told != api.ErrPower {
					r.fatal("Flush: %v", told)
				}
				r.mount()
				r.readAll()
			}
		}
	}
}

func TestD2ListOfBlocks(t *testing.T) {
	for i, p := range append(small(), full(4, 16, 16, 24, 0), full(4, 16, 4, 24, 30), full(1, 16, 16, 256, 2)) {
		r := newRig(t, p)
		r.fill()
		if told := r.churn(rand.New(rand.NewSource(int64(i))), 2000); told != api.OK {
			r.fatal("told %v", told)
		}
		r.readAll()
	}
}

// All lbas are there at once, none in place of another, also the last one.
func TestD2NoLbaIsAnother(t *testing.T) {
	for _, p := range small() {
		r := newRig(t, p)
		for round := range 4 {
			for lba := range r.lbas {
				r.write(lba, r.filled(round*1000+lba))
				r.readAll()
			}
			r.trim(r.lbas - 1 - round%r.lbas)
			r.readAll()
		}
	}
}

func TestD2WrongInputs(t *testing.T) {
	for _, p := range []plan{{geometry(1, 6, 2, 24), 2, 0}, full(4, 16, 16, 256, 3)} {
		r := newRig(t, p)
		r.fill()
		wrongLbas := []int{-1, r.lbas, r.lbas + 1, math.MaxInt, math.MinInt}
		long := make([]byte, r.d.Size()+1)
		right, short := long[:r.d.Size()], long[:r.d.Size()-1]
		wrongData := [][]byte{nil, {}, {1}, short, long, make([]byte, r.g.Bytes)}
		want := func(name string, err error, want api.Errno) {
			t.Helper()
			if plain.Told(err) != want {
				r.fatal("%s: %v, want %v", name, err, want)
			}
		}
		ask := func(rangeErr, shapeErr api.Errno) {
			t.Helper()
			for _, lba := range wrongLbas {
				want("Write of a wrong lba", r.d.Write(lba, right), rangeErr)
				for _, data := range wrongData {
					want("Write of a wrong lba, with wrong data", r.d.Write(lba, data), rangeErr)
				}
				want("Trim of a wrong lba", r.d.Trim(lba), rangeErr)
				got, err := r.d.Read(lba)
				want("Read of a wrong lba", err, rangeErr)
				if got != nil {
					r.fatal("Read of a wrong lba: %v", got)
				}
			}
			for _, data := range wrongData {
				want("Write of wrong data", r.d.Write(0, data), shapeErr)
				want("Write of wrong data", r.d.Write(r.lbas-1, data), shapeErr)
			}
			r.readAll()
			r.state()
		}
		// They reach no Program and no Erase: so a Cut is not met, and still counts behind them.
		r.setCut(1)
		ask(api.ErrRange, api.ErrShape)
		r.write(0, r.filled(5))
		r.flush()
		if !r.off {
			r.fatal("the cut was not met")
		}
		// Without power nothing else is told.
		ask(api.ErrPower, api.ErrPower)
		want("Flush", r.d.Flush(), api.ErrPower)
		want("Write", r.d.Write(0, right), api.ErrPower)
		want("Trim", r.d.Trim(0), api.ErrPower)
		r.mount()
		ask(api.ErrRange, api.ErrShape)
		// Latched, what is wrong with the inputs comes first.
		r.latch()
		ask(api.ErrRange, api.ErrShape)
		want("Flush", r.d.Flush(), api.ErrLatched)
		want("Write", r.d.Write(0, right), api.ErrLatched)
		want("Trim", r.d.Trim(r.lbas-1), api.ErrLatched)
		r.readAll()
	}
}

// latch lets erases fail till the disk is latched.
func (r *rig) latch() {
	r.t.Helper()
	r.setFails(math.MaxInt)
	i := 0
	r.till(r.latched, func() {
		i++
		r.write(i%r.lbas, r.filled(5000+i))
		if i%3 == 0 {
			r.flush()
		}
	})
}

func TestP2NoMemoryIsShared(t *testing.T) {
	r := newRig(t, full(1, 6, 2, 32, 0))
	size := r.d.Size()
	whole := bytes.Repeat([]byte{7}, size+5)
	for _, after := range []func(){func() {}, func() { r.flush() }, func() { r.mount() }} {
		data := whole[:size]
		if err := r.d.Write(1, data); err != nil {
			t.Fatal(err)
		}
		if !bytes.Equal(whole, bytes.Repeat([]byte{7}, size+5)) {
			t.Errorf("Write changed what it was given, or what is behind it: %v", whole)
		}
		clear(data)
		after()
		one, _ := r.d.Read(1)
		other, _ := r.d.Read(1)
		for i := range one {
			one[i] = 9
		}
		third, _ := r.d.Read(1)
		want := bytes.Repeat([]byte{7}, size)
		if !bytes.Equal(other, want) || !bytes.Equal(third, want) {
			t.Errorf("Read: %v, %v, want %v", other, third, want)
		}
		whole = bytes.Repeat([]byte{7}, size+5)
	}
	// Also what was never written, and what was trimmed, comes out fresh.
	r.d.Trim(2)
	for _, lba := range []int{2, 3} {
		one, _ := r.d.Read(lba)
		clear(one[:cap(one)])
		one[0] = 1
		if other, _ := r.d.Read(lba); !bytes.Equal(other, make([]byte, size)) {
			t.Errorf("Read of %d: %v", lba, other)
		}
	}
}

// step is one call of a script.
type step func(*rig) api.Errno

func writeStep(lba, number int) step {
	return func(r *rig) api.Errno { return r.write(lba%r.lbas, r.filled(number)) }
}
func trimStep(lba int) step {
	return func(r *rig) api.Errno { return r.trim(lba % r.lbas) }
}
func flushStep() step {
	return func(r *rig) api.Errno { return r.flush() }
}

// script gives calls at random; half of its writes go to a few lbas, so that blocks are emptied of what is live and of what is not.
func script(seed int64, long int) []step {
	random := rand.New(rand.NewSource(seed))
	var steps []step
	for i := range long {
		lba := random.Intn(1 + random.Intn(mostLbas))
		switch random.Intn(6) {
		case 0:
			steps = append(steps, trimStep(lba))
		case 1:
			steps = append(steps, flushStep())
		default:
			steps = append(steps, writeStep(lba, int(seed)*100000+i+1))
		}
	}
	return append(steps, flushStep())
}

// play does the calls of a script till one is not well, and tells how many were.
func (r *rig) play(steps []step) int {
	r.t.Helper()
	for i, s := range steps {
		if s(r) != api.OK {
			return i
		}
	}
	return len(steps)
}

// Wherever power is lost, and wherever it is lost again in what is done behind that, all reads as D3 says, twice, and all goes on.
func TestD3EveryCut(t *testing.T) {
	for i, p := range small() {
		long := 3 * p.g.Dies * p.g.Blocks
		first, second := script(int64(2*i), long), script(int64(2*i+1), long)
		met := 0
		for n := 1; ; n++ {
			r := newRig(t, p)
			r.fill()
			r.setCut(n)
			if r.play(first) == len(first) {
				break
			}
			met++
			if !r.off {
				r.fatal("not off")
			}
			r.read(0)
			r.mount()
			r.readAll()
			r.mount()
			r.readAll()
			everySecondCut(t, p, first, second, n)
		}
		// Each of a script's writes and trims reaches the chip at some time.
		if met < len(first)/2 {
			t.Errorf("%v: only %d cuts were met", p, met)
		}
	}
}

// everySecondCut loses power where the first script meets its n-th program or erase, and then wherever some of the second one does.
func everySecondCut(t *testing.T, p plan, first, second []step, n int) {
	t.Helper()
	for m := 1 + n%3; ; m += 3 {
		r := newRig(t, p)
		r.fill()
		r.setCut(n)
		r.play(first)
		r.mount()
		if n%2 == 0 {
			r.readAll()
		}
		r.setCut(m)
		done := r.play(second)
		if done < len(second) {
			r.mount()
		}
		r.readAll()
		r.setCut(0)
		if r.play(second) < len(second) {
			r.fatal("it does not go on")
		}
		r.readAll()
		r.mount()
		r.readAll()
		if done == len(second) {
			return
		}
	}
}

func TestD3WhichCutsCount(t *testing.T) {
	p := full(1, 7, 2, 24, 1)
	steps := script(77, 30)
	// lost plays the script behind some cuts, and tells behind how many of its calls power was lost, or -1.
	lost := func(cuts ...int) int {
		r := newRig(t, p)
		for _, n := range cuts {
			r.setCut(n)
		}
		done := r.play(steps)
		if done == len(steps) {
			if r.off {
				r.fatal("off, and all was well")
			}
			return -1
		}
		return done
	}
	var ends []int
	for n := 1; ; n++ {
		end := lost(n)
		if end < 0 {
			break
		}
		ends = append(ends, end)
	}
	all := len(ends)
	if all < 20 || !slices.IsSorted(ends) {
		t.Fatalf("cuts are met behind so many calls: %v", ends)
	}
	for _, n := range []int{0, -1, math.MinInt, all + 1, all + 2, math.MaxInt} {
		if got := lost(n); got != -1 {
			t.Errorf("Cut of %d: power is lost behind %d calls", n, got)
		}
		for _, ahead := range []int{1, 2, all} {
			if got := lost(ahead, n); got != -1 {
				t.Errorf("Cut of %d behind one of %d: power is lost behind %d calls", n, ahead, got)
			}
			if got := lost(n, ahead); got != ends[ahead-1] {
				t.Errorf("Cut of %d behind one of %d: power is lost behind %d calls, want %d", ahead, n, got, ends[ahead-1])
			}
		}
	}
	for _, n := range []int{1, 2, 5, all} {
		if got := lost(all-1, 3, n); got != ends[n-1] {
			t.Errorf("Cut of %d behind others: power is lost behind %d calls, want %d", n, got, ends[n-1])
		}
	}
}

// A Cut counts programs and erases alone: no Mount, no Read, no time without power takes it back; and it is met once.
func TestD3CutStays(t *testing.T) {
	r := newRig(t, full(1, 6, 2, 24, 0))
	r.fill()
	r.setCut(1)
	r.readAll()
	r.mount()
	r.mount()
	r.readAll()
	r.d.Size()
	r.state()
	if r.churn(rand.New(rand.NewSource(1)), 100) != api.ErrPower {
		r.fatal("the cut was taken back")
	}
	r.setCut(1) // without power: it is met when there is some
	r.flush()
	r.mount()
	if r.churn(rand.New(rand.NewSource(2)), 100) != api.ErrPower {
		r.fatal("the cut without power was not met")
	}
	r.mount()
	if told := r.churn(rand.New(rand.NewSource(3)), 100); told != api.OK {
		r.fatal("%v without a cut", told)
	}
	r.readAll()
}

// What was flushed is there behind any loss, whatever was written behind it elsewhere.
func TestD3FlushedStays(t *testing.T) {
	for i, p := range small() {
		if p.lbas < 2 {
			continue
		}
		for n := 1; n < 40; n++ {
			random := rand.New(rand.NewSource(int64(1000*i + n)))
			r := newRig(t, p)
			r.fill()
			r.trim(1)
			r.flush()
			want0, want1 := r.filled(1000), make([]byte, r.d.Size())
			for range r.g.Pages {
				r.setCut(n)
				for range 30 {
					if r.lbas > 2 && r.write(2+random.Intn(r.lbas-2), r.filled(random.Int())) != api.OK || r.flush() != api.OK {
						break
					}
				}
				r.mount()
				got0, _ := r.d.Read(0)
				got1, _ := r.d.Read(1)
				if !bytes.Equal(got0, want0) || !bytes.Equal(got1, want1) {
					r.fatal("what was flushed reads as %v, %v", got0, got1)
				}
			}
		}
	}
}

// What a Read behind Mount told is read again behind the next one, also if it was written behind the Mount, and never flushed.
func TestD3ReadStays(t *testing.T) {
	for i, p := range small() {
		r := newRig(t, p)
		random := rand.New(rand.NewSource(int64(i)))
		r.fill()
		for round := range 60 {
			r.mount()
			r.readAll()
			r.setCut(1 + random.Intn(6))
			lba := random.Intn(r.lbas)
			if r.write(lba, r.filled(random.Int())) == api.OK {
				r.read(lba)
			}
			if round%2 == 0 {
				r.trim(random.Intn(r.lbas))
			}
			if r.off {
				r.mount()
			}
			r.readAll()
		}
	}
}

func TestD3MountManyTimes(t *testing.T) {
	for i, p := range small() {
		r := newRig(t, p)
		random := rand.New(rand.NewSource(int64(i)))
		r.churn(random, 200)
		for range 300 {
			r.mount()
			r.read(random.Intn(r.lbas))
		}
		for range 100 {
			r.mount()
			if told := r.churn(random, 5); told != api.OK {
				r.fatal("told %v", told)
			}
		}
		r.readAll()
	}
}

func TestD4WhichFailsCount(t *testing.T) {
	p := full(1, 9, 2, 24, 3)
	// ends does much behind some Fails, and tells how many blocks are bad behind that, and what was told last.
	ends := func(fails ...int) (int, api.Errno) {
		r := newRig(t, p)
		r.churn(rand.New(rand.NewSource(5)), 50)
		for _, n := range fails {
			r.setFails(n)
		}
		told := r.churn(rand.New(rand.NewSource(6)), 400)
		r.readAll()
		return r.bad, told
	}
	for _, c := range []struct {
		fails []int
		bad   int
		told  api.Errno
	}{
		{nil, 0, api.OK},
		{[]int{0}, 0, api.OK},
		{[]int{-1}, 0, api.OK},
		{[]int{math.MinInt}, 0, api.OK},
		{[]int{1}, 1, api.OK},
		{[]int{3}, 3, api.OK},
		{[]int{4}, 4, api.ErrLatched},
		{[]int{5}, 4, api.ErrLatched},
		{[]int{math.MaxInt}, 4, api.ErrLatched},
		{[]int{4, 0}, 0, api.OK},
		{[]int{4, -1}, 0, api.OK},
		{[]int{4, 2}, 2, api.OK},
		{[]int{2, 2}, 2, api.OK},
		{[]int{0, 4}, 4, api.ErrLatched},
		{[]int{math.MaxInt, math.MinInt}, 0, api.OK},
	} {
		if bad, told := ends(c.fails...); bad != c.bad || told != c.told {
			t.Errorf("behind Fails of %v: %d bad, %v, want %d, %v", c.fails, bad, told, c.bad, c.told)
		}
	}
}

// Erases that fail one by one, as spare lets, with much between them, leave a disk as good as it was; one more latches it.
func TestD4OneByOne(t *testing.T) {
	for i, p := range small() {
		random := rand.New(rand.NewSource(int64(i)))
		r := newRig(t, p)
		r.fill()
		for want := 1; want <= r.spare; want++ {
			r.setFails(1)
			r.till(func() bool { return r.bad == want }, func() { r.churn(random, 10) })
			if told := r.churn(random, 300); told != api.OK {
				r.fatal("told %v", told)
			}
			r.mount()
			r.readAll()
		}
		if r.bad != r.spare || r.latched() {
			r.fatal("%d bad", r.bad)
		}
		r.setFails(1)
		r.till(r.latched, func() { r.churn(random, 1) })
		if r.bad != r.spare+1 {
			r.fatal("%d bad", r.bad)
		}
	}
}

func TestD4Latched(t *testing.T) {
	for i, p := range small() {
		for seed := range 20 {
			random := rand.New(rand.NewSource(int64(100*i + seed)))
			r := newRig(t, p)
			r.churn(random, 40*seed)
			if seed%2 == 0 {
				r.mount()
			}
			r.latch()
			r.readAll()
			// Nothing is programmed or erased any more: so no Cut is met.
			r.setCut(1)
			r.setFails(3)
			for range 20 {
				lba := random.Intn(r.lbas)
				for _, told := range []api.Errno{r.write(lba, r.filled(1)), r.trim(lba), r.flush()} {
					if told != api.ErrLatched {
						r.fatal("told %v", told)
					}
				}
			}
			r.readAll()
			// It stays so, and reads so, behind Mount as well.
			r.setFails(0)
			for range 3 {
				r.mount()
				r.readAll()
				if r.write(0, r.filled(2)) != api.ErrLatched || r.flush() != api.ErrLatched || r.trim(0) != api.ErrLatched {
					r.fatal("latched no longer")
				}
			}
			if bad, latched, off := r.d.State(); bad != r.spare+1 || !latched || off {
				r.fatal("State: %v, %v, %v", bad, latched, off)
			}
			r.readAll()
		}
	}
}

// State tells how many are bad without power, too.
func TestD4StateWithoutPower(t *testing.T) {
	r := newRig(t, full(1, 8, 2, 24, 2))
	r.fill()
	r.setFails(2)
	r.churn(rand.New(rand.NewSource(1)), 200)
	r.setCut(1)
	r.churn(rand.New(rand.NewSource(2)), 200)
	if bad, latched, off := r.d.State(); bad != 2 || latched || !off {
		t.Errorf("State: %v, %v, %v", bad, latched, off)
	}
	r.mount()
	if bad, latched, off := r.d.State(); bad != 2 || latched || off {
		t.Errorf("State behind Mount: %v, %v, %v", bad, latched, off)
	}
}

// An erase that is both cut and to fail is torn: power is lost; and as many fail as were asked for.
func TestD4CutAndFails(t *testing.T) {
	p := full(1, 8, 2, 24, 2)
	for n := 1; n < 60; n++ {
		r := newRig(t, p)
		r.fill()
		r.setFails(2)
		r.setCut(n)
		if r.churn(rand.New(rand.NewSource(int64(n))), 300) != api.ErrPower {
			r.fatal("the cut was not met")
		}
		r.mount()
		r.readAll()
		if told := r.churn(rand.New(rand.NewSource(int64(n))), 300); told != api.OK || r.bad != 2 {
			r.fatal("told %v, %d bad", told, r.bad)
		}
	}
}

// Room never lacks: full disks, on which as many erases fail as spare lets, and power is lost as often as D5 says, at chosen and at random times.
func TestD5Room(t *testing.T) {
	plans := append(small(), full(1, 5, 3, 24, 0), full(1, 5, 4, 24, 0), full(1, 12, 4, 24, 7), full(1, 16, 2, 24, 11), full(2, 3, 16, 24, 0), full(2, 5, 16, 24, 4))
	for i, p := range plans {
		for seed := range 30 {
			roomHistory(t, p, rand.New(rand.NewSource(int64(1000*i+seed))))
		}
	}
}

func roomHistory(t *testing.T, p plan, random *rand.Rand) {
	t.Helper()
	r := newRig(t, p)
	r.fill()
	// Power goes either now and then, or all at once; and erases fail either so, or so.
	burst, reach := random.Intn(2) == 0, 1+random.Intn(2*p.g.Pages+2)
	failing := random.Intn(3)
	if failing == 0 {
		r.setFails(p.spare)
	}
	for r.losses < p.g.Pages {
		if failing == 1 && r.bad < p.spare && r.fails == 0 {
			r.setFails(1 + random.Intn(p.spare-r.bad))
		}
		if !burst && r.churn(random, random.Intn(80)) != api.OK {
			r.fatal("not well without a cut")
		}
		if random.Intn(6) == 0 {
			r.mount()
			continue
		}
		r.setCut(1 + random.Intn(reach))
		r.till(r.isOff, func() {
			r.write(random.Intn(r.lbas), r.filled(random.Int()))
			r.flush()
		})
		r.mount()
		r.read(random.Intn(r.lbas))
	}
	r.setFails(p.spare - r.bad)
	if told := r.churn(random, 20*p.g.Dies*p.g.Blocks*p.g.Pages); told != api.OK {
		r.fatal("told %v", told)
	}
	if r.latched() {
		r.fatal("%d bad", r.bad)
	}
	r.readAll()
}

// Room does not lack where power is lost, as often as D5 says, at every next program or erase while one block is emptied.
func TestD5EveryProgramTorn(t *testing.T) {
	for i, p := range append(small(), full(2, 3, 16, 24, 0), full(1, 7, 16, 24, 1)) {
		for ahead := range 3 * p.g.Pages {
			for reach := 1; reach <= 1+p.g.Pages/3; reach++ {
				random := rand.New(rand.NewSource(int64(i)))
				r := newRig(t, p)
				r.fill()
				r.setFails(p.spare)
				r.fill()
				for range ahead + 2*p.g.Dies*p.g.Blocks*p.g.Pages {
					r.write(random.Intn(r.lbas), r.filled(random.Int()))
				}
				for r.losses < p.g.Pages {
					r.setCut(reach)
					r.till(r.isOff, func() { r.write(random.Intn(r.lbas), r.filled(random.Int())) })
					r.mount()
				}
				r.readAll()
				if told := r.churn(random, 4*p.g.Dies*p.g.Blocks*p.g.Pages); told != api.OK {
					r.fatal("told %v", told)
				}
				r.readAll()
			}
		}
	}
}

// All erases that spare lets fail do so one behind the other, on the fullest of disks.
func TestD5AllFailAtOnce(t *testing.T) {
	for i, p := range []plan{full(1, 12, 4, 24, 7), full(1, 16, 16, 24, 11), full(1, 16, 8, 24, 4), full(4, 16, 4, 24, 59), full(4, 16, 4, 24, 30), full(2, 16, 3, 24, 1)} {
		for seed := range 5 {
			random := rand.New(rand.NewSource(int64(10*i + seed)))
			r := newRig(t, p)
			r.fill()
			// Each lba is written once a round, so that what is live lies as thick as it can.
			for range 1 + seed {
				for _, lba := range random.Perm(r.lbas) {
					r.write(lba, r.filled(random.Int()))
				}
			}
			r.setFails(p.spare)
			if told := r.churn(random, 3000); told != api.OK || r.bad != p.spare {
				r.fatal("told %v, %d bad", told, r.bad)
			}
			r.readAll()
			r.mount()
			r.readAll()
		}
	}
}

// All erases that spare lets fail do so while what is live lies thin, in all blocks alike: so each of them has been emptied of something for nothing.
func TestD5AllFailWhereItLiesThin(t *testing.T) {
	for _, p := range []plan{full(4, 16, 4, 24, 30), full(4, 16, 4, 24, 50), full(1, 16, 8, 24, 6), full(1, 16, 2, 24, 6), full(2, 16, 16, 24, 15)} {
		for again := 1; again <= 3; again++ {
			r := newRig(t, p)
			for lba := 1; lba < r.lbas; lba++ {
				r.write(lba, r.filled(lba))
				for i := range again {
					r.write(0, r.filled(1000*lba+i))
				}
			}
			r.setFails(p.spare)
			for i := range 4 * p.g.Dies * p.g.Blocks * p.g.Pages {
				if told := r.write(0, r.filled(i)); told != api.OK {
					r.fatal("told %v", told)
				}
			}
			if r.bad != p.spare {
				r.fatal("%d bad", r.bad)
			}
			r.readAll()
			r.mount()
			r.readAll()
		}
	}
}

// Far more losses than D5 says: nothing is promised of room, but all of the rest is.
func TestD3ManyLosses(t *testing.T) {
	for i, p := range small() {
		random := rand.New(rand.NewSource(int64(i)))
		r := newRig(t, p)
		for range 400 {
			if random.Intn(10) == 0 && r.bad+r.fails < r.spare {
				r.setFails(1)
			}
			r.setCut(random.Intn(3 * p.g.Pages))
			r.churn(random, 20)
			r.read(random.Intn(r.lbas))
			r.mount()
			if random.Intn(2) == 0 {
				r.readAll()
			}
		}
	}
}

// Two disks of which the same was asked tell the same, and none hangs on another, at the same time as well.
func TestP2Determined(t *testing.T) {
	for i, p := range small() {
		logs := make([][]string, 4)
		var group sync.WaitGroup
		for k := range logs {
			group.Go(func() {
				r := newRig(t, p)
				random := rand.New(rand.NewSource(int64(i)))
				for range 30 {
					r.setCut(random.Intn(40))
					r.setFails(random.Intn(3) / 2)
					r.churn(random, 30)
					r.mount()
					for lba := range r.lbas {
						data, err := r.d.Read(lba)
						bad, latched, off := r.d.State()
						r.note("%v %v %v %v %v", data, err, bad, latched, off)
					}
				}
				logs[k] = r.log
			})
		}
		group.Wait()
		for k := range logs {
			if !slices.Equal(logs[k], logs[0]) {
				t.Errorf("%v: the same calls tell otherwise", p)
			}
		}
	}
}

// fuzzPlan makes a small plan of four numbers.
func fuzzPlan(a, b, c, e byte) plan {
	spare := int(a % 4)
	blocks := spare + extra + 1 + int(b%4)
	pages := 1 + int(c%5)
	p := full(1, min(blocks, 16), pages, 24+8*int(e%3), spare)
	p.lbas -= int(e/3) % p.lbas
	return p
}

// FuzzDisk takes bytes for calls, of a disk that the first of them shape.
func FuzzDisk(f *testing.F) {
	f.Add([]byte{})
	f.Add([]byte{0, 0, 1, 0, 10, 1, 20, 1, 30, 0, 50, 1, 30, 0})
	for seed := range 20 {
		calls := make([]byte, 400)
		rand.New(rand.NewSource(int64(seed))).Read(calls)
		f.Add(calls)
	}
	f.Fuzz(func(t *testing.T, calls []byte) {
		if len(calls) < 4 || len(calls) > 4000 {
			return
		}
		r := newRig(t, fuzzPlan(calls[0], calls[1], calls[2], calls[3]))
		for calls = calls[4:]; len(calls) > 1; calls = calls[2:] {
			number := int(calls[1])
			lba := number % r.lbas
			switch calls[0] % 16 {
			case 0:
				r.trim(lba)
			case 1, 2, 3:
				r.flush()
			case 4, 5:
				r.read(lba)
			case 6:
				r.setCut(number - 2)
			case 7:
				r.setCut(number%8 + 1)
			case 8:
				r.setFails(number%4 - 1)
			case 9:
				r.mount()
			default:
				r.write(lba, r.filled(len(calls)+1))
			}
		}
		if r.off {
			r.mount()
		}
		r.readAll()
		r.mount()
		r.readAll()
	})
}
