package pool_test

import (
	"fmt"
	"math"
	"math/rand"
	"slices"
	"testing"

	"granary/api"
	"granary/plain"
	"granary/pool"
)

func mustNew(t *testing.T, n, spare int) *pool.Pool {
	t.Helper()
	p, err := pool.New(n, spare)
	if err != nil || p == nil {
		t.Fatalf("New(%d, %d): %v, %v", n, spare, p, err)
	}
	return p
}

func wantErr(t *testing.T, name string, err error, want api.Errno) {
	t.Helper()
	if got := plain.Told(err); got != want {
		t.Errorf("%s: got %v, want %v", name, got, want)
	}
}

func wantTake(t *testing.T, name string, p *pool.Pool, want int) {
	t.Helper()
	if got, err := p.Take(); got != want || err != nil {
		t.Errorf("%s: Take: got %d, %v, want %d", name, got, err, want)
	}
}

// wantNoTake asks that Take answers an error, and 0 beside it.
func wantNoTake(t *testing.T, name string, p *pool.Pool, want api.Errno) {
	t.Helper()
	got, err := p.Take()
	if plain.Told(err) != want || got != 0 {
		t.Errorf("%s: Take: got %d, %v, want 0, %v", name, got, err, want)
	}
}

func takeAll(t *testing.T, p *pool.Pool, n int) {
	t.Helper()
	for b := range n {
		wantTake(t, "take all", p, b)
	}
}

// look is all that a pool tells of itself and does not change by it.
type look struct {
	Free, Used, Bad int
	Worn            []int
	Latched         bool
}

func (l look) same(o look) bool {
	return l.Free == o.Free && l.Used == o.Used && l.Bad == o.Bad && l.Latched == o.Latched && slices.Equal(l.Worn, o.Worn)
}

func lookAt(t *testing.T, p *pool.Pool, n int) look {
	t.Helper()
	var l look
	l.Free, l.Used, l.Bad = p.Count()
	if l.Free < 0 || l.Used < 0 || l.Bad < 0 || l.Free+l.Used+l.Bad != n {
		t.Errorf("Count: %d, %d, %d of %d blocks", l.Free, l.Used, l.Bad, n)
	}
	for b := range n {
		worn, err := p.Worn(b)
		if err != nil {
			t.Fatalf("Worn(%d): %v", b, err)
		}
		l.Worn = append(l.Worn, worn)
	}
	l.Latched = p.Latched()
	return l
}

func wantLook(t *testing.T, name string, p *pool.Pool, want look) {
	t.Helper()
	if got := lookAt(t, p, len(want.Worn)); !got.same(want) {
		t.Errorf("%s: got %v, want %v", name, got, want)
	}
}

// model is what the chapter says, without a heap: blocks are gone through one by one.
type model struct {
	spare  int
	worn   []int
	states []byte // 'f', 'u' or 'b'
}

func newModel(n, spare int) *model {
	return &model{spare: spare, worn: make([]int, n), states: slices.Repeat([]byte{'f'}, n)}
}

func (m *model) count(state byte) int {
	count := 0
	for _, s := range m.states {
		if s == state {
			count++
		}
	}
	return count
}

func (m *model) latched() bool { return m.count('b') > m.spare }

func (m *model) look() look {
	return look{m.count('f'), m.count('u'), m.count('b'), slices.Clone(m.worn), m.latched()}
}

func (m *model) take() (int, api.Errno) {
	if m.latched() {
		return 0, api.ErrLatched
	}
	best := -1
	for b, s := range m.states {
		if s == 'f' && (best < 0 || m.worn[b] < m.worn[best]) {
			best = b
		}
	}
	if best < 0 {
		return 0, api.ErrNone
	}
	m.states[best] = 'u'
	return best, api.OK
}

func (m *model) refuse(b int) api.Errno {
	switch {
	case m.latched():
		return api.ErrLatched
	case b < 0 || b >= len(m.states):
		return api.ErrRange
	case m.states[b] != 'u':
		return api.ErrState
	}
	return api.OK
}

func (m *model) give(b int) api.Errno {
	if e := m.refuse(b); e != api.OK {
		return e
	}
	m.states[b] = 'f'
	m.worn[b]++
	return api.OK
}

func (m *model) retire(b int) api.Errno {
	if e := m.refuse(b); e != api.OK {
		return e
	}
	m.states[b] = 'b'
	return api.OK
}

// op is a call: 't', 'g' or 'r', of a block.
type op struct {
	call  byte
	block int
}

func (o op) String() string { return fmt.Sprintf("%c%d", o.call, o.block) }

func (m *model) do(o op) (int, api.Errno) {
	switch o.call {
	case 'g':
		return 0, m.give(o.block)
	case 'r':
		return 0, m.retire(o.block)
	}
	return m.take()
}

func do(p *pool.Pool, o op) (int, error) {
	switch o.call {
	case 'g':
		return 0, p.Give(o.block)
	case 'r':
		return 0, p.Retire(o.block)
	}
	return p.Take()
}

// step does a call on both, and asks that they answer alike.
func step(t *testing.T, name string, p *pool.Pool, m *model, o op) {
	t.Helper()
	want, e := m.do(o)
	got, err := do(p, o)
	if got != want || plain.Told(err) != e {
		t.Errorf("%s: %v: got %d, %v, want %d, %v", name, o, got, err, want, e)
	}
}

// drain takes all that is free and gives back all that is used, twice: so all that a pool hides comes out.
func drain(t *testing.T, name string, p *pool.Pool, m *model) {
	t.Helper()
	for range 2 {
		for range len(m.worn) + 1 {
			step(t, name, p, m, op{'t', 0})
		}
		for b := range m.worn {
			step(t, name, p, m, op{'g', b})
		}
	}
	wantLook(t, name, p, m.look())
}

// P1

func TestNewOfEachNumber(t *testing.T) {
	numbers := []int{math.MinInt, math.MinInt + 1, -1 << 32, -64, math.MaxInt, math.MaxInt - 1, 1<<32 + 1, 1 << 62}
	for i := -2; i <= 130; i++ {
		numbers = append(numbers, i)
	}
	for _, n := range numbers {
		for _, spare := range numbers {
			p, err := pool.New(n, spare)
			if n >= 1 && n <= 64 && spare >= 0 && spare <= n {
				if p == nil || err != nil {
					t.Errorf("New(%d, %d): %v, %v", n, spare, p, err)
				}
				continue
			}
			wantErr(t, fmt.Sprintf("New(%d, %d)", n, spare), err, api.ErrRange)
			if p != nil {
				t.Errorf("New(%d, %d) gave a pool beside its error", n, spare)
			}
		}
	}
}

func TestNewIsFreeAndNotWorn(t *testing.T) {
	for n := 1; n <= api.MaxBlocks; n++ {
		for _, spare := range []int{0, n / 2, n} {
			name := fmt.Sprintf("New(%d, %d)", n, spare)
			p := mustNew(t, n, spare)
			wantLook(t, name, p, look{Free: n, Worn: make([]int, n)})
			for b := range n {
				wantErr(t, name+": Give of a free one", p.Give(b), api.ErrState)
			}
			takeAll(t, p, n)
			wantNoTake(t, name, p, api.ErrNone)
			wantLook(t, name, p, look{Used: n, Worn: make([]int, n)})
		}
	}
}

// P2

// wornPool gives a pool whose blocks are free and worn as often as told, once at least.
// While one alone is free, it is the one that is taken, so each can be worn by itself.
func wornPool(t *testing.T, spare int, worn ...int) *pool.Pool {
	t.Helper()
	p := mustNew(t, len(worn), spare)
	takeAll(t, p, len(worn))
	for b, times := range worn {
		for range times - 1 {
			wantErr(t, "wear", p.Give(b), api.OK)
			wantTake(t, "wear", p, b)
		}
	}
	for b := range worn {
		wantErr(t, "wear", p.Give(b), api.OK)
	}
	wantLook(t, "worn", p, look{Free: len(worn), Worn: worn})
	return p
}

func TestTakesTheLeastWorn(t *testing.T) {
	for _, x := range []struct{ worn, want []int }{
		{[]int{1}, []int{0}},
		{[]int{2, 1}, []int{1, 0}},
		{[]int{1, 2}, []int{0, 1}},
		{[]int{1, 1, 1}, []int{0, 1, 2}},
		{[]int{3, 1, 2, 1}, []int{1, 3, 2, 0}},
		{[]int{2, 2, 1, 2}, []int{2, 0, 1, 3}},
		{[]int{5, 4, 3, 2, 1}, []int{4, 3, 2, 1, 0}},
		{[]int{4, 4, 2, 2, 3, 3, 1, 1}, []int{6, 7, 2, 3, 4, 5, 0, 1}},
		{[]int{300, 1, 256, 44, 1, 300, 257}, []int{1, 4, 3, 2, 6, 0, 5}},
	} {
		p := wornPool(t, 0, x.worn...)
		for i, want := range x.want {
			wantTake(t, fmt.Sprint(x.worn), p, want)
			wantLook(t, "take", p, look{Free: len(x.worn) - i - 1, Used: i + 1, Worn: x.worn})
		}
		wantNoTake(t, fmt.Sprint(x.worn), p, api.ErrNone)
	}
}

func TestTakesTheLeastWornOfAllPools(t *testing.T) {
	r := rand.New(rand.NewSource(4))
	for n := 1; n <= api.MaxBlocks; n++ {
		m := newModel(n, 0)
		for b := range m.worn {
			m.worn[b] = 1 + r.Intn(1+n/4)
		}
		drain(t, fmt.Sprint(m.worn), wornPool(t, 0, m.worn...), m)
	}
}

func TestGiveWearsAndRetireDoesNot(t *testing.T) {
	p := wornPool(t, 2, 1, 3, 2)
	for _, b := range []int{0, 2, 1} {
		wantTake(t, "all", p, b)
	}
	wantErr(t, "Give", p.Give(2), api.OK)
	wantLook(t, "Give", p, look{Free: 1, Used: 2, Worn: []int{1, 3, 3}})
	wantErr(t, "Retire", p.Retire(1), api.OK)
	wantLook(t, "Retire", p, look{Free: 1, Used: 1, Bad: 1, Worn: []int{1, 3, 3}})
	wantErr(t, "Give", p.Give(0), api.OK)
	wantLook(t, "Give", p, look{Free: 2, Bad: 1, Worn: []int{2, 3, 3}})
	wantTake(t, "what is left", p, 0)
	wantTake(t, "what is left", p, 2)
	wantNoTake(t, "the bad one is not taken", p, api.ErrNone)
}

// beyond are no blocks of a pool of n.
func beyond(n int) []int {
	return []int{math.MinInt, -n, -1, n, n + 1, 1 << 32, math.MaxInt}
}

func TestNoSuchBlock(t *testing.T) {
	for _, n := range []int{1, 2, 63, 64} {
		p, m := mustNew(t, n, n), newModel(n, n)
		for range n {
			step(t, "all used", p, m, op{'t', 0})
		}
		before := lookAt(t, p, n)
		for _, b := range beyond(n) {
			name := fmt.Sprintf("block %d of %d", b, n)
			wantErr(t, name+": Give", p.Give(b), api.ErrRange)
			wantErr(t, name+": Retire", p.Retire(b), api.ErrRange)
			worn, err := p.Worn(b)
			wantErr(t, name+": Worn", err, api.ErrRange)
			if worn != 0 {
				t.Errorf("%s: Worn told %d beside an error", name, worn)
			}
		}
		wantLook(t, "refused", p, before)
		drain(t, "refused", p, m)
	}
}

func TestFirstAndLastBlock(t *testing.T) {
	for _, n := range []int{1, 2, 63, 64} {
		for _, b := range []int{0, n - 1} {
			p, m := mustNew(t, n, n), newModel(n, n)
			for range n {
				step(t, "all used", p, m, op{'t', 0})
			}
			name := fmt.Sprintf("block %d of %d", b, n)
			wantErr(t, name+": Give", p.Give(b), api.OK)
			wantTake(t, name, p, b)
			if worn, err := p.Worn(b); worn != 1 || err != nil {
				t.Errorf("%s: Worn: %d, %v", name, worn, err)
			}
			wantErr(t, name+": Retire", p.Retire(b), api.OK)
			m.worn[b], m.states[b] = 1, 'b'
			wantLook(t, name, p, m.look())
			drain(t, name, p, m)
		}
	}
}

// mixed gives a pool of which 0 is bad, 1 used, 2 free, 3 used, 4 free and worn, and what is said of it.
func mixed(t *testing.T, spare int) (*pool.Pool, *model) {
	t.Helper()
	p, m := mustNew(t, 5, spare), newModel(5, spare)
	for _, o := range []op{{'t', 0}, {'t', 0}, {'t', 0}, {'t', 0}, {'t', 0}, {'g', 4}, {'t', 0}, {'g', 4}, {'g', 2}, {'r', 0}} {
		step(t, "mixed", p, m, o)
	}
	if string(m.states) != "bufuf" || fmt.Sprint(m.worn) != "[0 0 1 0 2]" {
		t.Fatalf("mixed: %s, %v", m.states, m.worn)
	}
	return p, m
}

func TestBlocksOfEachStateForEachCall(t *testing.T) {
	for _, x := range []struct {
		o    op
		want api.Errno
	}{
		{op{'g', 0}, api.ErrState}, {op{'r', 0}, api.ErrState},
		{op{'g', 1}, api.OK}, {op{'r', 1}, api.OK},
		{op{'g', 2}, api.ErrState}, {op{'r', 2}, api.ErrState},
		{op{'g', 3}, api.OK}, {op{'r', 3}, api.OK},
		{op{'g', 4}, api.ErrState}, {op{'r', 4}, api.ErrState},
		{op{'g', -1}, api.ErrRange}, {op{'r', -1}, api.ErrRange},
		{op{'g', 5}, api.ErrRange}, {op{'r', 5}, api.ErrRange},
	} {
		p, m := mixed(t, 2)
		was := lookAt(t, p, 5)
		_, err := do(p, x.o)
		wantErr(t, x.o.String(), err, x.want)
		again := x.want
		if x.want == api.OK {
			again = api.ErrState
			m.do(x.o)
		} else {
			wantLook(t, x.o.String()+" is refused", p, was)
		}
		_, err = do(p, x.o)
		wantErr(t, x.o.String()+" again", err, again)
		drain(t, x.o.String(), p, m)
	}
}

func TestNoneIsFree(t *testing.T) {
	p, m := mustNew(t, 3, 3), newModel(3, 3)
	for range 3 {
		step(t, "all", p, m, op{'t', 0})
	}
	for _, o := range []op{{'r', 1}, {'r', 0}, {'r', 2}} {
		for range 3 {
			wantNoTake(t, "none", p, api.ErrNone)
		}
		wantLook(t, "none", p, m.look())
		step(t, "none", p, m, o)
	}
	wantNoTake(t, "all are bad, and may be", p, api.ErrNone)
	wantErr(t, "Give", p.Give(0), api.ErrState)
	wantErr(t, "Retire", p.Retire(0), api.ErrState)
	wantErr(t, "Give", p.Give(3), api.ErrRange)
	wantErr(t, "Retire", p.Retire(-1), api.ErrRange)
	wantLook(t, "all are bad", p, look{Bad: 3, Worn: []int{0, 0, 0}})
}

func TestLatchedComesFirst(t *testing.T) {
	p, m := mixed(t, 1)
	step(t, "latch", p, m, op{'r', 3})
	want := look{Free: 2, Used: 1, Bad: 2, Worn: []int{0, 0, 1, 0, 2}, Latched: true}
	wantLook(t, "latched", p, want)
	for range 2 {
		for _, b := range append(beyond(5), 0, 1, 2, 3, 4) {
			name := fmt.Sprintf("latched, block %d", b)
			wantNoTake(t, name, p, api.ErrLatched)
			wantErr(t, name+": Give", p.Give(b), api.ErrLatched)
			wantErr(t, name+": Retire", p.Retire(b), api.ErrLatched)
			wantLook(t, name, p, want)
		}
	}
	for _, b := range beyond(5) {
		worn, err := p.Worn(b)
		if plain.Told(err) != api.ErrRange || worn != 0 {
			t.Errorf("latched: Worn(%d): got %d, %v", b, worn, err)
		}
	}
}

func TestLatchedAheadOfNone(t *testing.T) {
	p := mustNew(t, 1, 0)
	wantTake(t, "one", p, 0)
	wantNoTake(t, "none", p, api.ErrNone)
	wantErr(t, "Retire", p.Retire(0), api.OK)
	wantNoTake(t, "none, and latched", p, api.ErrLatched)
	wantLook(t, "latched", p, look{Bad: 1, Worn: []int{0}, Latched: true})
}

func TestChaptersExample(t *testing.T) {
	p := mustNew(t, 2, 0)
	wantTake(t, "first", p, 0)
	wantErr(t, "Give", p.Give(0), api.OK)
	wantTake(t, "second", p, 1)
	wantErr(t, "Retire", p.Retire(1), api.OK)
	wantNoTake(t, "third", p, api.ErrLatched)
	wantLook(t, "latched", p, look{Free: 1, Bad: 1, Worn: []int{1, 0}, Latched: true})
}

// P3

func TestLatchedBeyondSpare(t *testing.T) {
	for _, n := range []int{1, 2, 5, 64} {
		for spare := 0; spare <= n; spare++ {
			p := mustNew(t, n, spare)
			takeAll(t, p, n)
			for b := range n {
				want := api.OK
				if b > spare {
					want = api.ErrLatched
				}
				wantErr(t, fmt.Sprintf("%d of %d, spare %d", b, n, spare), p.Retire(b), want)
				count := min(b+1, spare+1)
				wantLook(t, "retired", p, look{Used: n - count, Bad: count, Worn: make([]int, n), Latched: count > spare})
			}
		}
	}
}

func TestAskingChangesNothing(t *testing.T) {
	p, m := mixed(t, 1)
	for range 3 {
		wantLook(t, "asked", p, m.look())
		p.Worn(-1)
		p.Worn(5)
	}
	drain(t, "asked", p, m)
}

// P4

func TestWearsEvenly(t *testing.T) {
	for n := 1; n <= api.MaxBlocks; n++ {
		p := mustNew(t, n, 0)
		for turn := range 5*n + 3 {
			b, err := p.Take()
			if err != nil {
				t.Fatalf("Take %d of %d: %v", turn, n, err)
			}
			wantErr(t, "Give", p.Give(b), api.OK)
			l := lookAt(t, p, n)
			if low, high := slices.Min(l.Worn), slices.Max(l.Worn); high-low > 1 || low != (turn+1)/n {
				t.Fatalf("turn %d of %d: worn %v", turn, n, l.Worn)
			}
		}
	}
}

// What is said of the whole, and not of this chapter alone.

func TestPoolsAreApart(t *testing.T) {
	one, other := mustNew(t, 3, 0), mustNew(t, 3, 0)
	takeAll(t, one, 3)
	wantErr(t, "Give", one.Give(0), api.OK)
	wantErr(t, "Retire", one.Retire(2), api.OK)
	wantLook(t, "the other", other, look{Free: 3, Worn: []int{0, 0, 0}})
	takeAll(t, other, 3)
}

// opsOf are all calls on a pool of n, of the blocks one beyond it too.
func opsOf(n int) []op {
	ops := []op{{'t', 0}}
	for b := -1; b <= n; b++ {
		ops = append(ops, op{'g', b}, op{'r', b})
	}
	return ops
}

// TestAllShortRuns does all runs of so many calls on the smallest pools.
func TestAllShortRuns(t *testing.T) {
	for n, long := range map[int]int{1: 5, 2: 5, 3: 4} {
		for spare := 0; spare <= n; spare++ {
			ops := opsOf(n)
			for run := range power(len(ops), long) {
				p, m := mustNew(t, n, spare), newModel(n, spare)
				var done []op
				for range long {
					o := ops[run%len(ops)]
					run /= len(ops)
					done = append(done, o)
					step(t, "short run", p, m, o)
				}
				wantLook(t, "short run", p, m.look())
				drain(t, "short run", p, m)
				if t.Failed() {
					t.Fatalf("%d blocks, spare %d: %v", n, spare, done)
				}
			}
		}
	}
}

func power(base, times int) int {
	product := 1
	for range times {
		product *= base
	}
	return product
}

func TestLongRuns(t *testing.T) {
	for seed := range 200 {
		r := rand.New(rand.NewSource(int64(seed)))
		n := 1 + r.Intn(api.MaxBlocks)
		spare := r.Intn(n + 1)
		p, m := mustNew(t, n, spare), newModel(n, spare)
		rare := 2 + r.Intn(200)
		for i := range 600 {
			o := op{'g', r.Intn(n+2) - 1}
			if r.Intn(5) < 2 {
				o.call = 't'
			} else if r.Intn(rare) == 0 {
				o.call = 'r'
			}
			step(t, fmt.Sprintf("seed %d, step %d", seed, i), p, m, o)
			wantLook(t, fmt.Sprintf("seed %d, step %d", seed, i), p, m.look())
			if t.Failed() {
				t.FailNow()
			}
		}
		drain(t, fmt.Sprintf("seed %d", seed), p, m)
	}
}
