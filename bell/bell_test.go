package bell_test

import (
	"fmt"
	"math"
	"math/rand"
	"testing"

	"granary/api"
	"granary/bell"
	"granary/plain"
)

// The numbers as the chapter has them.
const (
	greatLimit = 64
	greatDelay = 1000
)

// wantNew asks for an error of New, beside which there is no bell.
func wantNew(t *testing.T, limit, delay int, want api.Errno) {
	t.Helper()
	b, err := bell.New(limit, delay)
	if got := plain.Told(err); got != want {
		t.Errorf("New(%d, %d): got %v, want %v", limit, delay, got, want)
	}
	if (b == nil) != (want != api.OK) {
		t.Errorf("New(%d, %d): bell %v beside %v", limit, delay, b, err)
	}
}

func made(t *testing.T, limit, delay int) *bell.Bell {
	t.Helper()
	b, err := bell.New(limit, delay)
	if err != nil || b == nil {
		t.Fatalf("New(%d, %d): %v, %v", limit, delay, b, err)
	}
	return b
}

func wantBell(t *testing.T, name string, b *bell.Bell, rings, waits int) {
	t.Helper()
	if b.Rings() != rings || b.Waits() != waits {
		t.Errorf("%s: got %d rings, %d wait; want %d, %d", name, b.Rings(), b.Waits(), rings, waits)
	}
}

// do calls as a text says: p is a Post, t a Tick, m puts the mask on, u takes it off.
func do(b *bell.Bell, calls string) {
	for i := range len(calls) {
		call(b, calls[i])
	}
}

func call(b *bell.Bell, name byte) {
	switch name {
	case 'p':
		b.Post()
	case 't':
		b.Tick()
	case 'm':
		b.Mask(true)
	case 'u':
		b.Mask(false)
	}
}

func times(n int, do func()) {
	for range n {
		do()
	}
}

// like is what the chapter says of a bell: when each that waits was posted, by a count of all ticks, and for how many it rang each time.
type like struct {
	limit, delay int
	masked       bool
	now          int
	posted       []int
	rungFor      []int
}

func (m *like) call(name byte) {
	switch name {
	case 'p':
		m.posted = append(m.posted, m.now)
	case 't':
		m.now++
	case 'm', 'u':
		m.masked = name == 'm'
	}
	if m.masked || len(m.posted) == 0 {
		return
	}
	if len(m.posted) >= m.limit || m.now >= m.posted[0]+m.delay {
		m.rungFor = append(m.rungFor, len(m.posted))
		m.posted = nil
	}
}

// bells is a bell beside what the chapter says of it.
type bells struct {
	*bell.Bell
	like  like
	calls []byte
}

func newBells(t *testing.T, limit, delay int) *bells {
	t.Helper()
	return &bells{Bell: made(t, limit, delay), like: like{limit: limit, delay: delay}}
}

// call makes one call, and tells whether the bell is as the chapter says.
func (b *bells) call(t *testing.T, name byte) bool {
	t.Helper()
	call(b.Bell, name)
	b.like.call(name)
	b.calls = append(b.calls, name)
	if b.Rings() == len(b.like.rungFor) && b.Waits() == len(b.like.posted) {
		return true
	}
	t.Errorf("limit %d, delay %d, behind %s: got %d rings, %d wait; want %d, %d",
		b.like.limit, b.like.delay, b.calls, b.Rings(), b.Waits(), len(b.like.rungFor), len(b.like.posted))
	return false
}

func TestB1WhichLimits(t *testing.T) {
	for _, delay := range []int{0, 1, 2, 500, greatDelay - 1, greatDelay} {
		for limit := 1; limit <= greatLimit; limit++ {
			wantNew(t, limit, delay, api.OK)
		}
		for _, limit := range noLimits() {
			wantNew(t, limit, delay, api.ErrRange)
		}
	}
}

func TestB1WhichDelays(t *testing.T) {
	for _, limit := range []int{1, 2, 32, greatLimit - 1, greatLimit} {
		for delay := 0; delay <= greatDelay; delay++ {
			wantNew(t, limit, delay, api.OK)
		}
		for _, delay := range noDelays() {
			wantNew(t, limit, delay, api.ErrRange)
		}
	}
}

func TestB1BothWrong(t *testing.T) {
	for _, limit := range noLimits() {
		for _, delay := range noDelays() {
			wantNew(t, limit, delay, api.ErrRange)
		}
	}
}

// noLimits are numbers that are no limit. Some have, in their lowest bytes, one that is.
func noLimits() []int {
	return []int{0, -1, -2, -greatLimit, greatLimit + 1, greatLimit + 2, 256 + 1, greatDelay, 65536 + 1, 1<<32 + 1,
		math.MaxInt32, math.MinInt32, math.MaxInt, math.MinInt, math.MinInt + 1}
}

func noDelays() []int {
	return []int{-1, -2, -greatDelay, greatDelay + 1, greatDelay + 2, 65536, 65536 + 1, 1 << 32, 1<<32 + 1,
		math.MaxInt32, math.MinInt32, math.MaxInt, math.MinInt, math.MinInt + 1}
}

// At first nothing waits, it never rang, and it is not masked.
func TestB1Begins(t *testing.T) {
	for _, limit := range []int{1, 2, greatLimit} {
		for _, delay := range []int{0, 1, greatDelay} {
			b := made(t, limit, delay)
			name := fmt.Sprintf("limit %d, delay %d", limit, delay)
			wantBell(t, name, b, 0, 0)
			times(limit, b.Post)
			if b.Rings() == 0 || b.Waits() != 0 {
				t.Errorf("%s: %d posts: %d rings, %d wait", name, limit, b.Rings(), b.Waits())
			}
		}
	}
}

// Calls that were worked out by hand.
func TestB2Calls(t *testing.T) {
	for _, c := range []struct {
		name         string
		limit, delay int
		calls        string
		rings, waits int
	}{
		{"one fewer than the limit", 3, 9, "pp", 0, 2},
		{"as many as the limit", 3, 9, "ppp", 1, 0},
		{"one more", 3, 9, "pppp", 1, 1},
		{"twice the limit", 3, 9, "pppppp", 2, 0},
		{"a limit of 1 rings at each post", 1, 9, "pppp", 4, 0},
		{"a delay of 0 rings at each post", 9, 0, "pppp", 4, 0},
		{"a delay of 0, and a tick", 9, 0, "tptt", 1, 0},
		{"a limit of 1 and a delay of 0 ring once at a post", 1, 0, "p", 1, 0},
		{"no tick, no ring", 9, 1, "p", 0, 1},
		{"a delay of 1", 9, 1, "pt", 1, 0},
		{"one tick fewer than the delay", 9, 3, "ptt", 0, 1},
		{"as many ticks as the delay", 9, 3, "pttt", 1, 0},
		{"more ticks than the delay", 9, 3, "pttttttttt", 1, 0},
		{"ticks while nothing waits", 9, 3, "ttttt", 0, 0},
		{"ticks ahead of the first do not count", 9, 3, "tttttptt", 0, 1},
		{"the first behind ticks waits as long as any", 9, 3, "tttttpttt", 1, 0},
		{"the first counts, not the last", 9, 3, "pttpt", 1, 0},
		{"the first counts, also if one came in each tick", 9, 3, "ptptpt", 1, 0},
		{"they do not wait together", 9, 3, "pppt", 0, 3},
		{"not by the sum of what they have waited", 9, 3, "ptpt", 0, 2},
		{"behind a ring of the limit the next waits anew", 2, 3, "pttpptt", 1, 1},
		{"and its whole delay", 2, 3, "pttppttt", 2, 0},
		{"behind a ring of the delay the next waits anew", 9, 3, "ptttptt", 1, 1},
		{"and its whole delay, again", 9, 3, "ptttpttt", 2, 0},
		{"behind a ring the limit counts anew", 3, 2, "ppttpp", 1, 2},
		{"and its whole limit", 3, 2, "ppttppp", 2, 0},
		{"ticks between a ring and the next do not count", 9, 3, "ptttttttptt", 1, 1},
		{"masked, the limit does not ring", 2, 9, "mpp", 0, 2},
		{"masked, many more than the limit", 2, 9, "mppppppp", 0, 7},
		{"masked, the delay does not ring", 9, 2, "mptt", 0, 1},
		{"masked, many more than the delay", 9, 2, "mpttttttt", 0, 1},
		{"masked, a delay of 0 does not ring", 9, 0, "mp", 0, 1},
		{"masked on the way", 3, 9, "ppmpp", 0, 4},
		{"unmasked, with nothing waiting", 2, 2, "mu", 0, 0},
		{"unmasked, with nothing waiting, behind ticks", 2, 2, "mttttu", 0, 0},
		{"unmasked, with nothing waiting, and a delay of 0", 2, 0, "mttu", 0, 0},
		{"unmasked, with fewer, and not long enough", 3, 3, "mppttu", 0, 2},
		{"and then one more", 3, 3, "mppttup", 1, 0},
		{"and then a tick more", 3, 3, "mppttut", 1, 0},
		{"unmasked, with the limit", 3, 9, "mpppu", 1, 0},
		{"unmasked, with more than the limit", 3, 9, "mppppu", 1, 0},
		{"unmasked, with many times the limit: one ring", 3, 9, "mppppppppppppu", 1, 0},
		{"unmasked, with the delay", 9, 3, "mptttu", 1, 0},
		{"unmasked, with more than the delay", 9, 3, "mppttttu", 1, 0},
		{"unmasked, with many times the delay: one ring", 9, 3, "mptttttttttttttu", 1, 0},
		{"unmasked, with both: one ring", 3, 3, "mppppttttu", 1, 0},
		{"unmasked, a delay of 0", 9, 0, "mppu", 1, 0},
		{"ticks ahead of the mask count, and those behind it", 9, 3, "ptmtut", 1, 0},
		{"ticks under the mask alone do not do", 9, 3, "ptmtu", 0, 1},
		{"behind the mask's ring the next waits anew", 9, 3, "mpttttuptt", 1, 1},
		{"behind the mask's ring the limit counts anew", 3, 9, "mppppupp", 1, 2},
		{"masked twice", 2, 2, "mmppptt", 0, 3},
		{"masked twice on the way", 2, 2, "mppmtt", 0, 2},
		{"masked twice, unmasked once", 2, 9, "mmppu", 1, 0},
		{"masked twice, unmasked once, then it rings", 2, 9, "mmupp", 1, 0},
		{"unmasked twice: one ring", 2, 9, "mppuu", 1, 0},
		{"unmasked twice, masked once", 2, 9, "uumpp", 0, 2},
		{"unmasked twice, without a mask", 2, 9, "puu", 0, 1},
		{"masked, unmasked, masked", 2, 9, "mpumppp", 0, 4},
		{"masked again behind a ring", 2, 2, "mppumpptt", 1, 2},
	} {
		b := made(t, c.limit, c.delay)
		do(b, c.calls)
		wantBell(t, c.name+": "+c.calls, b, c.rings, c.waits)
	}
}

func TestB2EachLimit(t *testing.T) {
	for limit := 1; limit <= greatLimit; limit++ {
		b := made(t, limit, greatDelay)
		for round := range 3 {
			times(limit-1, b.Post)
			wantBell(t, fmt.Sprintf("limit %d, one fewer", limit), b, round, limit-1)
			b.Post()
			wantBell(t, fmt.Sprintf("limit %d, as many", limit), b, round+1, 0)
		}
	}
}

// The first waits its whole delay, each time anew, and whatever comes behind it.
func TestB2EachDelay(t *testing.T) {
	for delay := 1; delay <= greatDelay; delay++ {
		b := made(t, greatLimit, delay)
		for round := range 3 {
			times(7*round, b.Tick)
			b.Post()
			times(delay-1, b.Tick)
			times(round, b.Post)
			wantBell(t, fmt.Sprintf("delay %d, one tick fewer", delay), b, round, 1+round)
			b.Tick()
			wantBell(t, fmt.Sprintf("delay %d, as many", delay), b, round+1, 0)
		}
	}
}

// With a delay of 0 nothing ever waits, whatever the limit.
func TestB2NoDelay(t *testing.T) {
	for limit := 1; limit <= greatLimit; limit++ {
		b := made(t, limit, 0)
		for i := range 2 * limit {
			b.Post()
			wantBell(t, fmt.Sprintf("limit %d, no delay, a post", limit), b, i+1, 0)
			b.Tick()
			wantBell(t, fmt.Sprintf("limit %d, no delay, a tick", limit), b, i+1, 0)
		}
	}
}

// Ticks while nothing waits do nothing: neither at first, nor behind a ring, nor masked.
func TestB2TicksOfNothing(t *testing.T) {
	for _, delay := range []int{0, 1, 2, 10, greatDelay} {
		b := made(t, greatLimit, delay)
		name := fmt.Sprintf("delay %d", delay)
		times(2*greatDelay, b.Tick)
		wantBell(t, name+", at first", b, 0, 0)
		b.Mask(true)
		times(2*greatDelay, b.Tick)
		b.Mask(false)
		wantBell(t, name+", masked", b, 0, 0)
		b.Post()
		times(delay, b.Tick)
		wantBell(t, name+", a ring", b, 1, 0)
		times(2*greatDelay, b.Tick)
		wantBell(t, name+", behind it", b, 1, 0)
		b.Mask(true)
		b.Post()
		b.Mask(false)
		if delay > 0 {
			wantBell(t, name+", the next waits anew", b, 1, 1)
		}
	}
}

// Masked it does not ring, however much comes, and rings once for all of it when it is unmasked.
func TestB2MaskedForLong(t *testing.T) {
	for _, limit := range []int{1, 2, greatLimit} {
		for _, delay := range []int{0, 1, greatDelay} {
			for _, posts := range []int{1, limit, limit + 1, 100 * limit, 70_000} {
				b := made(t, limit, delay)
				b.Mask(true)
				times(posts, b.Post)
				times(70_000, b.Tick)
				name := fmt.Sprintf("limit %d, delay %d, %d posts", limit, delay, posts)
				wantBell(t, name+", masked", b, 0, posts)
				b.Mask(true)
				wantBell(t, name+", masked twice", b, 0, posts)
				b.Mask(false)
				wantBell(t, name+", unmasked", b, 1, 0)
				b.Mask(false)
				wantBell(t, name+", unmasked twice", b, 1, 0)
			}
		}
	}
}

// Mask off at all numbers of posts and ticks about the limit and the delay.
func TestB2Unmasked(t *testing.T) {
	const limit, delay = 4, 5
	for posts := range 3 * limit {
		for ticks := range 3 * delay {
			b := made(t, limit, delay)
			b.Mask(true)
			times(posts, b.Post)
			times(ticks, b.Tick)
			b.Mask(false)
			name := fmt.Sprintf("%d posts, %d ticks", posts, ticks)
			if posts >= limit || posts > 0 && ticks >= delay {
				wantBell(t, name, b, 1, 0)
			} else {
				wantBell(t, name, b, 0, posts)
			}
		}
	}
}

// All that can be called of small bells, some calls long.
func TestB2AllSequences(t *testing.T) {
	const long = 8
	for limit := 1; limit <= 4; limit++ {
		for delay := range 4 {
			for code := range 1 << (2 * long) {
				b := newBells(t, limit, delay)
				for i := range long {
					if !b.call(t, "ptmu"[code>>(2*i)&3]) {
						return
					}
				}
			}
		}
	}
}

// randomCall gives mostly posts and ticks, at a share that is handed in.
func randomCall(random *rand.Rand, posts int) byte {
	switch {
	case random.Intn(40) == 0:
		return "mu"[random.Intn(2)]
	case random.Intn(100) < posts:
		return 'p'
	}
	return 't'
}

// randomBell gives a limit and a delay, near to either end as often as between.
func randomBell(random *rand.Rand) (int, int) {
	limits := []int{1, 2, greatLimit - 1, greatLimit, 1 + random.Intn(greatLimit)}
	delays := []int{0, 1, 2, random.Intn(20), random.Intn(200), greatDelay - 1, greatDelay, random.Intn(greatDelay + 1)}
	return limits[random.Intn(len(limits))], delays[random.Intn(len(delays))]
}

func TestB2AtRandom(t *testing.T) {
	for seed := range 400 {
		random := rand.New(rand.NewSource(int64(seed)))
		limit, delay := randomBell(random)
		b := newBells(t, limit, delay)
		posts := random.Intn(101)
		for range 4000 {
			if random.Intn(300) == 0 {
				posts = random.Intn(101)
			}
			if !b.call(t, randomCall(random, posts)) {
				return
			}
		}
	}
}

// ahead makes calls at random, and leaves the bell unmasked.
func ahead(random *rand.Rand, b *bell.Bell) {
	for range random.Intn(200) {
		call(b, randomCall(random, 50))
	}
	b.Mask(false)
}

// Not masked, limit posts ring for all that waits ahead of them: it rings at one of them, and there nothing waits any more.
func TestB3LimitPostsRing(t *testing.T) {
	for seed := range 2000 {
		random := rand.New(rand.NewSource(int64(seed)))
		limit, delay := randomBell(random)
		b := made(t, limit, delay)
		ahead(random, b)
		rings, none := b.Rings(), false
		for range limit {
			b.Post()
			none = none || b.Waits() == 0
		}
		if b.Rings() == rings || !none {
			t.Errorf("seed %d, limit %d, delay %d: %d posts rang %d times", seed, limit, delay, limit, b.Rings()-rings)
		}
	}
}

// Not masked, delay ticks ring for all that waits: once, and nothing waits any more.
func TestB3DelayTicksRing(t *testing.T) {
	for seed := range 2000 {
		random := rand.New(rand.NewSource(int64(seed)))
		limit, delay := randomBell(random)
		b := made(t, limit, delay)
		ahead(random, b)
		want := b.Rings()
		if b.Waits() > 0 {
			want++
		}
		times(delay, b.Tick)
		wantBell(t, fmt.Sprintf("seed %d, limit %d, delay %d", seed, limit, delay), b, want, 0)
	}
}

// What is posted waits, or was rung for; what waits ends by one ring alone, and no ring is for nothing.
func TestB3NothingIsLost(t *testing.T) {
	for seed := range 400 {
		random := rand.New(rand.NewSource(int64(seed)))
		limit, delay := randomBell(random)
		b := made(t, limit, delay)
		posted, rungFor, masked := 0, 0, false
		for i := range 3000 {
			rings, waits := b.Rings(), b.Waits()
			name := randomCall(random, 50)
			call(b, name)
			switch name {
			case 'p':
				posted++
				waits++
			case 'm', 'u':
				masked = name == 'm'
			}
			if b.Rings() != rings {
				rungFor += waits
				if waits == 0 || masked || b.Rings() != rings+1 {
					t.Fatalf("seed %d, call %d: %d rings for %d, masked %v", seed, i, b.Rings()-rings, waits, masked)
				}
			}
			if rungFor+b.Waits() != posted {
				t.Fatalf("seed %d, call %d: %d posted, %d rung for, %d wait", seed, i, posted, rungFor, b.Waits())
			}
			if b.Rings()+b.Waits() > posted {
				t.Fatalf("seed %d, call %d: %d rings, %d wait, of %d posts", seed, i, b.Rings(), b.Waits(), posted)
			}
			if !masked && b.Waits() >= limit {
				t.Fatalf("seed %d, call %d: %d wait, the limit is %d", seed, i, b.Waits(), limit)
			}
		}
	}
}

// To ask a bell changes nothing, however often.
func TestAskingChangesNothing(t *testing.T) {
	for seed := range 100 {
		random := rand.New(rand.NewSource(int64(seed)))
		limit, delay := randomBell(random)
		asked, silent := made(t, limit, delay), made(t, limit, delay)
		for range 500 {
			name := randomCall(random, 50)
			call(asked, name)
			call(silent, name)
			for range random.Intn(4) {
				wantBell(t, "asked twice", asked, asked.Rings(), asked.Waits())
			}
		}
		wantBell(t, fmt.Sprintf("seed %d, asked", seed), asked, silent.Rings(), silent.Waits())
	}
}

// No bell hangs on another.
func TestBellsStandAlone(t *testing.T) {
	one, other := newBells(t, 3, 4), made(t, 3, 4)
	random := rand.New(rand.NewSource(1))
	for range 2000 {
		if !one.call(t, randomCall(random, 40)) {
			return
		}
		do(other, []string{"", "p", "t", "m", "u", "ppt", "mpu"}[random.Intn(7)])
	}
}

// FuzzBell takes bytes for a limit, a delay, and calls: of each two bits tell which, the others how often.
func FuzzBell(f *testing.F) {
	f.Add(1, 0, []byte{0, 1, 2, 3})
	f.Add(2, 3, []byte{0, 0, 0, 2, 1, 1, 1, 3})
	f.Add(greatLimit, greatDelay, []byte{252, 253, 253})
	f.Add(0, 0, []byte{})
	f.Add(greatLimit+1, greatDelay+1, []byte{})
	for seed := range 20 {
		random := rand.New(rand.NewSource(int64(seed)))
		calls := make([]byte, 200)
		random.Read(calls)
		limit, delay := randomBell(random)
		f.Add(limit, delay, calls)
	}
	f.Fuzz(func(t *testing.T, limit, delay int, calls []byte) {
		if limit < 1 || limit > greatLimit || delay < 0 || delay > greatDelay {
			wantNew(t, limit, delay, api.ErrRange)
			return
		}
		b := newBells(t, limit, delay)
		for _, c := range calls {
			for range 1 + int(c>>2) {
				if !b.call(t, "ptmu"[c&3]) {
					return
				}
			}
		}
	})
}
