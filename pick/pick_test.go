package pick_test

import (
	"fmt"
	"math"
	"math/rand"
	"slices"
	"testing"

	"granary/api"
	"granary/pick"
	"granary/plain"
)

// The numbers as the chapter has them.
const (
	mostQueues  = 8
	greatWeight = 16
)

func wantErr(t *testing.T, name string, err error, want api.Errno) {
	t.Helper()
	if got := plain.Told(err); got != want {
		t.Errorf("%s: got %v, want %v", name, got, want)
	}
}

// wantNew asks for an error of New, beside which there is no picker; and that it does not write into the weights, nor behind them.
func wantNew(t *testing.T, weights []int, want api.Errno) {
	t.Helper()
	all := weights[:cap(weights)]
	was := slices.Clone(all)
	p, err := pick.New(weights)
	wantErr(t, fmt.Sprintf("New(%v)", weights), err, want)
	if (p == nil) != (want != api.OK) {
		t.Errorf("New(%v): picker %v beside %v", weights, p, err)
	}
	if !slices.Equal(all, was) {
		t.Errorf("New writes into the weights: %v, which were %v", all, was)
	}
}

func made(t *testing.T, weights ...int) *pick.Picker {
	t.Helper()
	p, err := pick.New(weights)
	if err != nil || p == nil {
		t.Fatalf("New(%v): %v, %v", weights, p, err)
	}
	return p
}

// wantNext asks whose turn it is, and that Next does not write into the waits, nor behind them.
func wantNext(t *testing.T, name string, p *pick.Picker, waits []int, queue int, want api.Errno) {
	t.Helper()
	all := waits[:cap(waits)]
	was := slices.Clone(all)
	got, err := p.Next(waits)
	if got != queue || plain.Told(err) != want {
		t.Errorf("%s: Next(%v): got %d, %v, want %d, %v", name, waits, got, plain.Told(err), queue, want)
	}
	if !slices.Equal(all, was) {
		t.Errorf("%s: Next writes into the waits: %v, which were %v", name, all, was)
	}
}

// same gives a list of so many numbers that are all the same.
func same(n, number int) []int { return slices.Repeat([]int{number}, n) }

// but gives a list that is like another, but at one place.
func but(list []int, at, number int) []int {
	list = slices.Clone(list)
	list[at] = number
	return list
}

func sum(list []int) int {
	all := 0
	for _, x := range list {
		all += x
	}
	return all
}

// like is what the chapter says of a picker: a circle of turns, of each queue as many as its weight, one behind the other, and which turn comes next. Those of a queue in which nothing waits are passed over.
type like struct {
	queues int
	turns  []int // whose each is
	next   int
}

func newLike(weights []int) *like {
	m := &like{queues: len(weights)}
	for queue, weight := range weights {
		m.turns = append(m.turns, same(weight, queue)...)
	}
	return m
}

func (m *like) take(waits []int) (int, api.Errno) {
	switch {
	case len(waits) != m.queues:
		return 0, api.ErrShape
	case slices.Min(waits) < 0:
		return 0, api.ErrRange
	case slices.Max(waits) == 0:
		return 0, api.ErrNone
	}
	for waits[m.turns[m.next]] == 0 {
		m.next = (m.next + 1) % len(m.turns)
	}
	queue := m.turns[m.next]
	m.next = (m.next + 1) % len(m.turns)
	return queue, api.OK
}

// pickers is a picker beside what the chapter says of it.
type pickers struct {
	*pick.Picker
	like *like
}

func newPickers(t *testing.T, weights ...int) *pickers {
	t.Helper()
	return &pickers{made(t, weights...), newLike(weights)}
}

// take tells whose turn it is.
func (p *pickers) take(t *testing.T, name string, waits []int) int {
	t.Helper()
	queue, want := p.like.take(waits)
	wantNext(t, name, p.Picker, waits, queue, want)
	return queue
}

// pickerAt gives a picker that stands at a queue and has taken so many turns there: at least 1, as it comes to stand somewhere by a turn alone.
func pickerAt(t *testing.T, weights []int, queue, turns int) *pickers {
	t.Helper()
	p := newPickers(t, weights...)
	for range turns {
		p.take(t, "ahead", but(same(len(weights), 0), queue, 1))
	}
	return p
}

// randomWeights gives weights of so many queues.
func randomWeights(random *rand.Rand, queues int) []int {
	weights := make([]int, queues)
	for i := range weights {
		weights[i] = 1 + random.Intn(greatWeight)
	}
	return weights
}

// randomWaits gives waits of which about one in share is 0; all are, if share is 1.
func randomWaits(random *rand.Rand, queues, share int) []int {
	waits := make([]int, queues)
	for i := range waits {
		if random.Intn(share) > 0 {
			waits[i] = 1 + random.Intn(3)
		}
	}
	return waits
}

// noWeights are numbers that are no weight. Some have, in their lowest bytes, one that is.
func noWeights() []int {
	return []int{0, -1, -2, -greatWeight, greatWeight + 1, greatWeight + 2, 256 + 1, 65536 + 1, 1<<32 + 1,
		math.MaxInt32, math.MinInt32, math.MaxInt, math.MinInt, math.MinInt + 1}
}

func TestP1HowManyQueues(t *testing.T) {
	wantNew(t, nil, api.ErrShape)
	wantNew(t, []int{}, api.ErrShape)
	wantNew(t, []int{1, 2, 3}[:0], api.ErrShape)
	for _, weight := range []int{1, 2, 15, greatWeight} {
		for n := 1; n <= mostQueues; n++ {
			wantNew(t, same(n, weight), api.OK)
			wantNew(t, same(n+1, weight)[:n], api.OK)
			wantNew(t, append(same(n, weight), 0, -1)[:n], api.OK)
		}
		for _, n := range []int{mostQueues + 1, mostQueues + 2, 16, 256, 257, 65536 + 1} {
			wantNew(t, same(n, weight), api.ErrFull)
		}
	}
}

func TestP1WhichWeights(t *testing.T) {
	for weight := 1; weight <= greatWeight; weight++ {
		wantNew(t, []int{weight}, api.OK)
		for at := range mostQueues {
			wantNew(t, but(same(mostQueues, 1), at, weight), api.OK)
			wantNew(t, but(same(mostQueues, greatWeight), at, weight), api.OK)
		}
	}
	for _, weight := range noWeights() {
		for n := 1; n <= mostQueues; n++ {
			wantNew(t, same(n, weight), api.ErrRange)
			for at := range n {
				wantNew(t, but(same(n, 1), at, weight), api.ErrRange)
				wantNew(t, but(same(n, greatWeight), at, weight), api.ErrRange)
			}
		}
	}
	// What is wrong with one weight is not made good by another.
	wantNew(t, []int{0, 2}, api.ErrRange)
	wantNew(t, []int{17, -1}, api.ErrRange)
}

func TestP1TooManyComesAheadOfWeights(t *testing.T) {
	for _, weight := range noWeights() {
		for _, n := range []int{mostQueues + 1, mostQueues + 2, 100} {
			wantNew(t, same(n, weight), api.ErrFull)
			wantNew(t, but(same(n, 1), 0, weight), api.ErrFull)
			wantNew(t, but(same(n, 1), n-1, weight), api.ErrFull)
		}
	}
}

// At first it stands at the first queue, with credit of its whole weight.
func TestP1Begins(t *testing.T) {
	for n := 1; n <= mostQueues; n++ {
		for weight := 1; weight <= greatWeight; weight++ {
			p := made(t, but(same(n, 1), 0, weight)...)
			name := fmt.Sprintf("%d queues, the first of weight %d", n, weight)
			for range weight {
				wantNext(t, name, p, same(n, 1), 0, api.OK)
			}
			wantNext(t, name+": the next", p, same(n, 1), 1%n, api.OK)
		}
	}
	// Where nothing waits in the first queue, it goes on at once.
	wantNext(t, "not the first", made(t, 5, 1, 1), []int{0, 0, 1}, 2, api.OK)
}

func TestP1NextErrors(t *testing.T) {
	for n := 1; n <= mostQueues; n++ {
		p := made(t, same(n, 2)...)
		name := fmt.Sprintf("%d queues", n)
		for _, long := range []int{0, n - 1, n + 1, n + 2, n + 256, 2*n + 1} {
			// Whatever stands in them, and also where nobody waits.
			for _, number := range []int{1, 0, -1, math.MinInt, math.MaxInt} {
				wantNext(t, name, p, same(long, number), 0, api.ErrShape)
				wantNext(t, name, p, append(same(long, number), 1, 1)[:long], 0, api.ErrShape)
			}
		}
		wantNext(t, name, p, nil, 0, api.ErrShape)
		wantNext(t, name, p, same(n+1, 1)[:n-1], 0, api.ErrShape)
		for at := range n {
			for _, number := range []int{-1, -2, math.MinInt32, math.MinInt + 1, math.MinInt} {
				wantNext(t, name, p, but(same(n, 1), at, number), 0, api.ErrRange)
				wantNext(t, name, p, but(same(n, math.MaxInt), at, number), 0, api.ErrRange)
				// Ahead of it that nobody waits.
				wantNext(t, name, p, but(same(n, 0), at, number), 0, api.ErrRange)
			}
		}
		wantNext(t, name, p, same(n, -1), 0, api.ErrRange)
		wantNext(t, name, p, same(n, 0), 0, api.ErrNone)
		wantNext(t, name, p, append(same(n, 0), 1)[:n], 0, api.ErrNone)
	}
}

// badWaits are waits at which Next answers an error.
func badWaits(n int) [][]int {
	bad := [][]int{nil, same(n-1, 1), same(n+1, 1), same(n-1, 0), same(n+1, -1), same(n, 0), same(n, -1)}
	for at := range n {
		bad = append(bad, but(same(n, 1), at, -1), but(same(n, 0), at, -1))
	}
	return bad
}

// An error changes neither where a picker stands nor its credit: wherever it stands, with whatever credit, also with none.
func TestP1ErrorsChangeNothing(t *testing.T) {
	for _, weights := range [][]int{{1}, {3}, {2, 1}, {1, 2}, {3, 1, 2}, {2, 2, 2, 2}, {4, 3, 2, 1, 1, 2, 3, 4}} {
		n := len(weights)
		for queue, weight := range weights {
			for turns := 1; turns <= weight; turns++ {
				for only := range n {
					p := pickerAt(t, weights, queue, turns)
					name := fmt.Sprintf("weights %v, at %d, %d turns", weights, queue, turns)
					for _, waits := range badWaits(n) {
						p.take(t, name, waits)
					}
					p.take(t, name, but(same(n, 0), only, 1))
					for range 2 * sum(weights) {
						for _, waits := range badWaits(n) {
							p.take(t, name, waits)
						}
						p.take(t, name, same(n, 1))
					}
				}
			}
		}
		// At its beginning, too.
		p := newPickers(t, weights...)
		for range 2 * sum(weights) {
			for _, waits := range badWaits(n) {
				p.take(t, "at first", waits)
			}
			p.take(t, "at first", same(n, 1))
		}
	}
}

// turn is one call of Next, with what it has to answer.
type turn struct {
	waits []int
	queue int
	err   api.Errno
}

// Turns that were worked out by hand.
func TestP2Turns(t *testing.T) {
	both, none := []int{1, 1}, []int{0, 0}
	first, second := []int{1, 0}, []int{0, 1}
	for _, c := range []struct {
		name    string
		weights []int
		turns   []turn
	}{
		{"the chapter's table", []int{2, 1}, []turn{
			{both, 0, api.OK}, {both, 0, api.OK}, {both, 1, api.OK}, {both, 0, api.OK}, {both, 0, api.OK}, {both, 1, api.OK},
		}},
		{"how many wait does not count", []int{2, 1}, []turn{
			{[]int{1, 99}, 0, api.OK}, {[]int{1, math.MaxInt}, 0, api.OK}, {[]int{math.MaxInt, 1}, 1, api.OK}, {[]int{math.MaxInt, math.MaxInt}, 0, api.OK},
		}},
		{"credit where nothing waits is lost", []int{3, 2}, []turn{
			{both, 0, api.OK}, {second, 1, api.OK}, {both, 1, api.OK}, {both, 0, api.OK}, {both, 0, api.OK}, {both, 0, api.OK}, {both, 1, api.OK},
		}},
		{"credit stays where nobody waits", []int{3, 1}, []turn{
			{both, 0, api.OK}, {none, 0, api.ErrNone}, {none, 0, api.ErrNone}, {both, 0, api.OK}, {both, 0, api.OK}, {both, 1, api.OK},
		}},
		{"no credit stays no credit where nobody waits", []int{1, 2}, []turn{
			{both, 0, api.OK}, {none, 0, api.ErrNone}, {both, 1, api.OK}, {both, 1, api.OK}, {none, 0, api.ErrNone}, {both, 0, api.OK},
		}},
		{"round to where it stood, with credit anew", []int{2, 1}, []turn{
			{first, 0, api.OK}, {first, 0, api.OK}, {first, 0, api.OK}, {both, 0, api.OK}, {both, 1, api.OK}, {both, 0, api.OK},
		}},
		{"round to where it stood, again and again", []int{1, 1}, []turn{
			{second, 1, api.OK}, {second, 1, api.OK}, {second, 1, api.OK}, {second, 1, api.OK}, {both, 0, api.OK}, {both, 1, api.OK},
		}},
		{"what is without credit goes on, though something waits there", []int{1, 1}, []turn{
			{first, 0, api.OK}, {both, 1, api.OK}, {both, 0, api.OK},
		}},
		{"a turn that was missed is not made good", []int{1, 4}, []turn{
			{first, 0, api.OK}, {first, 0, api.OK}, {first, 0, api.OK}, {both, 1, api.OK}, {both, 1, api.OK}, {both, 1, api.OK}, {both, 1, api.OK}, {both, 0, api.OK}, {both, 1, api.OK},
		}},
		{"one queue alone", []int{2}, []turn{
			{[]int{1}, 0, api.OK}, {[]int{0}, 0, api.ErrNone}, {[]int{5}, 0, api.OK}, {[]int{1}, 0, api.OK}, {[]int{1}, 0, api.OK}, {[]int{1}, 0, api.OK},
		}},
		{"over queues in which nothing waits, and round the end", []int{1, 1, 2, 1}, []turn{
			{[]int{0, 0, 1, 0}, 2, api.OK}, {[]int{1, 1, 0, 0}, 0, api.OK}, {[]int{0, 0, 0, 1}, 3, api.OK}, {[]int{0, 1, 1, 1}, 1, api.OK},
			{[]int{1, 1, 1, 1}, 2, api.OK}, {[]int{1, 1, 1, 1}, 2, api.OK}, {[]int{1, 1, 1, 0}, 0, api.OK}, {[]int{1, 0, 0, 0}, 0, api.OK},
		}},
		{"wrong calls between", []int{2, 1}, []turn{
			{both, 0, api.OK}, {[]int{1}, 0, api.ErrShape}, {[]int{0, 1, 0}, 0, api.ErrShape}, {[]int{0, -1}, 0, api.ErrRange}, {[]int{-1, 1}, 0, api.ErrRange},
			{both, 0, api.OK}, {[]int{-1, -1}, 0, api.ErrRange}, {nil, 0, api.ErrShape}, {both, 1, api.OK},
		}},
	} {
		p := made(t, c.weights...)
		for i, turn := range c.turns {
			wantNext(t, fmt.Sprintf("%s, call %d", c.name, i), p, turn.waits, turn.queue, turn.err)
		}
	}
}

// Wherever it stands, with whatever credit, and wherever something waits then. That turn is held against the chapter's words, too; those behind it tell what credit was left.
func TestP2Anywhere(t *testing.T) {
	for _, weights := range [][]int{{1}, {2}, {1, 1}, {2, 1}, {1, 3}, {1, 1, 1}, {2, 1, 3}, {3, 2, 1, 2}} {
		n := len(weights)
		for queue, weight := range weights {
			for turns := 1; turns <= weight; turns++ {
				for bits := 1; bits < 1<<n; bits++ {
					waits := waitsOf(n, bits)
					p := pickerAt(t, weights, queue, turns)
					name := fmt.Sprintf("weights %v, at %d, %d turns", weights, queue, turns)
					want := queue
					if waits[queue] == 0 || turns == weight {
						want = (queue + 1) % n
						for waits[want] == 0 {
							want = (want + 1) % n
						}
					}
					if got := p.take(t, name, waits); got != want {
						t.Errorf("%s: Next(%v): got %d, want %d", name, waits, got, want)
					}
					for range 2 * sum(weights) {
						p.take(t, name, same(n, 1))
					}
				}
			}
		}
	}
}

// waitsOf gives waits by the bits of a number.
func waitsOf(n, bits int) []int {
	waits := make([]int, n)
	for i := range waits {
		waits[i] = bits >> i & 1
	}
	return waits
}

// allWeights calls with all weights of so many queues, up to a greatest one.
func allWeights(n, greatest int, do func([]int)) {
	weights := same(n, 1)
	for {
		do(slices.Clone(weights))
		at := 0
		for at < n && weights[at] == greatest {
			weights[at] = 1
			at++
		}
		if at == n {
			return
		}
		weights[at]++
	}
}

// All that can be asked of small pickers in some calls.
func TestP2AllSequences(t *testing.T) {
	for _, c := range []struct{ queues, greatest, long int }{{1, 4, 8}, {2, 4, 6}, {3, 3, 4}} {
		allWeights(c.queues, c.greatest, func(weights []int) {
			for code := range 1 << (c.queues * c.long) {
				p := newPickers(t, weights...)
				for i := range c.long {
					p.take(t, "all sequences", waitsOf(c.queues, code>>(i*c.queues)))
				}
			}
		})
	}
}

func TestP2AtRandom(t *testing.T) {
	for seed := range 400 {
		random := rand.New(rand.NewSource(int64(seed)))
		n := 1 + seed%mostQueues
		weights := randomWeights(random, n)
		p := newPickers(t, weights...)
		name := fmt.Sprintf("seed %d, weights %v", seed, weights)
		share := 1 + random.Intn(4)
		for range 500 {
			waits := randomWaits(random, n, share)
			switch random.Intn(20) {
			case 0:
				waits = badWaits(n)[random.Intn(7+2*n)]
			case 1:
				share = 1 + random.Intn(4)
			}
			p.take(t, name, waits)
		}
	}
}

// A queue in which always something waits has a turn in any so many turns as all weights are together, whatever comes and goes in the others.
func TestP3NobodyWaitsForEver(t *testing.T) {
	for seed := range 400 {
		random := rand.New(rand.NewSource(int64(seed)))
		n := 1 + seed%mostQueues
		weights := randomWeights(random, n)
		steady := random.Intn(n)
		p := made(t, weights...)
		share := 1 + random.Intn(5)
		// What went ahead does not count: it may stand anywhere.
		for range random.Intn(50) {
			p.Next(randomWaits(random, n, 2))
		}
		without := 0
		for i := range 20 * sum(weights) {
			waits := but(randomWaits(random, n, share), steady, 1)
			queue, err := p.Next(waits)
			if err != nil || waits[queue] == 0 {
				t.Fatalf("seed %d, weights %v: Next(%v): %d, %v", seed, weights, waits, queue, err)
			}
			without++
			if queue == steady {
				without = 0
			}
			if without >= sum(weights) {
				t.Fatalf("seed %d, weights %v: %d turns, none of them of queue %d, turn %d", seed, weights, without, steady, i)
			}
		}
	}
}

// It waits no longer than the others' weights, and so long it does where in all of them always something waits.
func TestP3LongestWait(t *testing.T) {
	for seed := range 200 {
		random := rand.New(rand.NewSource(int64(seed)))
		n := 1 + seed%mostQueues
		weights := randomWeights(random, n)
		p := made(t, weights...)
		longest, without := make([]int, n), make([]int, n)
		for range 5 * sum(weights) {
			queue, err := p.Next(same(n, 1))
			if err != nil {
				t.Fatal(err)
			}
			for i := range without {
				without[i]++
			}
			without[queue] = 0
			for i := range without {
				longest[i] = max(longest[i], without[i])
			}
		}
		for i, got := range longest {
			if want := sum(weights) - weights[i]; got != want {
				t.Errorf("weights %v: queue %d waits %d turns, want %d", weights, i, got, want)
			}
		}
	}
}

// Where in all queues always something waits, of any so many turns as all weights are together each queue has its weight, wherever it stood at their begin.
func TestP3EachHasItsWeight(t *testing.T) {
	for seed := range 200 {
		random := rand.New(rand.NewSource(int64(seed)))
		n := 1 + seed%mostQueues
		weights := randomWeights(random, n)
		if seed < 2*mostQueues {
			weights = same(n, []int{1, greatWeight}[seed/mostQueues])
		}
		p := made(t, weights...)
		for range random.Intn(3) * random.Intn(40) {
			p.Next(randomWaits(random, n, 2))
		}
		round := sum(weights)
		var turns []int
		for range 4 * round {
			queue, err := p.Next(same(n, 1+random.Intn(3)))
			if err != nil {
				t.Fatal(err)
			}
			turns = append(turns, queue)
		}
		for from := range 3*round + 1 {
			had := make([]int, n)
			for _, queue := range turns[from : from+round] {
				had[queue]++
			}
			if !slices.Equal(had, weights) {
				t.Fatalf("weights %v, from turn %d: each has %v", weights, from, had)
			}
		}
	}
}

// The lists that are handed in are the caller's to change.
func TestNothingIsKept(t *testing.T) {
	weights := []int{2, 1, 99, 99}
	p, err := pick.New(weights[:2])
	if err != nil {
		t.Fatal(err)
	}
	turns := func(want ...int) {
		t.Helper()
		for _, queue := range want {
			waits := []int{1, 1}
			wantNext(t, "kept", p, waits, queue, api.OK)
			waits[0], waits[1] = -1, 0
		}
	}
	turns(0, 0)
	for i := range weights {
		weights[i] = -5 + 10*i
	}
	turns(1, 0, 0, 1, 0)
	for i := range weights {
		weights[i] = 7
	}
	turns(0, 1, 0, 0, 1)
	if !slices.Equal(weights, []int{7, 7, 7, 7}) {
		t.Errorf("Next writes into the weights: %v", weights)
	}
}

// No picker hangs on another, also if both were made of one list.
func TestPickersStandAlone(t *testing.T) {
	weights := []int{3, 1, 2}
	one, other := made(t, weights...), made(t, weights...)
	alone := newLike(weights)
	for i := range 40 {
		wantNext(t, "alone", one, same(3, 1), alone.turns[i%6], api.OK)
		for range i % 4 {
			other.Next(waitsOf(3, 1+i%7))
		}
		other.Next(nil)
	}
}

// FuzzPicker takes bytes for weights and waits: how many queues, their weights, then the waits of one call behind the other.
func FuzzPicker(f *testing.F) {
	f.Add([]byte{})
	f.Add([]byte{2, 2, 1, 3, 3, 3, 0, 3, 1, 2, 255, 3})
	for seed := range 20 {
		calls := make([]byte, 200)
		rand.New(rand.NewSource(int64(seed))).Read(calls)
		f.Add(calls)
	}
	f.Fuzz(func(t *testing.T, calls []byte) {
		if len(calls) < 1 {
			return
		}
		n := int(calls[0] % 11)
		weights := make([]int, min(n, len(calls)-1))
		for i := range weights {
			weights[i] = int(calls[1+i]%20) - 1
		}
		want := api.OK
		switch {
		case len(weights) == 0:
			want = api.ErrShape
		case len(weights) > mostQueues:
			want = api.ErrFull
		case slices.Min(weights) < 1 || slices.Max(weights) > greatWeight:
			want = api.ErrRange
		}
		wantNew(t, weights, want)
		if want != api.OK {
			return
		}
		p := newPickers(t, weights...)
		for _, call := range calls[1+len(weights):] {
			waits := waitsOf(len(weights), int(call))
			switch {
			case call > 250:
				waits = but(waits, int(call)%len(waits), -1)
			case call > 245:
				waits = append(waits, 1)
			case call > 240:
				waits = waits[1:]
			}
			p.take(t, "fuzz", waits)
		}
	})
}
