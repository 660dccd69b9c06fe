package ring_test

import (
	"fmt"
	"math"
	"math/rand"
	"slices"
	"testing"

	"granary/api"
	"granary/plain"
	"granary/ring"
)

// sizes are the numbers of slots that there may be.
func sizes() []int {
	var out []int
	for n := 2; n <= api.MaxRing; n++ {
		out = append(out, n)
	}
	return out
}

// noSizes are numbers of slots that there may not be. Some have, in their lowest bytes, one that may be.
func noSizes() []int {
	return []int{1, 0, -1, -2, -3, -api.MaxRing, math.MinInt32, math.MinInt + 2, math.MinInt,
		api.MaxRing + 1, api.MaxRing + 2, 256 + 2, 65536 + 2, math.MaxInt32, 1<<32 + 2, math.MaxInt - 1, math.MaxInt}
}

func wantErr(t *testing.T, name string, err error, want api.Errno) {
	t.Helper()
	if got := plain.Told(err); got != want {
		t.Errorf("%s: got %v, want %v", name, got, want)
	}
}

// made gives what New, NewPost or NewSeer makes.
func made[T any](t *testing.T, make func(int) (*T, error), n int) *T {
	t.Helper()
	x, err := make(n)
	if err != nil || x == nil {
		t.Fatalf("of %d slots: %v, %v", n, x, err)
	}
	return x
}

func wantPop(t *testing.T, name string, r *ring.Ring, x int, want api.Errno) {
	t.Helper()
	got, err := r.Pop()
	if got != x || plain.Told(err) != want {
		t.Errorf("%s: Pop: got %d, %v, want %d, %v", name, got, plain.Told(err), x, want)
	}
}

// wantStands asks what a ring tells without a change.
func wantStands(t *testing.T, name string, r *ring.Ring, long, head, tail int) {
	t.Helper()
	gotHead, gotTail := r.Ends()
	if r.Len() != long || gotHead != head || gotTail != tail {
		t.Errorf("%s: got %d from %d to %d, want %d from %d to %d", name, r.Len(), gotHead, gotTail, long, head, tail)
	}
}

func wantPut(t *testing.T, name string, p *ring.Post, slot int, phase bool, want api.Errno) {
	t.Helper()
	gotSlot, gotPhase, err := p.Put()
	if gotSlot != slot || gotPhase != phase || plain.Told(err) != want {
		t.Errorf("%s: Put: got %d, %v, %v, want %d, %v, %v", name, gotSlot, gotPhase, plain.Told(err), slot, phase, want)
	}
}

// wantFull asks whether a post is full, more than once, as to ask changes nothing.
func wantFull(t *testing.T, name string, p *ring.Post, want bool) {
	t.Helper()
	for range 2 {
		if got := p.Full(); got != want {
			t.Errorf("%s: Full: got %v, want %v", name, got, want)
		}
	}
}

// wantTake asks what a seer takes, and that it does not write into the phases, nor behind them.
func wantTake(t *testing.T, name string, s *ring.Seer, phases []bool, slots []int, want api.Errno) {
	t.Helper()
	all := phases[:cap(phases)]
	was := slices.Clone(all)
	got, err := s.Take(phases)
	if !slices.Equal(got, slots) || plain.Told(err) != want {
		t.Errorf("%s: Take(%v): got %v, %v, want %v, %v", name, phases, got, plain.Told(err), slots, want)
	}
	if err != nil && got != nil {
		t.Errorf("%s: Take(%v): slots beside an error: %v", name, phases, got)
	}
	if !slices.Equal(all, was) {
		t.Errorf("%s: Take writes into the phases: %v, which were %v", name, all, was)
	}
}

// likeRing is what the chapter says of a ring, with all that was ever pushed, of which some was popped.
type likeRing struct {
	n, popped int
	pushed    []int
}

func (m *likeRing) push(x int) api.Errno {
	if len(m.pushed)-m.popped == m.n-1 {
		return api.ErrFull
	}
	m.pushed = append(m.pushed, x)
	return api.OK
}

func (m *likeRing) pop() (int, api.Errno) {
	if len(m.pushed) == m.popped {
		return 0, api.ErrNone
	}
	m.popped++
	return m.pushed[m.popped-1], api.OK
}

// rings is a ring beside what the chapter says of it.
type rings struct {
	*ring.Ring
	like likeRing
}

func newRings(t *testing.T, n int) *rings {
	t.Helper()
	return &rings{made(t, ring.New, n), likeRing{n: n}}
}

func (r *rings) same(t *testing.T, name string) {
	t.Helper()
	m := &r.like
	wantStands(t, name, r.Ring, len(m.pushed)-m.popped, m.popped%m.n, len(m.pushed)%m.n)
}

func (r *rings) push(t *testing.T, name string, x int) {
	t.Helper()
	wantErr(t, fmt.Sprintf("%s: Push(%d)", name, x), r.Push(x), r.like.push(x))
	r.same(t, name+": pushed")
}

func (r *rings) pop(t *testing.T, name string) {
	t.Helper()
	x, want := r.like.pop()
	wantPop(t, name, r.Ring, x, want)
	r.same(t, name+": popped")
}

// ringAt gives a ring in which so many were popped already, and so many still are.
func ringAt(t *testing.T, n, popped, there int) *rings {
	t.Helper()
	r := newRings(t, n)
	for i := range popped + there {
		r.push(t, "ahead", 100+i)
		if i < popped {
			r.pop(t, "ahead")
		}
	}
	return r
}

// phaseOf gives the phase of what is put, or taken, behind so many others.
func phaseOf(n, others int) bool { return others/n%2 == 0 }

// likePost is what the chapter says of a post, with how many were ever put.
type likePost struct{ n, put, head int }

func (m *likePost) take() (slot int, phase bool, told api.Errno) {
	slot = m.put % m.n
	if (slot+1)%m.n == m.head {
		return 0, false, api.ErrFull
	}
	m.put++
	return slot, phaseOf(m.n, m.put-1), api.OK
}

func (m *likePost) free(head int) api.Errno {
	if head < 0 || head > m.n-1 {
		return api.ErrRange
	}
	m.head = head
	return api.OK
}

// posts is a post beside what the chapter says of it.
type posts struct {
	*ring.Post
	like likePost
}

func newPosts(t *testing.T, n int) *posts {
	t.Helper()
	return &posts{made(t, ring.NewPost, n), likePost{n: n}}
}

// put tells whether there was room.
func (p *posts) put(t *testing.T, name string) bool {
	t.Helper()
	slot, phase, want := p.like.take()
	wantFull(t, fmt.Sprintf("%s: %+v", name, p.like), p.Post, want == api.ErrFull)
	wantPut(t, fmt.Sprintf("%s: %+v", name, p.like), p.Post, slot, phase, want)
	return want == api.OK
}

func (p *posts) free(t *testing.T, name string, head int) {
	t.Helper()
	wantErr(t, fmt.Sprintf("%s: Free(%d)", name, head), p.Free(head), p.like.free(head))
}

// filled puts till there is no room.
func (p *posts) filled(t *testing.T, name string) {
	t.Helper()
	for p.put(t, name) {
	}
}

// postAt gives a post by which so many were put, all of which were read.
func postAt(t *testing.T, n, put int) *posts {
	t.Helper()
	p := newPosts(t, n)
	for i := range put {
		p.put(t, "ahead")
		p.free(t, "ahead", (i+1)%n)
	}
	return p
}

// likeSeer is what the chapter says of a seer, with how many were ever taken.
type likeSeer struct{ n, taken int }

func (m *likeSeer) take(phases []bool) ([]int, api.Errno) {
	if len(phases) != m.n {
		return nil, api.ErrShape
	}
	var slots []int
	for range m.n - 1 {
		if phases[m.taken%m.n] != phaseOf(m.n, m.taken) {
			break
		}
		slots = append(slots, m.taken%m.n)
		m.taken++
	}
	return slots, api.OK
}

// seers is a seer beside what the chapter says of it.
type seers struct {
	*ring.Seer
	like likeSeer
}

func newSeers(t *testing.T, n int) *seers {
	t.Helper()
	return &seers{made(t, ring.NewSeer, n), likeSeer{n: n}}
}

func (s *seers) take(t *testing.T, name string, phases []bool) {
	t.Helper()
	name = fmt.Sprintf("%s: %+v", name, s.like)
	slots, want := s.like.take(phases)
	wantTake(t, name, s.Seer, phases, slots, want)
}

// standing gives the phases as a post would have them behind so many.
func standing(n, put int) []bool {
	phases := make([]bool, n)
	for i := range put {
		phases[i%n] = phaseOf(n, i)
	}
	return phases
}

// seerAt gives a seer by which so many were taken.
func seerAt(t *testing.T, n, taken int) *seers {
	t.Helper()
	s := newSeers(t, n)
	for i := range taken {
		s.take(t, "ahead", standing(n, i+1))
	}
	if s.like.taken != taken {
		t.Fatalf("a seer of %d took %d, not %d", n, s.like.taken, taken)
	}
	return s
}

// every gives all lists of so many bools.
func every(n int) [][]bool {
	var out [][]bool
	for bits := range 1 << n {
		list := make([]bool, n)
		for i := range list {
			list[i] = bits>>i&1 == 1
		}
		out = append(out, list)
	}
	return out
}

// all three

func wantSizes[T any](t *testing.T, name string, make func(int) (*T, error)) {
	t.Helper()
	for _, n := range sizes() {
		made(t, make, n)
	}
	for _, n := range noSizes() {
		x, err := make(n)
		wantErr(t, fmt.Sprintf("%s(%d)", name, n), err, api.ErrRange)
		if x != nil {
			t.Errorf("%s(%d): one beside an error", name, n)
		}
	}
}

func TestHowManySlots(t *testing.T) {
	wantSizes(t, "New", ring.New)
	wantSizes(t, "NewPost", ring.NewPost)
	wantSizes(t, "NewSeer", ring.NewSeer)
	if api.MaxRing != 16 {
		t.Errorf("MaxRing is %d", api.MaxRing)
	}
}

// R1

func TestKnownRing(t *testing.T) {
	r := made(t, ring.New, 3)
	wantStands(t, "new", r, 0, 0, 0)
	wantPop(t, "new", r, 0, api.ErrNone)
	wantErr(t, "first", r.Push(7), api.OK)
	wantStands(t, "one", r, 1, 0, 1)
	wantErr(t, "second", r.Push(8), api.OK)
	wantStands(t, "two", r, 2, 0, 2)
	wantErr(t, "third", r.Push(9), api.ErrFull)
	wantStands(t, "full", r, 2, 0, 2)
	wantPop(t, "full", r, 7, api.OK)
	wantStands(t, "one popped", r, 1, 1, 2)
	wantErr(t, "there is room", r.Push(10), api.OK)
	wantStands(t, "the tail is round", r, 2, 1, 0)
	wantErr(t, "full", r.Push(11), api.ErrFull)
	wantPop(t, "second", r, 8, api.OK)
	wantStands(t, "two popped", r, 1, 2, 0)
	wantPop(t, "third", r, 10, api.OK)
	wantStands(t, "the head is round", r, 0, 0, 0)
	wantPop(t, "empty", r, 0, api.ErrNone)
	wantStands(t, "empty", r, 0, 0, 0)
}

func TestRoomForAllButOne(t *testing.T) {
	for _, n := range sizes() {
		r := made(t, ring.New, n)
		name := fmt.Sprintf("ring of %d", n)
		for i := range n - 1 {
			wantStands(t, name, r, i, 0, i)
			wantErr(t, name, r.Push(i), api.OK)
		}
		for range 3 {
			wantErr(t, name+": one more", r.Push(99), api.ErrFull)
			wantStands(t, name, r, n-1, 0, n-1)
		}
		for i := range n - 1 {
			wantPop(t, name, r, i, api.OK)
			wantStands(t, name, r, n-2-i, i+1, n-1)
		}
		for range 3 {
			wantPop(t, name+": one more", r, 0, api.ErrNone)
			wantStands(t, name, r, 0, n-1, n-1)
		}
	}
}

// TestRingAnywhere has each head, over three rounds, with each count of numbers behind it.
func TestRingAnywhere(t *testing.T) {
	for _, n := range sizes() {
		for popped := range 3*n + 1 {
			for there := range n {
				name := fmt.Sprintf("ring of %d, %d popped, %d there", n, popped, there)
				r := ringAt(t, n, popped, there)
				wantStands(t, name, r.Ring, there, popped%n, (popped+there)%n)
				for i := range n - there {
					r.push(t, name, -i)
				}
				for range n {
					r.pop(t, name)
				}
				r.push(t, name, 5)
				r.pop(t, name)
			}
		}
	}
}

func TestPopOfAnEmptyRing(t *testing.T) {
	for _, n := range sizes() {
		for popped := range 2*n + 1 {
			r := ringAt(t, n, popped, 0).Ring
			name := fmt.Sprintf("ring of %d, %d popped", n, popped)
			for range n + 1 {
				wantPop(t, name, r, 0, api.ErrNone)
				wantStands(t, name, r, 0, popped%n, popped%n)
			}
			wantErr(t, name, r.Push(4), api.OK)
			wantPop(t, name, r, 4, api.OK)
		}
	}
}

func TestPushOfAFullRing(t *testing.T) {
	for _, n := range sizes() {
		for popped := range 2*n + 1 {
			r := ringAt(t, n, popped, n-1)
			name := fmt.Sprintf("full ring of %d, %d popped", n, popped)
			for _, x := range []int{0, 100 + popped, -1, math.MaxInt} {
				wantErr(t, name, r.Push(x), api.ErrFull)
				wantStands(t, name, r.Ring, n-1, popped%n, (popped+n-1)%n)
			}
			for range n {
				r.pop(t, name)
			}
		}
	}
}

func TestAnyNumberIsPushed(t *testing.T) {
	numbers := []int{0, 1, -1, 0, 0, 255, 256, math.MinInt32, math.MaxInt32, 1 << 62, math.MinInt, math.MaxInt, -1, -1}
	for _, n := range sizes() {
		r := newRings(t, n)
		for _, x := range numbers {
			r.push(t, "any", x)
			r.pop(t, "any")
		}
		for _, x := range numbers {
			r.push(t, "all", x)
		}
		for range numbers {
			r.pop(t, "all")
		}
	}
}

func TestRingThatGoesRoundManyTimes(t *testing.T) {
	for _, n := range sizes() {
		r := made(t, ring.New, n)
		for i := range n - 2 {
			wantErr(t, "first ones", r.Push(i), api.OK)
		}
		for i := range 10000 {
			wantErr(t, "one more", r.Push(i+n-2), api.OK)
			wantStands(t, "full", r, n-1, i%n, (i+n-1)%n)
			wantPop(t, "first", r, i, api.OK)
		}
	}
}

func TestEverySequenceOfARing(t *testing.T) {
	for n := 2; n <= 5; n++ {
		for _, calls := range every(11) {
			r := newRings(t, n)
			for i, push := range calls {
				if push {
					r.push(t, fmt.Sprint(n, calls), i)
				} else {
					r.pop(t, fmt.Sprint(n, calls))
				}
			}
		}
	}
}

func TestRingsShareNothing(t *testing.T) {
	one, two := newRings(t, 4), newRings(t, 4)
	for i := range 50 {
		one.push(t, "one", i)
		two.push(t, "two", -i)
		if i%3 == 0 {
			one.pop(t, "one")
		} else {
			two.pop(t, "two")
		}
	}
}

// R2

func TestKnownPost(t *testing.T) {
	p := made(t, ring.NewPost, 3)
	wantPut(t, "first", p, 0, true, api.OK)
	wantPut(t, "second", p, 1, true, api.OK)
	wantPut(t, "full", p, 0, false, api.ErrFull)
	wantErr(t, "both are read", p.Free(2), api.OK)
	wantPut(t, "the end of the first round", p, 2, true, api.OK)
	wantPut(t, "the begin of the second", p, 0, false, api.OK)
	wantPut(t, "full", p, 0, false, api.ErrFull)
	wantErr(t, "both are read", p.Free(1), api.OK)
	wantPut(t, "second round", p, 1, false, api.OK)
	wantPut(t, "the end of the second round", p, 2, false, api.OK)
	wantPut(t, "full", p, 0, false, api.ErrFull)
	wantErr(t, "one is read", p.Free(2), api.OK)
	wantPut(t, "the begin of the third", p, 0, true, api.OK)
	wantPut(t, "full", p, 0, false, api.ErrFull)
	wantErr(t, "one is read", p.Free(0), api.OK)
	wantPut(t, "third round", p, 1, true, api.OK)
	wantPut(t, "full", p, 0, false, api.ErrFull)
}

func TestPostThatWasNeverToldAHead(t *testing.T) {
	for _, n := range sizes() {
		p := made(t, ring.NewPost, n)
		name := fmt.Sprintf("post of %d", n)
		for slot := range n - 1 {
			wantPut(t, name, p, slot, true, api.OK)
		}
		for range 3 {
			wantPut(t, name, p, 0, false, api.ErrFull)
		}
		wantErr(t, name, p.Free(0), api.OK)
		wantPut(t, name+": told where it was", p, 0, false, api.ErrFull)
		wantErr(t, name, p.Free(1%n), api.OK)
		wantPut(t, name+": told the next one", p, n-1, true, api.OK)
		wantPut(t, name+": full again", p, 0, false, api.ErrFull)
	}
}

func TestPhaseOfEachRound(t *testing.T) {
	for _, n := range sizes() {
		p := made(t, ring.NewPost, n)
		for round, phase := range []bool{true, false, true, false, true, false, true} {
			for slot := range n {
				wantPut(t, fmt.Sprintf("post of %d, round %d", n, round), p, slot, phase, api.OK)
				wantErr(t, "read", p.Free((slot+1)%n), api.OK)
			}
		}
	}
}

func TestPostThatGoesRoundManyTimes(t *testing.T) {
	for _, n := range sizes() {
		p := newPosts(t, n)
		for i := range 10000 {
			if !p.put(t, "one more") {
				t.Fatalf("post of %d: no room for the %d.", n, i)
			}
			if i >= n-2 {
				p.free(t, "the head follows", (i-n+3)%n)
			}
		}
	}
}

// TestPostThatIsToldAnyHead has each slot as head, wherever the post stands, over three rounds.
func TestPostThatIsToldAnyHead(t *testing.T) {
	for _, n := range sizes() {
		for put := range 3*n + 1 {
			for head := range n {
				name := fmt.Sprintf("post of %d, %d put, head %d", n, put, head)
				p := postAt(t, n, put)
				p.free(t, name, head)
				p.filled(t, name)
				// As many as there are slots from the tail on that are not the one ahead of the head.
				if got, want := p.like.put-put, (head-put%n-1+2*n)%n; got != want {
					t.Errorf("%s: %d had room, not %d", name, got, want)
				}
				p.put(t, name+": full as ahead")
				p.free(t, name, head)
				p.put(t, name+": told the same again")
				p.free(t, name, (head+1)%n)
				p.filled(t, name+": the next head")
			}
		}
	}
}

func TestTheHeadThatWasToldLastCounts(t *testing.T) {
	for _, n := range sizes() {
		for first := range n {
			for last := range n {
				p := newPosts(t, n)
				p.free(t, "first", first)
				p.free(t, "last", last)
				p.filled(t, fmt.Sprintf("post of %d, told %d, then %d", n, first, last))
			}
		}
	}
}

func TestHeadsThatThereAreNot(t *testing.T) {
	for _, n := range sizes() {
		for put := range 2*n + 1 {
			for _, head := range []int{-1, n, -2, n + 1, -n, 2 * n, 256, -256, 1 << 32, math.MinInt, math.MaxInt} {
				name := fmt.Sprintf("post of %d, %d put, head %d", n, put, head)
				p := postAt(t, n, put)
				wantErr(t, name, p.Free(head), api.ErrRange)
				p.filled(t, name)
				wantErr(t, name+", full", p.Free(head), api.ErrRange)
				p.put(t, name+", full")
				p.free(t, name, (p.like.head+1)%n)
				p.filled(t, name+", and then one that there is")
			}
		}
	}
	p := made(t, ring.NewPost, 2)
	wantErr(t, "-1", p.Free(-1), api.ErrRange)
	wantErr(t, "n", p.Free(2), api.ErrRange)
	wantErr(t, "0", p.Free(0), api.OK)
	wantErr(t, "n - 1", p.Free(1), api.OK)
}

func TestFullPostIsChangedByNoPut(t *testing.T) {
	for _, n := range sizes() {
		for put := range 2*n + 1 {
			p := postAt(t, n, put)
			name := fmt.Sprintf("post of %d, %d put", n, put)
			p.filled(t, name)
			for range 2 * n {
				wantPut(t, name, p.Post, 0, false, api.ErrFull)
			}
			for head := range n {
				p.free(t, name, head)
			}
			p.free(t, name, p.like.put%n)
			p.filled(t, name+": goes on where it was")
		}
	}
}

// TestFullPost asks ahead of each put whether there is room for it, and behind each head that is told.
func TestFullPost(t *testing.T) {
	p := made(t, ring.NewPost, 3)
	wantFull(t, "nothing was put", p, false)
	wantPut(t, "the first", p, 0, true, api.OK)
	wantFull(t, "one was put", p, false)
	wantPut(t, "the second", p, 1, true, api.OK)
	wantFull(t, "two were put", p, true)
	wantErr(t, "no such slot", p.Free(3), api.ErrRange)
	wantFull(t, "no head was told", p, true)
	wantErr(t, "one was read", p.Free(1), api.OK)
	wantFull(t, "one was read", p, false)
	wantPut(t, "the third", p, 2, true, api.OK)
	wantFull(t, "the slot behind it is the head", p, true)
	wantErr(t, "a head where no reader can be", p.Free(2), api.OK)
	wantFull(t, "a head where no reader can be", p, false)
}

// TestEverySequenceOfAPost has puts, and each head, the two that there are not among them.
func TestEverySequenceOfAPost(t *testing.T) {
	for n := 2; n <= 4; n++ {
		kinds := n + 3
		for all := range kinds * kinds * kinds * kinds * kinds {
			for put := range n + 1 {
				p := postAt(t, n, put)
				for left := all; left > 0; left /= kinds {
					if call := left % kinds; call == 0 {
						p.put(t, fmt.Sprint(n, put, all))
					} else {
						p.free(t, fmt.Sprint(n, put, all), call-2)
					}
				}
				p.filled(t, fmt.Sprint(n, put, all))
			}
		}
	}
}

func TestPostsShareNothing(t *testing.T) {
	one, two := newPosts(t, 3), newPosts(t, 3)
	for i := range 50 {
		one.put(t, "one")
		two.put(t, "two")
		if i%3 == 0 {
			one.free(t, "one", i%4)
		} else {
			two.free(t, "two", i%4)
		}
	}
}

// R3

func TestKnownSeer(t *testing.T) {
	s := made(t, ring.NewSeer, 3)
	wantTake(t, "nothing yet", s, []bool{false, false, false}, nil, api.OK)
	wantTake(t, "the others do not count", s, []bool{false, true, true}, nil, api.OK)
	wantTake(t, "one", s, []bool{true, false, false}, []int{0}, api.OK)
	wantTake(t, "the same again", s, []bool{true, false, false}, nil, api.OK)
	wantTake(t, "too few", s, []bool{true, true}, nil, api.ErrShape)
	wantTake(t, "two, over the end of the round", s, []bool{false, true, true}, []int{1, 2}, api.OK)
	wantTake(t, "the same again, of which the first is the next round's", s, []bool{false, true, true}, []int{0}, api.OK)
	wantTake(t, "second round", s, []bool{false, false, true}, []int{1}, api.OK)
	wantTake(t, "over the end of the second", s, []bool{true, false, false}, []int{2, 0}, api.OK)
	wantTake(t, "third round", s, []bool{true, true, true}, []int{1, 2}, api.OK)
	wantTake(t, "all are old", s, []bool{true, true, true}, nil, api.OK)
}

func TestPhasesThatAreAllOne(t *testing.T) {
	for _, n := range sizes() {
		name := fmt.Sprintf("seer of %d", n)
		var first []int
		for slot := range n - 1 {
			first = append(first, slot)
		}
		high, low := slices.Repeat([]bool{true}, n), make([]bool, n)
		s := made(t, ring.NewSeer, n)
		for range 3 {
			wantTake(t, name+": none was put", s, low, nil, api.OK)
			wantTake(t, name+": all true", s, high, first, api.OK)
			wantTake(t, name+": not the last one", s, low, nil, api.OK)
			wantTake(t, name+": the last one", s, high, []int{n - 1}, api.OK)
			wantTake(t, name+": all were taken", s, high, nil, api.OK)
			wantTake(t, name+": all false", s, low, first, api.OK)
			wantTake(t, name+": not the last one", s, high, nil, api.OK)
			wantTake(t, name+": the last one", s, low, []int{n - 1}, api.OK)
		}
	}
}

// TestSeerAnywhere has each place, over more than two rounds, with all phases that there can be; and looks again, at the same and at others.
func TestSeerAnywhere(t *testing.T) {
	for n := 2; n <= 7; n++ {
		for taken := range 2*n + 2 {
			for _, phases := range every(n) {
				s := seerAt(t, n, taken)
				for range 4 {
					s.take(t, "seer", phases)
				}
				for range 2 {
					s.take(t, "seer", slices.Repeat([]bool{phases[0]}, n))
				}
			}
		}
	}
}

func TestGreatestSeerAnywhere(t *testing.T) {
	r := rand.New(rand.NewSource(15))
	for n := 8; n <= api.MaxRing; n++ {
		for taken := range 2*n + 2 {
			for range 100 {
				// Mostly those that are taken, so that many are, with some turned.
				phases := standing(n, taken+r.Intn(n+1))
				for range r.Intn(3) {
					phases[r.Intn(n)] = r.Intn(2) == 0
				}
				s := seerAt(t, n, taken)
				s.take(t, "seer", phases)
				s.take(t, "again", phases)
			}
		}
	}
}

// TestSeerTakesAllButOne has, wherever it stands, all that can be put, and one slot more.
func TestSeerTakesAllButOne(t *testing.T) {
	for _, n := range sizes() {
		for taken := range 4*n + 1 {
			for more := range n + 1 {
				var want []int
				for i := range min(more, n-1) {
					want = append(want, (taken+i)%n)
				}
				name := fmt.Sprintf("seer of %d, %d taken, %d more", n, taken, more)
				s := seerAt(t, n, taken)
				phases := standing(n, taken+more)
				wantTake(t, name, s.Seer, phases, want, api.OK)
				want = nil
				if more == n {
					want = []int{(taken + n - 1) % n}
				}
				wantTake(t, name+": again", s.Seer, phases, want, api.OK)
				wantTake(t, name+": once more", s.Seer, phases, nil, api.OK)
			}
		}
	}
}

func TestNotAsManyPhasesAsSlots(t *testing.T) {
	for _, n := range sizes() {
		for taken := range 2*n + 1 {
			s := seerAt(t, n, taken)
			for _, other := range []int{0, 1, n - 1, n + 1, 2 * n, 256 + n, 65536 + n} {
				if other == n {
					continue
				}
				name := fmt.Sprintf("seer of %d, %d taken, %d phases", n, taken, other)
				// Of one of the two the slot where it stands is new.
				wantTake(t, name, s.Seer, make([]bool, other), nil, api.ErrShape)
				wantTake(t, name, s.Seer, slices.Repeat([]bool{true}, other), nil, api.ErrShape)
			}
			wantTake(t, "nil", s.Seer, nil, nil, api.ErrShape)
			// What lies behind a list's length is none of its phases.
			phases := append(standing(n, taken+1), true, false)
			wantTake(t, "one fewer, with more behind it", s.Seer, phases[:n-1], nil, api.ErrShape)
			wantTake(t, "none, with more behind it", s.Seer, phases[:0], nil, api.ErrShape)
			s.take(t, "goes on where it was", phases[:n])
			s.take(t, "none is new", phases[:n:n])
		}
	}
}

func TestPhasesAreNotKept(t *testing.T) {
	for _, n := range sizes() {
		one, two := newSeers(t, n), newSeers(t, n)
		phases := make([]bool, n)
		for i := range 6 * n {
			phases[i%n] = phaseOf(n, i)
			one.take(t, "one list", phases)
			two.take(t, "a list a call", standing(n, i+1))
			// Scrawled over and back: neither a call behind it nor the other seer hangs on that.
			for k := range phases {
				phases[k] = !phases[k]
			}
			two.take(t, "a list a call", standing(n, i+1))
			for k := range phases {
				phases[k] = !phases[k]
			}
		}
	}
}

func TestWhatIsTakenIsTheCallers(t *testing.T) {
	for _, n := range sizes() {
		one, two := newSeers(t, n), newSeers(t, n)
		var kept, want [][]int
		for i := range 6 * n {
			if i%2 == 0 {
				continue
			}
			phases := standing(n, i+1)
			for _, s := range []*seers{one, two} {
				got, err := s.Take(phases)
				slots, _ := s.like.take(phases)
				if err != nil || !slices.Equal(got, slots) {
					t.Fatalf("seer of %d: got %v, %v, want %v", n, got, err, slots)
				}
				kept, want = append(kept, got), append(want, slots)
			}
		}
		for i, got := range kept {
			if !slices.Equal(got, want[i]) {
				t.Errorf("seer of %d: what was taken became %v, was %v", n, got, want[i])
			}
			for k := range got[:cap(got)] {
				got[:cap(got)][k] = -1
			}
		}
		one.take(t, "behind a scrawl", standing(n, 6*n+1))
		two.take(t, "behind a scrawl", standing(n, 6*n+1))
	}
}

// R4

func TestWhatIsPushedIsPopped(t *testing.T) {
	r := rand.New(rand.NewSource(16))
	for _, n := range sizes() {
		q := made(t, ring.New, n)
		var pushed, popped []int
		for i := range 20000 {
			// At times more is pushed than popped, at times less, so that it is full and empty often.
			if r.Intn(100) < 30+40*(i/50%2) {
				if x := int(r.Uint64()); q.Push(x) == nil {
					pushed = append(pushed, x)
				}
			} else if x, err := q.Pop(); err == nil {
				popped = append(popped, x)
			}
		}
		for x, err := q.Pop(); err == nil; x, err = q.Pop() {
			popped = append(popped, x)
		}
		if len(pushed) < 1000 || !slices.Equal(popped, pushed) {
			t.Errorf("ring of %d: %d were pushed, %d popped, or others", n, len(pushed), len(popped))
		}
	}
}

// pair is a post and a seer, and the slots between them: what stands in each, with its phase.
type pair struct {
	*ring.Post
	*ring.Seer
	n           int
	values      []int
	phases      []bool
	head        int
	sent, taken []int
}

func newPair(t *testing.T, n int) *pair {
	t.Helper()
	return &pair{Post: made(t, ring.NewPost, n), Seer: made(t, ring.NewSeer, n), n: n, values: make([]int, n), phases: make([]bool, n)}
}

// send puts the next number, if there is room.
func (p *pair) send() bool {
	slot, phase, err := p.Put()
	if err != nil {
		return false
	}
	x := len(p.sent) + 1000
	p.values[slot], p.phases[slot] = x, phase
	p.sent = append(p.sent, x)
	return true
}

// look takes what is new, and asks that these are slots one behind the other.
func (p *pair) look(t *testing.T) int {
	t.Helper()
	slots, err := p.Take(p.phases)
	wantErr(t, "look", err, api.OK)
	for _, slot := range slots {
		if slot != p.head {
			t.Fatalf("pair of %d: slot %d is taken, not %d", p.n, slot, p.head)
		}
		p.taken = append(p.taken, p.values[slot])
		p.head = (p.head + 1) % p.n
	}
	return len(slots)
}

// tell tells the post the seer's head.
func (p *pair) tell(t *testing.T) {
	t.Helper()
	wantErr(t, "tell", p.Free(p.head), api.OK)
}

// wantAllTaken asks that what was put was taken, in order, each once.
func (p *pair) wantAllTaken(t *testing.T, name string) {
	t.Helper()
	if !slices.Equal(p.taken, p.sent) {
		t.Errorf("%s: pair of %d: put %d, taken %d, or others", name, p.n, len(p.sent), len(p.taken))
	}
}

func TestSeerThatLooksAtEachPut(t *testing.T) {
	for _, n := range sizes() {
		p := newPair(t, n)
		for i := range 5*n + 1 {
			if !p.send() || p.look(t) != 1 {
				t.Fatalf("pair of %d: put %d was not taken alone", n, i)
			}
			p.tell(t)
		}
		p.wantAllTaken(t, "each")
	}
}

func TestSeerThatLooksSeldom(t *testing.T) {
	for _, n := range sizes() {
		for every := 1; every < n; every++ {
			p := newPair(t, n)
			for range 5*n + 1 {
				for range every {
					if !p.send() {
						t.Fatalf("pair of %d: no room among %d", n, every)
					}
				}
				if got := p.look(t); got != every {
					t.Fatalf("pair of %d: %d of %d were taken", n, got, every)
				}
				p.tell(t)
			}
			p.wantAllTaken(t, "seldom")
		}
	}
}

func TestSeerThatLooksWhenThePostIsFull(t *testing.T) {
	for _, n := range sizes() {
		p := newPair(t, n)
		for range 5 * n {
			put := 0
			for p.send() {
				put++
			}
			if got := p.look(t); put != n-1 || got != n-1 {
				t.Fatalf("pair of %d: %d had room, %d were taken", n, put, got)
			}
			if p.send() {
				t.Fatalf("pair of %d: room ahead of a told head", n)
			}
			p.tell(t)
		}
		p.wantAllTaken(t, "full")
	}
}

func TestSeerThatLooksTwice(t *testing.T) {
	for _, n := range sizes() {
		p := newPair(t, n)
		for i := range 5 * n {
			for range i % n {
				p.send()
			}
			p.look(t)
			if got := p.look(t); got != 0 {
				t.Fatalf("pair of %d: %d were taken twice", n, got)
			}
			p.tell(t)
			if got := p.look(t); got != 0 {
				t.Fatalf("pair of %d: %d were taken behind a told head", n, got)
			}
		}
		p.wantAllTaken(t, "twice")
	}
}

// TestPostThatIsNotToldTheHead goes on looking: nothing is lost, but n - 1 are all that have room.
func TestPostThatIsNotToldTheHead(t *testing.T) {
	for _, n := range sizes() {
		p := newPair(t, n)
		for range 3 * n {
			p.send()
			p.look(t)
		}
		if len(p.sent) != n-1 {
			t.Errorf("pair of %d: %d had room", n, len(p.sent))
		}
		p.wantAllTaken(t, "not told")
	}
}

func TestSeerThatLooksNowAndThen(t *testing.T) {
	r := rand.New(rand.NewSource(17))
	for _, n := range sizes() {
		for sends := 1; sends < 8; sends++ {
			p := newPair(t, n)
			for range 3000 {
				switch call := r.Intn(10); {
				case call < sends:
					p.send()
				case call%2 == 0:
					p.look(t)
				default:
					// The head is told at some time behind the look, not always at once.
					p.tell(t)
				}
			}
			p.look(t)
			if len(p.sent) < 100 {
				t.Errorf("pair of %d: only %d were put", n, len(p.sent))
			}
			p.wantAllTaken(t, "now and then")
		}
	}
}

// FuzzRing does calls with a ring, a post and a seer: of two bytes the first says which, the second with what.
func FuzzRing(f *testing.F) {
	f.Add(byte(2), []byte{0, 5, 0, 6, 1, 0, 1, 0, 2, 0, 2, 0, 3, 1, 2, 0, 4, 3, 4, 3})
	f.Add(byte(3), []byte{2, 0, 2, 0, 2, 0, 3, 2, 2, 0, 2, 0, 3, 255, 3, 3, 4, 7, 4, 6, 5, 7})
	f.Add(byte(16), []byte{0, 1, 1, 1, 5, 255, 4, 255, 4, 0, 2, 0, 3, 16})
	f.Fuzz(func(t *testing.T, size byte, calls []byte) {
		n := 2 + int(size)%(api.MaxRing-1)
		r, p, s := newRings(t, n), newPosts(t, n), newSeers(t, n)
		for i := 0; i+1 < len(calls); i += 2 {
			x := int(calls[i+1])
			switch calls[i] % 6 {
			case 0:
				r.push(t, "ring", x)
			case 1:
				r.pop(t, "ring")
			case 2:
				p.put(t, "post")
			case 3:
				p.free(t, "post", x%(n+2)-1)
			case 4:
				// Those of a post that is ahead of it, with some turned.
				phases := standing(n, s.like.taken+x%16)
				phases[x/16%n] = x%2 == 0
				s.take(t, "seer", phases)
			case 5:
				s.take(t, "seer", make([]bool, x))
			}
		}
	})
}
