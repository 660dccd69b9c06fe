package order_test

import (
	"math/rand"
	"slices"
	"testing"

	"granary/api"
	"granary/order"
	"granary/plain"
)

// mostCalls is the number as the chapter has it.
const mostCalls = 10

// write is a call that writes a Value to a block.
func write(from, to, lba, value int) api.Call {
	return api.Call{From: from, To: to, IsWrite: true, Lba: lba, Value: value}
}

// read is a call that reads a Value from a block.
func read(from, to, lba, value int) api.Call {
	return api.Call{From: from, To: to, Lba: lba, Value: value}
}

// likeCheck is what the chapter says of Check.
func likeCheck(calls []api.Call) api.Errno {
	if len(calls) > mostCalls {
		return api.ErrFull
	}
	for _, c := range calls {
		if c.From < 0 || c.To < 0 || c.Lba < 0 || c.Value < 0 {
			return api.ErrRange
		}
		if !(c.To > c.From) {
			return api.ErrOrder
		}
	}
	return api.OK
}

// told gives what a read of a block tells behind those calls.
func told(calls []api.Call, ahead []int, lba int) int {
	for i := len(ahead) - 1; i >= 0; i-- {
		if c := calls[ahead[i]]; c.IsWrite && c.Lba == lba {
			return c.Value
		}
	}
	return 0
}

// isOrder asks of a list of numbers what the chapter says of an order.
func isOrder(calls []api.Call, list []int) bool {
	if len(list) != len(calls) {
		return false
	}
	place := make([]int, len(calls))
	for i := range place {
		place[i] = -1
	}
	for i, n := range list {
		if n < 0 || n >= len(calls) || place[n] >= 0 {
			return false
		}
		place[n] = i
	}
	for n, c := range calls {
		for m, other := range calls {
			if c.To <= other.From && place[n] > place[m] {
				return false
			}
		}
		if !c.IsWrite && told(calls, list[:place[n]], c.Lba) != c.Value {
			return false
		}
	}
	return true
}

// likeFind is what the chapter says of Find: it looks at all lists of the numbers, by these from the left.
func likeFind(calls []api.Call) ([]int, api.Errno) {
	if err := likeCheck(calls); err != api.OK {
		return nil, err
	}
	list := make([]int, len(calls))
	for i := range list {
		list[i] = i
	}
	for {
		if isOrder(calls, list) {
			return list, api.OK
		}
		if !goUp(list) {
			return nil, api.ErrNone
		}
	}
}

// goUp makes the list that comes next; false behind the last one.
func goUp(list []int) bool {
	i := len(list) - 2
	for i >= 0 && list[i] > list[i+1] {
		i--
	}
	if i < 0 {
		return false
	}
	j := len(list) - 1
	for list[j] < list[i] {
		j--
	}
	list[i], list[j] = list[j], list[i]
	slices.Reverse(list[i+1:])
	return true
}

// likeFindMany is as likeFind, for more calls: it leaves a list as soon as its beginning is that of no order.
func likeFindMany(calls []api.Call) ([]int, api.Errno) {
	if err := likeCheck(calls); err != api.OK {
		return nil, err
	}
	list, ok := goOn(calls, nil)
	if !ok {
		return nil, api.ErrNone
	}
	return list, api.OK
}

func goOn(calls []api.Call, list []int) ([]int, bool) {
	if len(list) == len(calls) {
		return list, true
	}
	for n := range calls {
		if !mayStand(calls, list, n) {
			continue
		}
		if all, ok := goOn(calls, append(slices.Clone(list), n)); ok {
			return all, true
		}
	}
	return nil, false
}

func mayStand(calls []api.Call, list []int, n int) bool {
	if slices.Contains(list, n) {
		return false
	}
	for m, other := range calls {
		if other.To <= calls[n].From && !slices.Contains(list, m) {
			return false
		}
	}
	return calls[n].IsWrite || told(calls, list, calls[n].Lba) == calls[n].Value
}

// wantCheck asks for an error of Check, and that it does not write into the calls, nor behind them.
func wantCheck(t testing.TB, name string, calls []api.Call, want api.Errno) {
	t.Helper()
	all := calls[:cap(calls)]
	was := slices.Clone(all)
	if got := plain.Told(order.Check(calls)); got != want {
		t.Errorf("%s: Check(%+v): got %v, want %v", name, calls, got, want)
	}
	if !slices.Equal(all, was) {
		t.Errorf("%s: Check writes into the calls: %+v, which were %+v", name, all, was)
	}
}

// wantFind asks for an order or for an error, beside which there is none; for Check's error, too; and that Find does not write into the calls, nor behind them.
func wantFind(t testing.TB, name string, calls []api.Call, list []int, want api.Errno) {
	t.Helper()
	all := calls[:cap(calls)]
	was := slices.Clone(all)
	got, err := order.Find(calls)
	if !slices.Equal(got, list) || plain.Told(err) != want {
		t.Errorf("%s: Find(%+v): got %v, %v, want %v, %v", name, calls, got, plain.Told(err), list, want)
	}
	if !slices.Equal(all, was) {
		t.Errorf("%s: Find writes into the calls: %+v, which were %+v", name, all, was)
	}
	if want == api.ErrNone {
		want = api.OK
	}
	wantCheck(t, name, calls, want)
}

// wantLike holds Find against what the chapter says of it, for few calls or for any number; it tells whether there is an order.
func wantLike(t testing.TB, name string, calls []api.Call) bool {
	t.Helper()
	like := likeFind
	if len(calls) > 6 {
		like = likeFindMany
	}
	list, want := like(calls)
	wantFind(t, name, calls, list, want)
	return want == api.OK
}

// kind is what calls are made of at random.
type kind struct {
	n, times, long, lbas, values int // how many calls, when they begin, how long they last at most, on which blocks, of which Values
}

func anyKind(random *rand.Rand, most int) kind {
	return kind{n: random.Intn(most + 1), times: 1 + random.Intn(20), long: 1 + random.Intn(20), lbas: 1 + random.Intn(4), values: 1 + random.Intn(4)}
}

func anyCalls(random *rand.Rand, k kind) []api.Call {
	calls := make([]api.Call, k.n)
	for i := range calls {
		from := random.Intn(k.times)
		calls[i] = api.Call{From: from, To: from + 1 + random.Intn(k.long), IsWrite: random.Intn(2) == 0, Lba: random.Intn(k.lbas), Value: random.Intn(k.values)}
	}
	return calls
}

// doneCalls gives calls that were done one behind the other, rightly, each at some time between its From and its To, in whatever order they stand; and that order in which they were done.
func doneCalls(random *rand.Rand, k kind) ([]api.Call, []int) {
	calls, list := make([]api.Call, k.n), random.Perm(k.n)
	values := make([]int, k.lbas)
	for at, n := range list {
		now := 100 + 2*at
		c := api.Call{From: now - 1 - random.Intn(k.long), To: now + 1 + random.Intn(k.long), IsWrite: random.Intn(2) == 0, Lba: random.Intn(k.lbas)}
		if c.IsWrite {
			values[c.Lba] = random.Intn(k.values)
		}
		c.Value = values[c.Lba]
		calls[n] = c
	}
	return calls, list
}
