package order_test

import (
	"fmt"
	"math"
	"math/rand"
	"slices"
	"testing"

	"granary/api"
	"granary/order"
)

// found is a list of calls, with what Find has to answer: an order, or, if that is nil, that there is none.
type found struct {
	name  string
	calls []api.Call
	list  []int
}

func wantAll(t *testing.T, all []found) {
	t.Helper()
	for _, f := range all {
		want := api.OK
		if f.list == nil {
			want = api.ErrNone
		}
		wantFind(t, f.name, f.calls, f.list, want)
		// The model, by which more is asked, answers the same.
		wantLike(t, f.name, f.calls)
	}
}

func TestO2ReadsAlone(t *testing.T) {
	wantAll(t, []found{
		{"of 0", []api.Call{read(1, 2, 0, 0)}, []int{0}},
		{"of 0, of some block", []api.Call{read(0, 9, math.MaxInt, 0)}, []int{0}},
		{"of what nobody wrote", []api.Call{read(1, 2, 0, 1)}, nil},
		{"of several blocks", []api.Call{read(1, 2, 0, 0), read(1, 2, 1, 0), read(1, 2, 2, 0)}, []int{0, 1, 2}},
		{"of several blocks, one of what nobody wrote", []api.Call{read(1, 2, 0, 0), read(1, 2, 1, 5), read(1, 2, 2, 0)}, nil},
		{"one behind the other", []api.Call{read(3, 4, 0, 0), read(2, 3, 0, 0), read(1, 2, 0, 0)}, []int{2, 1, 0}},
	})
}

func TestO2OneBehindTheOther(t *testing.T) {
	wantAll(t, []found{
		{"what was written", []api.Call{write(1, 2, 0, 7), read(3, 4, 0, 7)}, []int{0, 1}},
		{"the other way round in the list", []api.Call{read(3, 4, 0, 7), write(1, 2, 0, 7)}, []int{1, 0}},
		{"a read of 0 behind a write", []api.Call{write(1, 2, 0, 7), read(3, 4, 0, 0)}, nil},
		{"a read of 0 ahead of any write", []api.Call{write(3, 4, 0, 7), read(1, 2, 0, 0)}, []int{1, 0}},
		{"a read ahead of its write", []api.Call{write(3, 4, 0, 7), read(1, 2, 0, 7)}, nil},
		{"a read of 0 behind a write of 0", []api.Call{write(1, 2, 0, 0), read(3, 4, 0, 0)}, []int{0, 1}},
		{"a read of 0 behind a write of 0 behind another", []api.Call{write(1, 2, 0, 7), write(3, 4, 0, 0), read(5, 6, 0, 0)}, []int{0, 1, 2}},
		{"a read of 0 with another behind the write of 0", []api.Call{write(1, 2, 0, 0), write(3, 4, 0, 7), read(5, 6, 0, 0)}, nil},
		{"a read that began behind a write, another write between", []api.Call{write(1, 2, 0, 7), write(2, 3, 0, 8), read(3, 4, 0, 7)}, nil},
		{"a read that began behind a write, without another between", []api.Call{write(1, 2, 0, 8), write(2, 3, 0, 7), read(3, 4, 0, 7)}, []int{0, 1, 2}},
		{"a write to another block between", []api.Call{write(1, 2, 0, 7), write(2, 3, 1, 8), read(3, 4, 0, 7)}, []int{0, 1, 2}},
		{"a read of another block", []api.Call{write(1, 2, 0, 7), read(3, 4, 1, 7)}, nil},
		{"two writes of the same Value, another between", []api.Call{write(1, 2, 0, 7), write(2, 3, 0, 8), write(3, 4, 0, 7), read(4, 5, 0, 7)}, []int{0, 1, 2, 3}},
		{"a block that was never written beside one that was", []api.Call{write(1, 2, 0, 7), read(3, 4, 1, 0), read(3, 4, 0, 7)}, []int{0, 1, 2}},
		{"reads of all Values one behind the other", []api.Call{read(9, 10, 0, 8), write(7, 8, 0, 8), read(5, 6, 0, 7), write(3, 4, 0, 7), read(1, 2, 0, 0)}, []int{4, 3, 2, 1, 0}},
	})
}

func TestO2AtTheSameTime(t *testing.T) {
	wantAll(t, []found{
		{"a read of what is being written", []api.Call{read(1, 3, 0, 7), write(2, 4, 0, 7)}, []int{1, 0}},
		{"a read of what was there", []api.Call{write(2, 4, 0, 7), read(1, 3, 0, 0)}, []int{1, 0}},
		{"a read of what comes within it", []api.Call{read(1, 9, 0, 7), write(4, 5, 0, 7)}, []int{1, 0}},
		{"a read within a write", []api.Call{read(4, 5, 0, 7), write(1, 9, 0, 7)}, []int{1, 0}},
		{"a read of what nobody wrote", []api.Call{read(1, 9, 0, 8), write(1, 9, 0, 7), write(1, 9, 1, 8)}, nil},
		{"two writes, a read of the first", []api.Call{write(1, 5, 0, 7), write(1, 5, 0, 8), read(6, 7, 0, 7)}, []int{1, 0, 2}},
		{"two writes, a read of the second", []api.Call{write(1, 5, 0, 7), write(1, 5, 0, 8), read(6, 7, 0, 8)}, []int{0, 1, 2}},
		{"two writes, reads of both, one behind the other", []api.Call{write(1, 5, 0, 7), write(1, 5, 0, 8), read(6, 7, 0, 8), read(7, 8, 0, 7)}, nil},
		{"two writes, reads of both at the same time as they", []api.Call{write(1, 9, 0, 7), write(1, 9, 0, 8), read(2, 3, 0, 8), read(3, 4, 0, 7)}, []int{1, 2, 0, 3}},
		{"two writes, reads of both, and of the first once more", []api.Call{write(1, 9, 0, 7), write(1, 9, 0, 8), read(1, 2, 0, 8), read(2, 3, 0, 7), read(3, 4, 0, 8)}, nil},
		{"one more write of the same Value", []api.Call{write(1, 9, 0, 7), write(1, 9, 0, 8), read(1, 2, 0, 8), read(2, 3, 0, 7), read(3, 4, 0, 8), write(1, 9, 0, 8)}, []int{1, 2, 0, 3, 5, 4}},
		{"a write of 0 for a read of 0", []api.Call{read(3, 4, 0, 0), write(1, 9, 0, 0), write(1, 2, 0, 7)}, []int{2, 1, 0}},
		{"no write of 0 for a read of 0", []api.Call{read(3, 4, 0, 0), write(1, 9, 0, 8), write(1, 2, 0, 7)}, nil},
		{"two blocks, whose orders do not go together", []api.Call{write(1, 9, 0, 7), read(1, 2, 0, 7), write(2, 3, 1, 8), write(1, 9, 1, 9), read(3, 4, 1, 9), read(4, 5, 1, 8)}, nil},
		{"two blocks, whose orders go together", []api.Call{write(1, 9, 0, 7), read(1, 2, 0, 7), write(2, 3, 1, 8), write(1, 9, 1, 9), read(3, 4, 1, 8), read(4, 5, 1, 9)}, []int{0, 1, 2, 4, 3, 5}},
	})
}

// What one read tells of one block binds what another may tell of another one.
func TestO2SeveralBlocks(t *testing.T) {
	wantAll(t, []found{
		{"each before the other's write was seen", []api.Call{write(1, 2, 0, 7), read(2, 3, 1, 0), write(1, 2, 1, 8), read(2, 3, 0, 0)}, nil},
		{"one of them saw", []api.Call{write(1, 9, 0, 7), read(2, 3, 1, 0), write(1, 9, 1, 8), read(3, 4, 0, 0)}, []int{1, 2, 3, 0}},
		{"crosswise, in two queues", []api.Call{write(1, 2, 0, 7), read(2, 9, 1, 0), write(1, 2, 1, 8), read(2, 9, 0, 7)}, nil},
		{"crosswise, at the same time", []api.Call{write(1, 3, 0, 7), read(2, 9, 1, 0), write(1, 3, 1, 8), read(2, 9, 0, 7)}, []int{0, 1, 2, 3}},
		{"the same Values in several blocks", []api.Call{write(1, 2, 0, 7), write(1, 2, 1, 8), read(2, 3, 0, 7), read(2, 3, 1, 8)}, []int{0, 1, 2, 3}},
		{"the same Values the wrong way round", []api.Call{write(1, 2, 0, 7), write(1, 2, 1, 8), read(2, 3, 0, 8), read(2, 3, 1, 7)}, nil},
	})
}

// A call whose To is another's From stands ahead of it; one that ends later may stand behind.
func TestO2Touching(t *testing.T) {
	for _, at := range []int{1, 2, 1000, 1 << 32, 1 << 62, math.MaxInt - 2} {
		w, r := write(0, at, 0, 7), read(0, at, 0, 7)
		name := fmt.Sprint(at)
		wantFind(t, name, []api.Call{w, read(at, at+1, 0, 0)}, nil, api.ErrNone)
		wantFind(t, name, []api.Call{w, read(at-1, at+1, 0, 0)}, []int{1, 0}, api.OK)
		wantFind(t, name, []api.Call{w, read(at+1, at+2, 0, 0)}, nil, api.ErrNone)
		wantFind(t, name, []api.Call{w, read(at, at+1, 0, 7)}, []int{0, 1}, api.OK)
		wantFind(t, name, []api.Call{r, write(at, at+1, 0, 7)}, nil, api.ErrNone)
		wantFind(t, name, []api.Call{r, write(at-1, at+1, 0, 7)}, []int{1, 0}, api.OK)
		wantFind(t, name, []api.Call{r, write(at+1, at+2, 0, 7)}, nil, api.ErrNone)
		// Where reads bind nothing, the times alone do.
		wantFind(t, name, []api.Call{write(at, at+1, 0, 7), w}, []int{1, 0}, api.OK)
		wantFind(t, name, []api.Call{write(at-1, at+1, 0, 7), w}, []int{0, 1}, api.OK)
		wantFind(t, name, []api.Call{write(at, at+1, 1, 7), w}, []int{1, 0}, api.OK)
	}
}

// Of several orders the first is told, by the numbers of the calls from the left.
func TestO2TheFirst(t *testing.T) {
	wantAll(t, []found{
		{"nothing binds", []api.Call{write(1, 9, 0, 7), write(1, 9, 0, 8), write(1, 9, 1, 9)}, []int{0, 1, 2}},
		{"later in time, first in the list", []api.Call{write(3, 9, 0, 7), write(2, 8, 0, 8), write(1, 7, 0, 9)}, []int{0, 1, 2}},
		{"a number that must wait, and no other", []api.Call{read(1, 9, 0, 8), write(1, 9, 0, 7), write(1, 9, 0, 8)}, []int{1, 2, 0}},
		{"as early as it can stand", []api.Call{read(1, 9, 0, 7), write(1, 9, 1, 5), write(1, 9, 0, 7), write(1, 9, 2, 6)}, []int{1, 2, 0, 3}},
		{"not the first Value that fits, if it leads to nothing", []api.Call{read(5, 9, 0, 7), write(1, 9, 0, 7), write(1, 3, 0, 8), read(3, 4, 0, 8)}, []int{2, 3, 1, 0}},
		{"the first numbers count more than the last", []api.Call{write(1, 9, 0, 7), write(1, 9, 0, 8), read(1, 9, 0, 0), read(1, 9, 1, 0)}, []int{2, 0, 1, 3}},
		{"reads of 0 let the writes wait", []api.Call{write(1, 9, 0, 7), write(1, 9, 1, 8), read(1, 9, 1, 0), read(1, 9, 0, 0)}, []int{2, 1, 3, 0}},
		{"a read of 0 may stand behind a write of 0", []api.Call{write(1, 9, 0, 7), write(1, 9, 0, 0), read(1, 9, 0, 0)}, []int{0, 1, 2}},
		{"ahead of another write of 0, too", []api.Call{write(1, 9, 0, 0), read(1, 9, 0, 0), write(1, 9, 0, 7)}, []int{0, 1, 2}},
		{"the first of two writes of the same Value", []api.Call{read(1, 9, 0, 7), write(1, 9, 0, 7), write(1, 9, 0, 7)}, []int{1, 0, 2}},
		{"times bind, and the rest goes by numbers", []api.Call{write(5, 6, 0, 7), write(1, 9, 1, 8), write(1, 5, 2, 9), write(1, 9, 3, 6)}, []int{1, 2, 0, 3}},
	})
}

// Numbers are told apart, and held against each other, as what they are.
func TestO2GreatNumbers(t *testing.T) {
	for _, a := range from0() {
		for _, b := range from0() {
			name := fmt.Sprintf("%d and %d", a, b)
			wantLike(t, "Lba "+name, []api.Call{write(1, 2, a, 7), read(2, 3, b, 7), read(2, 3, a, 7)})
			wantLike(t, "Lba "+name, []api.Call{write(1, 2, a, 7), read(2, 3, b, 0), read(2, 3, a, 7)})
			wantLike(t, "Value "+name, []api.Call{write(1, 2, 5, a), read(2, 3, 5, b)})
			wantLike(t, "Value "+name, []api.Call{write(1, 9, 5, a), write(1, 9, 5, b), read(2, 3, 5, a), read(3, 4, 5, b)})
			if a > 0 && b < math.MaxInt {
				wantLike(t, "To and From "+name, []api.Call{write(a-1, a, 0, 7), read(b, b+1, 0, 0)})
				wantLike(t, "To and From "+name, []api.Call{write(a-1, a, 0, 7), read(b, b+1, 0, 7)})
			}
		}
	}
}

// smallCalls are all calls with times up to a greatest one, on so many blocks, of so many Values.
func smallCalls(times, lbas, values int) []api.Call {
	var all []api.Call
	for to := 1; to <= times; to++ {
		for from := range to {
			for lba := range lbas {
				for value := range values {
					all = append(all, read(from, to, lba, value), write(from, to, lba, value))
				}
			}
		}
	}
	return all
}

// allLists calls with all lists of n of some calls.
func allLists(some []api.Call, n int, do func([]api.Call)) {
	calls := make([]api.Call, n)
	var fill func(at int)
	fill = func(at int) {
		if at == n {
			do(calls)
			return
		}
		for _, c := range some {
			calls[at] = c
			fill(at + 1)
		}
	}
	fill(0)
}

func TestO2AllSmall(t *testing.T) {
	for _, all := range []struct {
		n, times, lbas, values int
	}{
		{1, 3, 2, 3}, {2, 3, 2, 3}, {3, 3, 2, 2}, {3, 2, 2, 3}, {3, 3, 1, 3}, {4, 2, 1, 2}, {4, 1, 2, 2}, {5, 1, 1, 2},
	} {
		met := map[bool]int{}
		name := fmt.Sprintf("all of %+v", all)
		allLists(smallCalls(all.times, all.lbas, all.values), all.n, func(calls []api.Call) {
			met[wantLike(t, name, calls)]++
		})
		if met[true] < 10 || met[false] < 3 {
			t.Errorf("%s: %v", name, met)
		}
	}
}

func TestO2Random(t *testing.T) {
	for _, most := range []int{5, 6, mostCalls} {
		met := map[bool]int{}
		random := rand.New(rand.NewSource(int64(most)))
		for range 4000 {
			met[wantLike(t, "at random", anyCalls(random, anyKind(random, most)))]++
			// Such as have an order, and as are nearly so.
			k := anyKind(random, most)
			calls, _ := doneCalls(random, k)
			wantLike(t, "done", calls)
			if k.n > 0 {
				calls[random.Intn(k.n)].Value = random.Intn(k.values)
				met[wantLike(t, "nearly so", calls)]++
			}
		}
		if met[true] < 1000 || met[false] < 1000 {
			t.Errorf("%d calls: %v", most, met)
		}
	}
}

// As many calls as there may be, all at the same time.
func TestO2AllOverlap(t *testing.T) {
	var apart, pairs, back []api.Call
	for n := range mostCalls {
		apart = append(apart, write(n, 100-n, n, 7))
		// Behind each write of a block the read of what was there ahead of it.
		pairs = append(pairs, write(1, 2, n, 7))
		if n%2 == 1 {
			pairs[n] = read(1, 2, n-1, 0)
		}
		back = append(back, write(1, 2, 0, n))
	}
	wantFind(t, "nothing binds", apart, counted(mostCalls), api.OK)
	wantFind(t, "pairs", pairs, []int{1, 0, 3, 2, 5, 4, 7, 6, 9, 8}, api.OK)
	wantFind(t, "one block", back, counted(mostCalls), api.OK)
	for n := range mostCalls {
		// A read of a Value that nobody wrote, wherever it stands.
		for _, calls := range [][]api.Call{apart, pairs, back} {
			wantFind(t, "what nobody wrote", but(calls, n, read(50, 51, 0, 99)), nil, api.ErrNone)
			wantFind(t, "what nobody wrote", but(calls, n, read(1, 2, 99, 1)), nil, api.ErrNone)
		}
	}
	// Reads ahead of all writes in the list, the least Value last: each is read as soon as it stands there.
	var waiting []api.Call
	for n := range mostCalls / 2 {
		waiting = append(waiting, read(1, 9, 0, mostCalls/2-n))
	}
	for n := range mostCalls / 2 {
		waiting = append(waiting, write(1, 9, 0, n+1))
	}
	wantFind(t, "reads that wait", waiting, []int{5, 4, 6, 3, 7, 2, 8, 1, 9, 0}, api.OK)
	random := rand.New(rand.NewSource(1))
	for lbas := 1; lbas <= mostCalls; lbas++ {
		for range 10 {
			wantLike(t, "at random", anyCalls(random, kind{n: mostCalls, times: 1, long: 9, lbas: lbas, values: 1 + random.Intn(4)}))
		}
	}
}

// The list is not kept, and what is answered is the caller's.
func TestO2NothingIsKept(t *testing.T) {
	calls := []api.Call{read(1, 3, 0, 7), write(2, 4, 0, 7), write(1, 9, 1, 8)}
	first, err := order.Find(calls)
	if err != nil || !slices.Equal(first, []int{1, 0, 2}) {
		t.Fatalf("Find: %v, %v", first, err)
	}
	was := slices.Clone(calls)
	for i := range calls {
		calls[i] = write(1, 2, 0, 0)
	}
	if !slices.Equal(first, []int{1, 0, 2}) {
		t.Errorf("what was answered goes on with the list: %v", first)
	}
	wantFind(t, "the same list with other calls", calls, []int{0, 1, 2}, api.OK)
	all := first[:cap(first)]
	for i := range all {
		all[i] = -1
	}
	wantFind(t, "another list with the same calls", was, []int{1, 0, 2}, api.OK)
	second, _ := order.Find(was)
	third, _ := order.Find(was)
	second[0] = 9
	if !slices.Equal(third, []int{1, 0, 2}) {
		t.Errorf("two answers share what they tell: %v", third)
	}
	// What was asked ahead of it does not count.
	wantFind(t, "no order", []api.Call{read(1, 2, 0, 7)}, nil, api.ErrNone)
	wantFind(t, "the write was another list's", []api.Call{read(1, 2, 0, 7)}, nil, api.ErrNone)
	wantFind(t, "once more", was, []int{1, 0, 2}, api.OK)
}

// FuzzOrder holds Check and Find against what the chapter says of them, at calls that are read from bytes: five of each.
func FuzzOrder(f *testing.F) {
	f.Add([]byte{})
	f.Add([]byte{1, 3, 0, 0, 7, 2, 4, 1, 0, 7})
	f.Add([]byte{1, 2, 0, 0, 7, 2, 4, 1, 0, 7})
	f.Add([]byte{1, 1, 0, 0, 0, 255, 1, 0, 0, 0})
	f.Add(make([]byte, 5*(mostCalls+1)))
	f.Fuzz(func(t *testing.T, b []byte) {
		var calls []api.Call
		for len(b) >= 5 && len(calls) <= mostCalls {
			calls = append(calls, api.Call{From: int(int8(b[0])), To: int(int8(b[1])), IsWrite: b[2]%2 == 1, Lba: int(int8(b[3])), Value: int(int8(b[4]))})
			b = b[5:]
		}
		wantLike(t, "from bytes", calls)
	})
}
