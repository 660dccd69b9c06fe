package order_test

import (
	"fmt"
	"math"
	"slices"
	"testing"

	"granary/api"
)

// below0 are numbers that no call may have. Some have, in their lowest bytes, one that it may.
func below0() []int {
	return []int{-1, -2, -256, -65536, math.MinInt32, math.MinInt32 - 1, -1 << 32, -1 << 62, math.MinInt + 1, math.MinInt}
}

// from0 are numbers that a call may have.
func from0() []int {
	return []int{0, 1, 2, 127, 128, 255, 256, 257, 65535, 65536, math.MaxInt32, math.MaxInt32 + 1, math.MaxUint32, math.MaxUint32 + 1, 1 << 62, math.MaxInt - 1, math.MaxInt}
}

// fields lead to the numbers of a call.
func fields() map[string]func(*api.Call) *int {
	return map[string]func(*api.Call) *int{
		"From":  func(c *api.Call) *int { return &c.From },
		"To":    func(c *api.Call) *int { return &c.To },
		"Lba":   func(c *api.Call) *int { return &c.Lba },
		"Value": func(c *api.Call) *int { return &c.Value },
	}
}

// sameCalls gives a list of so many writes that are all the same.
func sameCalls(n int) []api.Call {
	return slices.Repeat([]api.Call{write(1, 2, 3, 4)}, n)
}

// but gives a list that is like another, but at one place.
func but(calls []api.Call, at int, c api.Call) []api.Call {
	calls = slices.Clone(calls)
	calls[at] = c
	return calls
}

// counted gives the numbers from 0 on.
func counted(n int) []int {
	list := make([]int, n)
	for i := range list {
		list[i] = i
	}
	return list
}

func TestO1HowManyCalls(t *testing.T) {
	for n := range mostCalls + 1 {
		name := fmt.Sprintf("%d calls", n)
		wantFind(t, name, sameCalls(n), counted(n), api.OK)
		// What lies behind the list does not count, right or wrong.
		wantFind(t, name, sameCalls(mostCalls + 5)[:n], counted(n), api.OK)
		wantFind(t, name, but(sameCalls(n+1), n, read(-1, -2, -3, -4))[:n], counted(n), api.OK)
		wantFind(t, name, but(sameCalls(n+1), n, read(0, 1, 3, 9))[:n], counted(n), api.OK)
	}
	wantFind(t, "nil", nil, nil, api.OK)
	wantFind(t, "empty", []api.Call{}, nil, api.OK)
	for _, n := range []int{mostCalls + 1, mostCalls + 2, 16, 64, 65, 256, 256 + mostCalls, 65536, 65536 + 1} {
		wantFind(t, fmt.Sprintf("%d calls", n), sameCalls(n), nil, api.ErrFull)
	}
}

// Ahead of all else it is told that there are too many.
func TestO1TooManyComesAheadOfAll(t *testing.T) {
	for _, n := range []int{mostCalls + 1, mostCalls + 2, 100} {
		for _, at := range []int{0, 1, mostCalls - 1, mostCalls, n - 1} {
			for name, c := range map[string]api.Call{
				"a number below 0": read(-1, 2, 0, 0), "To is From": write(2, 2, 0, 0), "both": read(0, -1, -1, -1), "no order": read(0, 1, 3, 9),
			} {
				wantFind(t, fmt.Sprintf("%d calls, %s", n, name), but(sameCalls(n), at, c), nil, api.ErrFull)
			}
		}
	}
}

func TestO1NumbersBelow0(t *testing.T) {
	for name, field := range fields() {
		for _, number := range below0() {
			for _, c := range []api.Call{read(1, 2, 0, 0), write(1, 2, 0, 0), read(5, math.MaxInt, 0, 0), write(0, math.MaxInt, math.MaxInt, math.MaxInt)} {
				*field(&c) = number
				name := fmt.Sprintf("%s %d", name, number)
				wantFind(t, name, []api.Call{c}, nil, api.ErrRange)
				for n := 2; n <= mostCalls; n++ {
					for at := range n {
						wantFind(t, name, but(sameCalls(n), at, c), nil, api.ErrRange)
					}
				}
			}
		}
	}
}

func TestO1NumbersFrom0(t *testing.T) {
	for _, number := range from0() {
		name := fmt.Sprint(number)
		wantFind(t, "Lba "+name, []api.Call{write(1, 2, number, 7), read(2, 3, number, 7)}, []int{0, 1}, api.OK)
		wantFind(t, "Lba "+name, []api.Call{read(1, 2, number, 0)}, []int{0}, api.OK)
		wantFind(t, "Value "+name, []api.Call{write(1, 2, 5, number), read(2, 3, 5, number)}, []int{0, 1}, api.OK)
		if number < math.MaxInt {
			wantFind(t, "From "+name, []api.Call{write(number, number+1, 0, 7)}, []int{0}, api.OK)
			wantFind(t, "From "+name, []api.Call{write(number, math.MaxInt, 0, 7)}, []int{0}, api.OK)
		}
		if number > 0 {
			wantFind(t, "To "+name, []api.Call{write(number-1, number, 0, 7)}, []int{0}, api.OK)
			wantFind(t, "To "+name, []api.Call{write(0, number, 0, 7)}, []int{0}, api.OK)
		}
	}
}

// A call ends later than it begins.
func TestO1ToIsLater(t *testing.T) {
	for _, from := range from0() {
		for _, to := range append(from0(), from-1, from, from+1) {
			want := api.OK
			if to < 0 { // From is 0, and To below it; or the greatest, and To goes round
				want = api.ErrRange
			} else if to <= from {
				want = api.ErrOrder
			}
			var list []int
			if want == api.OK {
				list = []int{0}
			}
			name := fmt.Sprintf("From %d, To %d", from, to)
			wantFind(t, name, []api.Call{read(from, to, 0, 0)}, list, want)
			wantFind(t, name, []api.Call{write(from, to, 2, 1)}, list, want)
		}
	}
	for n := 2; n <= mostCalls; n++ {
		for at := range n {
			for _, to := range []int{0, 4, 5} {
				wantFind(t, "one of several", but(sameCalls(n), at, write(5, to, 3, 4)), nil, api.ErrOrder)
			}
			wantCheck(t, "one of several", but(sameCalls(n), at, write(5, 6, 3, 4)), api.OK)
		}
	}
}

// Of one call ErrRange is told ahead of ErrOrder.
func TestO1RangeAheadOfOrder(t *testing.T) {
	for _, c := range []api.Call{
		read(2, -1, 0, 0), read(0, -1, 0, 0), read(-1, -1, 0, 0), read(-1, -2, 0, 0), read(math.MaxInt, math.MinInt, 0, 0),
		read(2, 2, -1, 0), read(3, 2, -1, 0), read(2, 2, 0, -1), read(3, 2, 0, -1), write(2, 1, -1, -1), write(-1, -1, -1, -1),
	} {
		wantFind(t, "of one call", []api.Call{c}, nil, api.ErrRange)
		wantFind(t, "of one of several", but(sameCalls(mostCalls), 4, c), nil, api.ErrRange)
	}
}

// All that is said of one call comes ahead of all that is said of the next.
func TestO1CallByCall(t *testing.T) {
	ranges := []api.Call{read(-1, 2, 0, 0), write(1, -1, 0, 0), read(1, 2, -1, 0), write(1, 2, 0, -1), read(2, 1, -1, -1)}
	orders := []api.Call{read(2, 2, 0, 0), write(2, 1, 0, 0), read(math.MaxInt, 0, 0, 0)}
	for n := 2; n <= mostCalls; n++ {
		for first := range n {
			for second := first + 1; second < n; second++ {
				for _, r := range ranges {
					for _, o := range orders {
						name := fmt.Sprintf("%d calls, at %d and %d", n, first, second)
						wantFind(t, name, but(but(sameCalls(n), first, r), second, o), nil, api.ErrRange)
						wantFind(t, name, but(but(sameCalls(n), first, o), second, r), nil, api.ErrOrder)
					}
				}
			}
		}
	}
}

// What is wrong with a call comes ahead of there being no order.
func TestO2ChecksErrorsFirst(t *testing.T) {
	nobody := read(1, 2, 3, 9) // a Value that nobody wrote
	for at := range 2 {
		calls := []api.Call{nobody, nobody}
		wantFind(t, "no order", calls, nil, api.ErrNone)
		wantFind(t, "ErrRange", but(calls, at, read(-1, 2, 3, 9)), nil, api.ErrRange)
		wantFind(t, "ErrOrder", but(calls, at, read(2, 2, 3, 9)), nil, api.ErrOrder)
	}
	wantFind(t, "no order", slices.Repeat([]api.Call{nobody}, mostCalls), nil, api.ErrNone)
	wantFind(t, "ErrFull", slices.Repeat([]api.Call{nobody}, mostCalls+1), nil, api.ErrFull)
}
