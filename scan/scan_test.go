package scan_test

import (
	"bytes"
	"fmt"
	"math"
	"math/rand"
	"runtime"
	"slices"
	"sync"
	"testing"
	"time"

	"granary/api"
	"granary/frame"
	"granary/plain"
	"granary/scan"
)

// The numbers as the chapters have them.
const (
	mostPages   = 4096
	mostWorkers = 8
	leastBytes  = 24
	mostBytes   = 4096
	maxLba      = 1<<32 - 1
	maxSeq      = 1 << 62
)

// sample is a page of which is known what it is, because it was made so.
type sample struct {
	page           []byte
	state          int
	kind, lba, seq int
}

// packed gives a page of n bytes with a frame.
func packed(n, kind, lba, seq int, data ...byte) sample {
	page, err := frame.Pack(n, api.Frame{Kind: kind, Lba: lba, Seq: seq, Data: data})
	if err != nil {
		panic(err)
	}
	return sample{page, api.Valid, kind, lba, seq}
}

func data(lba, seq int) sample { return packed(leastBytes, api.Data, lba, seq) }
func gone(lba, seq int) sample { return packed(leastBytes, api.Gone, lba, seq) }
func note(lba, seq int) sample { return packed(leastBytes, api.Note, lba, seq) }

// blank gives a page of n bytes, one at least, that was never written.
func blank(n int) sample {
	return sample{page: bytes.Repeat([]byte{0xFF}, n), state: api.Erased}
}

// broken takes a page for one that says nothing.
func broken(page []byte) sample { return sample{page: page, state: api.Broken} }

// turned gives a sample's page with a bit turned.
func turned(s sample, bit int) sample {
	page := slices.Clone(s.page)
	page[bit/8] ^= 1 << (bit % 8)
	return broken(page)
}

// torn gives a sample's page of which the second half was never written.
func torn(s sample) sample {
	half := len(s.page) / 2
	return broken(append(slices.Clone(s.page[:half]), bytes.Repeat([]byte{0xFF}, len(s.page)-half)...))
}

// states is what N1 says of States.
func states(samples []sample) []int {
	var out []int
	for _, s := range samples {
		out = append(out, s.state)
	}
	return out
}

func counts(s sample) bool {
	return s.state == api.Valid && (s.kind == api.Data || s.kind == api.Gone)
}

// newest is what N1 says of Newest: a page is told if no other one of its lba comes ahead of it.
func newest(samples []sample) []api.Found {
	var out []api.Found
	for i, s := range samples {
		told := counts(s)
		for j, o := range samples {
			if counts(o) && o.lba == s.lba && (o.seq > s.seq || o.seq == s.seq && j > i) {
				told = false
				break
			}
		}
		if told {
			out = append(out, api.Found{Lba: s.lba, Page: i, Seq: s.seq, Kind: s.kind})
		}
	}
	slices.SortFunc(out, func(a, b api.Found) int { return a.Lba - b.Lba })
	return out
}

// guarded gives the pages with more behind them in their memory, and behind each of them: what does not count.
func guarded(samples []sample) [][]byte {
	var pages [][]byte
	for _, s := range samples {
		if s.page == nil {
			pages = append(pages, nil)
			continue
		}
		long := append(slices.Clone(s.page), 0xFF, 0x5A, 0)
		pages = append(pages, long[:len(s.page)])
	}
	long := append(pages, data(0, maxSeq).page, gone(5, maxSeq).page, nil)
	return long[:len(samples)]
}

// behind gives all of the memory that lists of bytes lie in.
func behind(pages [][]byte) [][]byte {
	var out [][]byte
	for _, p := range pages[:cap(pages)] {
		out = append(out, p[:cap(p)])
	}
	return out
}

func copied(pages [][]byte) [][]byte {
	var out [][]byte
	for _, p := range pages {
		out = append(out, bytes.Clone(p))
	}
	return out
}

func wantStates(t *testing.T, pages [][]byte, workers int, want []int, e api.Errno) {
	t.Helper()
	got, err := scan.States(pages, workers)
	if !slices.Equal(got, want) || plain.Told(err) != e {
		t.Errorf("States of %d pages, %d workers: got %v, %v, want %v, %v", len(pages), workers, got, plain.Told(err), want, e)
	}
	if err != nil && got != nil {
		t.Errorf("States of %d pages, %d workers: a list beside an error", len(pages), workers)
	}
}

func wantNewest(t *testing.T, pages [][]byte, workers int, want []api.Found, e api.Errno) {
	t.Helper()
	got, err := scan.Newest(pages, workers)
	if !slices.Equal(got, want) || plain.Told(err) != e {
		t.Errorf("Newest of %d pages, %d workers: got %v, %v, want %v, %v", len(pages), workers, got, plain.Told(err), want, e)
	}
	if err != nil && got != nil {
		t.Errorf("Newest of %d pages, %d workers: a list beside an error", len(pages), workers)
	}
}

// wantKept asks that the pages, and what lies behind them, are what they were.
func wantKept(t *testing.T, pages, was [][]byte) {
	t.Helper()
	if !slices.EqualFunc(behind(pages), was, bytes.Equal) {
		t.Errorf("of %d pages some were written into", len(pages))
	}
}

// want asks both calls, with each of some numbers of workers, what the chapter says of the samples.
func want(t *testing.T, samples []sample, workers ...int) {
	t.Helper()
	pages := guarded(samples)
	was := copied(behind(pages))
	allStates, allNewest := states(samples), newest(samples)
	for _, w := range workers {
		wantStates(t, pages, w, allStates, api.OK)
		wantNewest(t, pages, w, allNewest, api.OK)
	}
	wantKept(t, pages, was)
}

// wantWrong asks the same error of both calls.
func wantWrong(t *testing.T, samples []sample, workers int, e api.Errno) {
	t.Helper()
	pages := guarded(samples)
	was := copied(behind(pages))
	wantStates(t, pages, workers, nil, e)
	wantNewest(t, pages, workers, nil, e)
	wantKept(t, pages, was)
}

// all numbers of workers that may be.
func all() []int { return []int{1, 2, 3, 4, 5, 6, 7, 8} }

// many gives n pages of all sorts.
func many(n int) []sample {
	var out []sample
	for i := range n {
		switch i % 11 {
		case 3:
			out = append(out, blank(1+i%40))
		case 5:
			out = append(out, turned(data(i, i), i%192))
		case 8:
			out = append(out, note(i%97, i))
		case 9:
			out = append(out, gone(i*31%97, i*17%1009))
		default:
			out = append(out, packed(leastBytes+i%50, api.Data, i*31%97, i*17%1009, bytes.Repeat([]byte{byte(i)}, i%4)...))
		}
	}
	return out
}

// N1

func TestTellsWhatIsNewest(t *testing.T) {
	pages := [][]byte{gone(3, 2).page, data(3, 1).page, {1}, data(1, 7).page, note(1, 9).page, {0xFF}, data(3, 0).page}
	for _, w := range all() {
		wantNewest(t, pages, w, []api.Found{{Lba: 1, Page: 3, Seq: 7, Kind: api.Data}, {Lba: 3, Page: 0, Seq: 2, Kind: api.Gone}}, api.OK)
		wantStates(t, pages, w, []int{api.Valid, api.Valid, api.Broken, api.Valid, api.Valid, api.Erased, api.Valid}, api.OK)
	}
}

func TestNoPages(t *testing.T) {
	for _, pages := range [][][]byte{nil, {}} {
		for _, w := range all() {
			wantStates(t, pages, w, nil, api.OK)
			wantNewest(t, pages, w, nil, api.OK)
		}
	}
	want(t, nil, all()...) // with some behind them in their memory
}

func TestPagesAtMost(t *testing.T) {
	for _, n := range []int{1, 2, 4095, 4096} {
		want(t, many(n), 1, 2, 7, 8)
	}
	for _, n := range []int{4097, 4098, 8192, 100000} {
		for _, s := range []sample{data(1, 1), blank(1), broken(nil)} {
			samples := slices.Repeat([]sample{s}, n)
			wantWrong(t, samples, 1, api.ErrFull)
			wantWrong(t, samples, mostWorkers, api.ErrFull)
		}
	}
	for _, w := range all() {
		wantWrong(t, many(mostPages+1), w, api.ErrFull)
	}
	if api.MaxPlaces != mostPages {
		t.Errorf("MaxPlaces is %d", api.MaxPlaces)
	}
}

func TestEveryLbaIsTold(t *testing.T) {
	var samples []sample
	for i := range mostPages {
		samples = append(samples, data((mostPages-1-i)*1000003%mostPages, i))
	}
	want(t, samples, 1, 3, 8)
	if got, err := scan.Newest(guarded(samples), 8); len(got) != mostPages || err != nil {
		t.Errorf("%d of %d are told, %v", len(got), mostPages, err)
	}
}

func TestWorkers(t *testing.T) {
	for _, n := range []int{0, 1, 20, mostPages, mostPages + 1} {
		samples := many(n)
		for _, w := range []int{0, 9, -1, -8, 10, 16, 256, 257, math.MinInt, math.MinInt + 1, 1 << 32, 1<<32 + 1, 1<<62 + 1, math.MaxInt} {
			wantWrong(t, samples, w, api.ErrRange)
		}
		if n <= 20 {
			want(t, samples, all()...)
		}
	}
	if api.MaxWorkers != mostWorkers {
		t.Errorf("MaxWorkers is %d", api.MaxWorkers)
	}
}

func TestFewerPagesThanWorkers(t *testing.T) {
	for n := range 10 {
		for from := range 11 {
			want(t, many(n + from)[from:], all()...)
		}
	}
	for _, s := range []sample{data(0, 0), gone(0, 0), note(0, 0), blank(24), broken([]byte{1}), broken(nil)} {
		want(t, []sample{s}, all()...)
	}
}

// Pages that say nothing.

func TestPagesOfNoBytes(t *testing.T) {
	for _, none := range [][]byte{nil, {}} {
		want(t, []sample{broken(none)}, all()...)
		want(t, []sample{broken(none), data(0, 0), broken(none), gone(0, 0), broken(none)}, all()...)
		want(t, slices.Repeat([]sample{broken(none)}, mostPages), 1, 8)
	}
}

func TestBlankPages(t *testing.T) {
	for _, n := range []int{1, 2, 23, 24, 25, 4095, 4096, 4097, 9000} {
		want(t, []sample{blank(n), data(4, 4), blank(n)}, 1, 2, 8)
		page := blank(n).page
		page[n-1] = 0xFE
		want(t, []sample{broken(page), data(4, 4), blank(n)}, 1, 2, 8)
	}
	want(t, slices.Repeat([]sample{blank(64)}, 100), all()...)
}

func TestBrokenPagesCountForNothing(t *testing.T) {
	good := data(7, 9)
	for bit := range 8 * leastBytes {
		want(t, []sample{gone(7, 1), turned(good, bit), note(7, 2)}, 1+bit%8)
	}
	for _, s := range []sample{good, gone(0, 0), packed(256, api.Data, 7, 99, 1, 2, 3)} {
		want(t, []sample{torn(s), data(7, 0), torn(s)}, 1, 2, 8)
		want(t, []sample{broken(s.page[:len(s.page)-1]), data(7, 0)}, 1, 2, 8)
		want(t, []sample{data(7, 0), broken(append(slices.Clone(s.page), 0))}, 1, 2, 8)
		want(t, []sample{data(7, 0), broken(make([]byte, len(s.page)))}, 1, 2, 8)
	}
}

func TestPagesOfUnlikeSizes(t *testing.T) {
	samples := []sample{blank(1), broken([]byte{0xA5}), broken(nil)}
	for i, n := range []int{24, 25, 31, 64, 255, 256, 257, 4095, 4096} {
		samples = append(samples,
			packed(n, api.Data, i/2, i, bytes.Repeat([]byte{0xFF}, n-21)...),
			packed(n, api.Gone, i%3, 5),
			packed(n, api.Note, i, 50, bytes.Repeat([]byte{byte(i)}, (n-21)/2)...))
	}
	samples = append(samples, broken(make([]byte, mostBytes+1)), blank(mostBytes+1))
	want(t, samples, all()...)
	slices.Reverse(samples)
	want(t, samples, all()...)
}

// Which are told.

func TestKinds(t *testing.T) {
	for _, w := range all() {
		wantNewest(t, [][]byte{data(2, 5).page}, w, []api.Found{{Lba: 2, Page: 0, Seq: 5, Kind: 1}}, api.OK)
		wantNewest(t, [][]byte{gone(2, 5).page}, w, []api.Found{{Lba: 2, Page: 0, Seq: 5, Kind: 2}}, api.OK)
		wantNewest(t, [][]byte{note(2, 5).page}, w, nil, api.OK)
		wantStates(t, [][]byte{data(2, 5).page, gone(2, 5).page, note(2, 5).page}, w, []int{2, 2, 2}, api.OK)
		wantNewest(t, [][]byte{gone(2, 5).page, data(2, 6).page}, w, []api.Found{{Lba: 2, Page: 1, Seq: 6, Kind: 1}}, api.OK)
		wantNewest(t, [][]byte{gone(2, 6).page, data(2, 5).page}, w, []api.Found{{Lba: 2, Page: 0, Seq: 6, Kind: 2}}, api.OK)
		wantNewest(t, [][]byte{note(2, 9).page, data(2, 5).page, note(2, 9).page, note(3, 0).page}, w, []api.Found{{Lba: 2, Page: 1, Seq: 5, Kind: 1}}, api.OK)
	}
}

func TestTheLastOfSeveral(t *testing.T) {
	for _, w := range all() {
		wantNewest(t, [][]byte{data(2, 5).page, gone(2, 5).page}, w, []api.Found{{Lba: 2, Page: 1, Seq: 5, Kind: 2}}, api.OK)
		wantNewest(t, [][]byte{gone(2, 5).page, data(2, 5).page}, w, []api.Found{{Lba: 2, Page: 1, Seq: 5, Kind: 1}}, api.OK)
		wantNewest(t, [][]byte{data(2, 5).page, data(2, 5).page, data(2, 5).page, note(2, 5).page, data(2, 4).page, {}}, w,
			[]api.Found{{Lba: 2, Page: 2, Seq: 5, Kind: 1}}, api.OK)
	}
	for _, n := range []int{2, 9, 100, mostPages} {
		want(t, slices.Repeat([]sample{data(2, 5)}, n), 1, 2, 8)
		want(t, append(slices.Repeat([]sample{data(2, 5), gone(1, 5)}, n/2-1), data(2, 4), note(1, 6)), 1, 2, 8)
	}
}

func TestLbasAndSeqsOfAllSizes(t *testing.T) {
	lbas := []int{0, 1, 255, 256, 1<<31 - 1, 1 << 31, maxLba - 1, maxLba}
	seqs := []int{0, 1, 255, 1 << 31, 1 << 32, 1<<53 + 1, 1<<61 + 1, maxSeq - 1, maxSeq}
	var samples []sample
	for _, lba := range lbas {
		for _, seq := range seqs {
			samples = append(samples, data(lba, seq), gone(lba, seq))
			want(t, []sample{data(lba, seq)}, 1, 8)
			want(t, []sample{gone(lba, seq), blank(24), broken(nil)}, 1, 8)
		}
		for i := range seqs[1:] {
			want(t, []sample{data(lba, seqs[i+1]), gone(lba, seqs[i])}, 1, 8)
			want(t, []sample{data(lba, seqs[i]), gone(lba, seqs[i+1])}, 1, 8)
		}
	}
	want(t, samples, all()...)
	slices.Reverse(samples)
	want(t, samples, all()...)
}

func TestWhatIsZeroIsNotLbaZero(t *testing.T) {
	nothing := []sample{blank(24), broken(nil), note(0, 0), broken([]byte{1}), note(0, 9)}
	want(t, nothing, all()...)
	for i := range nothing {
		want(t, slices.Insert(slices.Clone(nothing), i, data(0, 0)), all()...)
	}
}

func TestInOrderOfTheLbas(t *testing.T) {
	r := rand.New(rand.NewSource(3))
	for range 50 {
		var samples []sample
		for _, i := range r.Perm(60) {
			samples = append(samples, data(i*71582788, r.Intn(9)))
		}
		got, err := scan.Newest(guarded(samples), 1+r.Intn(8))
		if err != nil || len(got) != 60 {
			t.Fatalf("%d are told, %v", len(got), err)
		}
		for i, f := range got {
			if f.Lba != i*71582788 {
				t.Fatalf("at %d is told %v", i, f)
			}
		}
	}
}

// N2

func TestItDoesNotHangOnHowManyWorkersThereAre(t *testing.T) {
	for seed := range 40 {
		want(t, someSamples(rand.New(rand.NewSource(int64(seed))), 10*seed), all()...)
	}
}

// TestItDoesNotHangOnTurns asks the same many times over, with each number of threads.
func TestItDoesNotHangOnTurns(t *testing.T) {
	samples := someSamples(rand.New(rand.NewSource(1)), 200)
	pages := guarded(samples)
	allStates, allNewest := states(samples), newest(samples)
	defer runtime.GOMAXPROCS(runtime.GOMAXPROCS(0))
	for _, threads := range []int{1, 2, 3, 8, 16} {
		runtime.GOMAXPROCS(threads)
		for i := range 300 {
			wantStates(t, pages, 1+i%8, allStates, api.OK)
			wantNewest(t, pages, 1+i%8, allNewest, api.OK)
		}
		if t.Failed() {
			t.Fatalf("with %d threads", threads)
		}
	}
}

// TestCallsAtTheSameTime asks of the same pages from several sides: no call sees another.
func TestCallsAtTheSameTime(t *testing.T) {
	samples := someSamples(rand.New(rand.NewSource(2)), 100)
	pages := guarded(samples)
	was := copied(behind(pages))
	allStates, allNewest := states(samples), newest(samples)
	var group sync.WaitGroup
	for i := range 16 {
		group.Go(func() {
			for j := range 50 {
				wantStates(t, pages[:50], 1+(i+j)%8, allStates[:50], api.OK)
				wantNewest(t, pages, 1+(i+j)%8, allNewest, api.OK)
			}
		})
	}
	group.Wait()
	wantKept(t, pages, was)
}

// joined is what N2 says of pages and more pages: of each lba that of the one or that of the other.
func joined(one, other []api.Found, pages int) []api.Found {
	out := slices.Clone(one)
	for _, f := range other {
		f.Page += pages
		i := slices.IndexFunc(out, func(o api.Found) bool { return o.Lba == f.Lba })
		if i < 0 {
			out = append(out, f)
		} else if f.Seq >= out[i].Seq {
			out[i] = f
		}
	}
	slices.SortFunc(out, func(a, b api.Found) int { return a.Lba - b.Lba })
	return out
}

func TestPagesAndMorePages(t *testing.T) {
	for seed := range 500 {
		r := rand.New(rand.NewSource(int64(seed)))
		pages := guarded(someSamples(r, r.Intn(80)))
		cut := r.Intn(len(pages) + 1)
		one, err := scan.Newest(pages[:cut], 1+r.Intn(8))
		other, otherErr := scan.Newest(pages[cut:], 1+r.Intn(8))
		if err != nil || otherErr != nil {
			t.Fatal(err, otherErr)
		}
		wantNewest(t, pages, 1+r.Intn(8), joined(one, other, cut), api.OK)
		if t.Failed() {
			t.Fatalf("seed %d", seed)
		}
	}
}

func TestStatesOfPagesAndMorePages(t *testing.T) {
	pages := guarded(many(100))
	for cut := range len(pages) + 1 {
		one, err := scan.States(pages[:cut], 3)
		other, otherErr := scan.States(pages[cut:], 5)
		if err != nil || otherErr != nil {
			t.Fatal(err, otherErr)
		}
		wantStates(t, pages, 8, slices.Concat(one, other), api.OK)
	}
}

// What is said of the whole, and not of this chapter alone.

func TestWhatComesOutIsTheCallers(t *testing.T) {
	samples := many(30)
	pages := guarded(samples)
	was := copied(behind(pages))
	oneStates, _ := scan.States(pages, 4)
	otherStates, _ := scan.States(pages, 4)
	oneNewest, _ := scan.Newest(pages, 4)
	otherNewest, _ := scan.Newest(pages, 4)
	clear(oneStates[:cap(oneStates)])
	clear(oneNewest[:cap(oneNewest)])
	if !slices.Equal(otherStates, states(samples)) || !slices.Equal(otherNewest, newest(samples)) {
		t.Error("two answers share memory")
	}
	wantKept(t, pages, was)
	want(t, samples, 4)
}

// TestNothingIsLookedAtBehindTheCall writes into the pages as soon as a call has answered: what it said stays, and no worker still looks (which the race detector would tell).
func TestNothingIsLookedAtBehindTheCall(t *testing.T) {
	samples := many(64)
	for i := range 200 {
		pages := guarded(samples)
		gotStates, err := scan.States(pages, 1+i%8)
		spoil(pages)
		if !slices.Equal(gotStates, states(samples)) || err != nil {
			t.Fatalf("got %v, %v", gotStates, err)
		}
		pages = guarded(samples)
		gotNewest, err := scan.Newest(pages, 1+i%8)
		spoil(pages)
		if !slices.Equal(gotNewest, newest(samples)) || err != nil {
			t.Fatalf("got %v, %v", gotNewest, err)
		}
	}
}

func spoil(pages [][]byte) {
	for i, p := range pages {
		clear(p[:cap(p)])
		pages[i] = nil
	}
}

func TestNothingIsKept(t *testing.T) {
	samples := []sample{data(1, 9), data(2, 9)}
	pages := guarded(samples)
	wantNewest(t, pages, 2, newest(samples), api.OK)
	wantWrong(t, samples, 0, api.ErrRange)
	copy(pages[0], gone(1, 3).page)
	wantNewest(t, pages, 2, []api.Found{{Lba: 1, Page: 0, Seq: 3, Kind: 2}, {Lba: 2, Page: 1, Seq: 9, Kind: 1}}, api.OK)
	pages[1][0] = 0
	wantNewest(t, pages, 2, []api.Found{{Lba: 1, Page: 0, Seq: 3, Kind: 2}}, api.OK)
	wantStates(t, pages, 2, []int{api.Valid, api.Broken}, api.OK)
}

// TestWorkersEnd asks that no worker is left, also of calls that answer an error.
func TestWorkersEnd(t *testing.T) {
	ahead := runtime.NumGoroutine()
	pages, tooMany := guarded(many(5)), guarded(many(mostPages+1))
	for range 300 {
		scan.States(pages, 8)
		scan.Newest(pages, 8)
		scan.States(nil, 8)
		scan.Newest(tooMany, 8)
		scan.States(tooMany, 9)
	}
	// One that has told its end may still be counted for a little while.
	for range 10000 {
		if runtime.NumGoroutine() <= ahead {
			return
		}
		time.Sleep(time.Millisecond)
	}
	t.Errorf("there were %d goroutines, and are %d", ahead, runtime.NumGoroutine())
}

func TestOnePageInManyPlaces(t *testing.T) {
	page := data(6, 6).page
	pages := slices.Repeat([][]byte{page}, 50)
	for _, w := range all() {
		wantStates(t, pages, w, slices.Repeat([]int{api.Valid}, 50), api.OK)
		wantNewest(t, pages, w, []api.Found{{Lba: 6, Page: 49, Seq: 6, Kind: 1}}, api.OK)
	}
}

// TestAllSmallLists asks all lists of up to four pages of some sorts.
func TestAllSmallLists(t *testing.T) {
	sorts := []sample{data(0, 0), data(0, 1), gone(0, 1), note(0, 2), data(1, 0), gone(1, 0), blank(24), broken(nil)}
	lists := [][]sample{nil}
	for range 4 {
		var longer [][]sample
		for _, list := range lists {
			for _, s := range sorts {
				longer = append(longer, append(slices.Clone(list), s))
			}
		}
		for i, list := range longer {
			want(t, list, 1, 2+i%7)
		}
		if t.Failed() {
			return
		}
		lists = longer
	}
}

// someSamples gives pages whose lbas and seqs are often the same.
func someSamples(r *rand.Rand, n int) []sample {
	lbas, seqs := 1+r.Intn(12), 1+r.Intn(6)
	var out []sample
	for range n {
		s := packed(leastBytes+r.Intn(20), 1+r.Intn(3), r.Intn(lbas), r.Intn(seqs), byte(r.Intn(256)))
		switch r.Intn(12) {
		case 0:
			s = blank(1 + r.Intn(40))
		case 1:
			s = turned(s, r.Intn(8*len(s.page)))
		case 2:
			s = torn(s)
		case 3:
			s = broken(make([]byte, r.Intn(30)))
		}
		out = append(out, s)
	}
	return out
}

func TestManyLists(t *testing.T) {
	for seed := range 1500 {
		r := rand.New(rand.NewSource(int64(seed)))
		want(t, someSamples(r, r.Intn(70)), 1+r.Intn(8), 1+r.Intn(8))
		if t.Failed() {
			t.Fatalf("seed %d", seed)
		}
	}
}

// FuzzScan makes pages of three bytes each, by turns packed and as they are, and holds the calls against what the chapters say.
func FuzzScan(f *testing.F) {
	f.Add([]byte{1, 3, 1, 2, 3, 2}, 3)
	f.Add([]byte{}, 1)
	f.Add([]byte{0, 255, 255, 4, 0, 0, 3, 9, 9, 5, 24, 255}, 8)
	f.Add([]byte{1, 1, 1}, 9)
	f.Fuzz(func(t *testing.T, text []byte, workers int) {
		var samples []sample
		for ; len(text) >= 3 && len(samples) < 200; text = text[3:] {
			s := sample{page: bytes.Repeat([]byte{text[2]}, int(text[1]))}
			if kind := int(text[0]) % 5; kind >= api.Data && kind <= api.Note {
				s = packed(leastBytes+int(text[0])/16, kind, int(text[1])<<24, int(text[2])<<54)
			} else {
				s.state = api.Broken
				if text[1] > 0 && text[2] == 0xFF {
					s.state = api.Erased
				}
			}
			samples = append(samples, s)
		}
		if workers < 1 || workers > mostWorkers {
			wantWrong(t, samples, workers, api.ErrRange)
			return
		}
		want(t, samples, workers)
	})
}

func ExampleNewest() {
	one, _ := frame.Pack(24, api.Frame{Kind: api.Data, Lba: 3, Seq: 1})
	other, _ := frame.Pack(24, api.Frame{Kind: api.Gone, Lba: 3, Seq: 2})
	found, err := scan.Newest([][]byte{other, one, {1}}, 3)
	fmt.Println(found, err)
	// Output: [{3 0 2 2}] <nil>
}
