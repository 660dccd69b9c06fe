package list_test

import (
	"bytes"
	"encoding/binary"
	"fmt"
	"math"
	"math/rand"
	"slices"
	"testing"

	"granary/api"
	"granary/list"
	"granary/mem"
	"granary/plain"
)

const greatest = 1 << 62

func mustNew(t *testing.T, n int) *mem.Memory {
	t.Helper()
	m, err := mem.New(n)
	if err != nil {
		t.Fatalf("mem.New(%d): %v", n, err)
	}
	return m
}

func mustWrite(t *testing.T, m *mem.Memory, at int, data []byte) {
	t.Helper()
	if err := m.Write(at, data); err != nil {
		t.Fatalf("Write at %d: %v", at, err)
	}
}

// setNumbers lets numbers stand one behind the other, from at on.
func setNumbers(t *testing.T, m *mem.Memory, at int, numbers ...int) {
	t.Helper()
	for i, x := range numbers {
		if err := m.SetNumber(at+8*i, x); err != nil {
			t.Fatalf("SetNumber(%d, %d): %v", at+8*i, x, err)
		}
	}
}

// all gives the bytes of a memory.
func all(t *testing.T, m *mem.Memory) []byte {
	t.Helper()
	data, err := m.Read(0, m.Size())
	if err != nil {
		t.Fatalf("Read of all: %v", err)
	}
	return data
}

func wantAll(t *testing.T, name string, m *mem.Memory, want []byte) {
	t.Helper()
	got := all(t, m)
	if len(got) != len(want) {
		t.Errorf("%s: the memory has %d bytes, want %d", name, len(got), len(want))
		return
	}
	for i := range got {
		if got[i] != want[i] {
			t.Errorf("%s: byte %d of the memory is %d, want %d", name, i, got[i], want[i])
			return
		}
	}
}

func wantErr(t *testing.T, name string, err error, want api.Errno) {
	t.Helper()
	if got := plain.Told(err); got != want {
		t.Errorf("%s: got %v, want %v", name, got, want)
	}
}

// some gives n bytes, other ones for each seed.
func some(n, seed int) []byte {
	data := make([]byte, n)
	rand.New(rand.NewSource(int64(seed))).Read(data)
	return data
}

// filled gives a memory of n bytes that are not all 0.
func filled(t *testing.T, n, seed int) *mem.Memory {
	t.Helper()
	m := mustNew(t, n)
	mustWrite(t, m, 0, some(n, seed))
	return m
}

// seg gives segments of pairs of At and Long.
func seg(pairs ...int) []api.Segment {
	var l []api.Segment
	for i := 0; i < len(pairs); i += 2 {
		l = append(l, api.Segment{At: pairs[i], Long: pairs[i+1]})
	}
	return l
}

// wantWalk asks what Walk answers, and that it leaves the memory as it is.
func wantWalk(t *testing.T, name string, m *mem.Memory, first, second, long int, want []api.Segment, fault api.Errno) {
	t.Helper()
	was := all(t, m)
	got, err := list.Walk(m, first, second, long)
	if !slices.Equal(got, want) || plain.Told(err) != fault {
		t.Errorf("%s: Walk(%d, %d, %d): got %v, %v, want %v, %v", name, first, second, long, got, plain.Told(err), want, fault)
	}
	if err != nil && got != nil {
		t.Errorf("%s: Walk(%d, %d, %d): segments beside an error: %v", name, first, second, long, got)
	}
	wantAll(t, name+": Walk", m, was)
}

// wantBuild asks what Build answers, what it writes (numbers, by their places), and that it writes nothing else.
func wantBuild(t *testing.T, name string, m *mem.Memory, at int, pages []int, offset, long, first, second int, fault api.Errno, written map[int]int) {
	t.Helper()
	want, given := all(t, m), slices.Clone(pages)
	for place, x := range written {
		binary.LittleEndian.PutUint64(want[place:], uint64(x))
	}
	one, two, err := list.Build(m, at, pages, offset, long)
	if one != first || two != second || plain.Told(err) != fault {
		t.Errorf("%s: Build(%d, %v, %d, %d): got %d, %d, %v, want %d, %d, %v", name, at, pages, offset, long, one, two, plain.Told(err), first, second, fault)
	}
	wantAll(t, name+": Build", m, want)
	if !slices.Equal(pages, given) {
		t.Errorf("%s: Build wrote into pages: %v, were %v", name, pages, given)
	}
}

// run gives n pages, one behind the other, the first at that address.
func run(at, n int) []int {
	var pages []int
	for i := range n {
		pages = append(pages, at+64*i)
	}
	return pages
}

// far gives numbers that are far from all places of a memory.
func far() []int {
	return []int{math.MinInt, math.MinInt + 1, math.MinInt + 64, -greatest, math.MinInt32, -16384, -4096,
		16384, 16448, math.MaxInt32, greatest - 64, greatest, greatest + 1, greatest + 64, math.MaxInt - 63, math.MaxInt - 7, math.MaxInt - 3, math.MaxInt}
}

// L1

func TestNumbersOfTheChapter(t *testing.T) {
	if api.PageBytes != 64 || api.MaxMove != 2048 {
		t.Errorf("PageBytes is %d, MaxMove is %d", api.PageBytes, api.MaxMove)
	}
}

func TestWalkOfOneSegment(t *testing.T) {
	m := filled(t, 256, 1)
	cases := []struct{ first, long int }{
		{0, 1}, {0, 63}, {0, 64}, {4, 1}, {4, 60}, {60, 1}, {60, 4}, {64, 64}, {68, 59}, {188, 4}, {192, 64}, {252, 4}, {252, 1},
	}
	for _, c := range cases {
		// Of one segment, what is second does not count.
		for _, second := range append([]int{0, 64, 8, 1, -1, 256}, far()...) {
			wantWalk(t, "one", m, c.first, second, c.long, seg(c.first, c.long), api.OK)
		}
	}
}

func TestWalkOfTwoSegments(t *testing.T) {
	m := filled(t, 256, 2)
	wantWalk(t, "one byte more than the first page", m, 0, 128, 65, seg(0, 64, 128, 1), api.OK)
	wantWalk(t, "just 64 more", m, 0, 128, 128, seg(0, 64, 128, 64), api.OK)
	wantWalk(t, "from an offset, one more", m, 60, 64, 5, seg(60, 4, 64, 1), api.OK)
	wantWalk(t, "from an offset, 64 more", m, 60, 64, 68, seg(60, 4, 64, 64), api.OK)
	wantWalk(t, "second ahead of first", m, 196, 0, 100, seg(196, 60, 0, 40), api.OK)
	wantWalk(t, "the same page twice", m, 64, 64, 128, seg(64, 64, 64, 64), api.OK)
	wantWalk(t, "the memory's last page", m, 4, 192, 124, seg(4, 60, 192, 64), api.OK)
}

func TestWalkOfAList(t *testing.T) {
	m := mustNew(t, 1024)
	setNumbers(t, m, 64, 128, 192, 256)
	wantWalk(t, "one more than two pages", m, 0, 64, 129, seg(0, 64, 128, 64, 192, 1), api.OK)
	wantWalk(t, "three pages", m, 0, 64, 192, seg(0, 64, 128, 64, 192, 64), api.OK)
	wantWalk(t, "one more", m, 0, 64, 193, seg(0, 64, 128, 64, 192, 64, 256, 1), api.OK)
	wantWalk(t, "from an offset", m, 60, 64, 69, seg(60, 4, 128, 64, 192, 1), api.OK)
	wantWalk(t, "from the list's second number on", m, 0, 72, 192, seg(0, 64, 192, 64, 256, 64), api.OK)
	wantWalk(t, "the number behind", m, 0, 80, 192, seg(0, 64, 256, 64, 0, 64), api.OK)
}

func TestWalkOfAListThatBeginsInTheMidst(t *testing.T) {
	for slots := 2; slots <= 8; slots++ {
		begin := 128 - 8*slots
		m := filled(t, 2048, 3)
		setNumbers(t, m, begin, run(512, slots)...)
		want := seg(0, 64)
		for _, at := range run(512, slots) {
			want = append(want, api.Segment{At: at, Long: 64})
		}
		name := fmt.Sprintf("%d numbers", slots)
		wantWalk(t, name+" just fill the page", m, 0, begin, 64*(slots+1), want, api.OK)
		want[slots].Long = 1
		wantWalk(t, name+", of the last page one byte", m, 0, begin, 64*slots+1, want, api.OK)

		// With one page more the last number says where the list goes on.
		setNumbers(t, m, 120, 256)
		setNumbers(t, m, 256, 1024, 1088)
		want[slots] = api.Segment{At: 1024, Long: 64}
		want = append(want, api.Segment{At: 1088, Long: 1})
		wantWalk(t, name+", and it goes on", m, 0, begin, 64*(slots+1)+1, want, api.OK)
		want[slots+1].Long = 64
		wantWalk(t, name+", and it goes on with two", m, 0, begin, 64*(slots+2), want, api.OK)
	}
}

func TestWalkOfAListThatBeginsAtAPagesLastNumber(t *testing.T) {
	m := mustNew(t, 1024)
	setNumbers(t, m, 120, 256)
	setNumbers(t, m, 256, 512, 576, 640)
	wantWalk(t, "two pages", m, 0, 120, 129, seg(0, 64, 512, 64, 576, 1), api.OK)
	wantWalk(t, "three pages", m, 4, 120, 252, seg(4, 60, 512, 64, 576, 64, 640, 64), api.OK)
}

func TestWalkOfAListThatGoesOnWithAThird(t *testing.T) {
	m := mustNew(t, 4096)
	// From 104 on: two pages, a link; seven pages, a link; eight pages.
	setNumbers(t, m, 104, 1024, 1088, 3072)
	setNumbers(t, m, 3072, append(run(1152, 7), 256)...)
	setNumbers(t, m, 256, run(1600, 8)...)
	want := seg(12, 52)
	for _, at := range append(append(run(1024, 2), run(1152, 7)...), run(1600, 8)...) {
		want = append(want, api.Segment{At: at, Long: 64})
	}
	wantWalk(t, "three pages of a list, the last full", m, 12, 104, 52+17*64, want, api.OK)
	want[17].Long = 3
	wantWalk(t, "three pages of a list", m, 12, 104, 52+16*64+3, want, api.OK)

	// With no more than ten pages the second page of the list is full, and has no link.
	want = want[:10]
	want = append(want, api.Segment{At: 256, Long: 9})
	wantWalk(t, "two pages of a list, the last full", m, 12, 104, 52+9*64+9, want, api.OK)
}

func TestWalkOfTheGreatestLong(t *testing.T) {
	m := mustNew(t, api.MaxMemory)
	pages := run(4096, 32)
	for i := 0; i < 28; i += 7 {
		at := 64 + i/7*128
		setNumbers(t, m, at, append(slices.Clone(pages[i:i+7]), at+128)...)
	}
	setNumbers(t, m, 64+4*128, pages[28:]...)
	want := seg(60, 4)
	for _, at := range pages {
		want = append(want, api.Segment{At: at, Long: 64})
	}
	want[32].Long = 60
	wantWalk(t, "from 60 on", m, 60, 64, 2048, want, api.OK)
	want = want[:32]
	want[0], want[31].Long = api.Segment{At: 0, Long: 64}, 64
	wantWalk(t, "from 0 on", m, 0, 64, 2048, want, api.OK)
}

func TestWalkOfAListThatLeadsToItself(t *testing.T) {
	m := mustNew(t, 512)
	setNumbers(t, m, 64, 0, 64, 128, 192, 256, 320, 384, 64)
	got, err := list.Walk(m, 0, 64, 2048)
	if err != nil || len(got) != 32 {
		t.Fatalf("got %v, %v", got, err)
	}
	for i, s := range got[1:] {
		if s != (api.Segment{At: i % 7 * 64, Long: 64}) {
			t.Errorf("segment %d: %v", i+1, s)
		}
	}
	// A last number that names its own page is no round without end.
	setNumbers(t, m, 120, 64)
	wantWalk(t, "from the last number on", m, 0, 120, 192, seg(0, 64, 0, 64, 64, 64), api.OK)
}

func TestSegmentsAloneHaveToLieInTheMemory(t *testing.T) {
	// 100 bytes: of the second page there are 36.
	m := mustNew(t, 100)
	setNumbers(t, m, 0, 0, 64)
	wantWalk(t, "one", m, 64, 0, 36, seg(64, 36), api.OK)
	wantWalk(t, "one, too long", m, 64, 0, 37, nil, api.ErrRange)
	wantWalk(t, "two", m, 0, 64, 100, seg(0, 64, 64, 36), api.OK)
	wantWalk(t, "two, too long", m, 0, 64, 101, nil, api.ErrRange)
	wantWalk(t, "three", m, 0, 0, 164, seg(0, 64, 0, 64, 64, 36), api.OK)
	wantWalk(t, "three, too long", m, 0, 0, 165, nil, api.ErrRange)
}

// L2

func TestWalkLong(t *testing.T) {
	m := mustNew(t, 4096)
	setNumbers(t, m, 64, append(run(0, 7), 64)...)
	for _, long := range append([]int{0, -1, -64, 2049, 2050, 4096}, far()...) {
		wantWalk(t, "long", m, 0, 64, long, nil, api.ErrRange)
		wantWalk(t, "long ahead of first", m, 1, 64, long, nil, api.ErrRange)
		wantWalk(t, "long ahead of second", m, 0, -1, long, nil, api.ErrRange)
	}
	wantWalk(t, "the least", m, 0, 64, 1, seg(0, 1), api.OK)
	if l, err := list.Walk(m, 0, 64, 2048); err != nil || len(l) != 32 {
		t.Errorf("the greatest: %v, %v", l, err)
	}
}

func TestWalkFirst(t *testing.T) {
	m := mustNew(t, 256)
	for _, first := range []int{1, 2, 3, 5, 6, 7, 63, 65, 254, 255, 257, -1, -2, -3, -5, -63, math.MaxInt, math.MinInt + 1} {
		wantWalk(t, "no multiple of 4", m, first, 64, 1, nil, api.ErrShape)
		wantWalk(t, "no multiple of 4, ahead of second", m, first, 64, 2048, nil, api.ErrShape)
	}
	for _, first := range []int{-4, -8, -60, -64, -128, -256, 256, 260, 320, 16384, greatest, math.MaxInt - 3, math.MaxInt - 63, math.MinInt, math.MinInt + 4} {
		wantWalk(t, "not in the memory", m, first, 64, 1, nil, api.ErrRange)
		wantWalk(t, "not in the memory", m, first, 64, 64, nil, api.ErrRange)
		wantWalk(t, "not in the memory, ahead of a page", m, first, 1, 128, nil, api.ErrRange)
		wantWalk(t, "not in the memory, ahead of a list", m, first, 1, 2048, nil, api.ErrRange)
	}
	wantWalk(t, "the last four", m, 252, 0, 4, seg(252, 4), api.OK)
	odd := mustNew(t, 250)
	wantWalk(t, "the last two", odd, 248, 0, 2, seg(248, 2), api.OK)
	wantWalk(t, "one more than the last two", odd, 248, 0, 3, nil, api.ErrRange)
	wantWalk(t, "of a page that is cut off", odd, 248, 0, 100, nil, api.ErrRange)
	wantWalk(t, "no memory at all", mustNew(t, 0), 0, 0, 1, nil, api.ErrRange)
}

func TestWalkSecondAsAPage(t *testing.T) {
	m := mustNew(t, 256)
	for _, second := range []int{1, 4, 8, 32, 63, 65, 120, 250, 257, 264, -1, -8, -64, -128, math.MinInt, -greatest, math.MaxInt, math.MaxInt - 7, greatest + 8} {
		wantWalk(t, "no page's", m, 0, second, 65, nil, api.ErrShape)
		wantWalk(t, "no page's", m, 60, second, 68, nil, api.ErrShape)
	}
	for _, second := range []int{256, 320, 16384, greatest, math.MaxInt - 63} {
		wantWalk(t, "not in the memory", m, 0, second, 65, nil, api.ErrRange)
		wantWalk(t, "not in the memory", m, 60, second, 68, nil, api.ErrRange)
	}
}

func TestWalkSecondAsAList(t *testing.T) {
	m := mustNew(t, 256)
	for _, second := range []int{1, 2, 4, 7, 9, 12, 63, 252, 257, 260, -1, -8, -16, -64, math.MinInt, -greatest, math.MaxInt, greatest + 4} {
		wantWalk(t, "no list's", m, 0, second, 129, nil, api.ErrShape)
		wantWalk(t, "no list's", m, 0, second, 2048, nil, api.ErrShape)
	}
	for _, second := range []int{256, 264, 312, 320, 16384, greatest, greatest + 8, math.MaxInt - 7, math.MaxInt - 63} {
		wantWalk(t, "not in the memory", m, 0, second, 129, nil, api.ErrRange)
		wantWalk(t, "not in the memory", m, 0, second, 2048, nil, api.ErrRange)
	}
	wantWalk(t, "where a page would be none", m, 0, 8, 129, seg(0, 64, 0, 64, 0, 1), api.OK)
}

func TestWalkNumbersOfAList(t *testing.T) {
	cases := []struct {
		name  string
		x     uint64
		fault api.Errno
	}{
		{"0", 0, api.OK},
		{"the last page", 448, api.OK},
		{"the memory's end", 512, api.ErrRange},
		{"beyond it", 16384, api.ErrRange},
		{"2^62", greatest, api.ErrRange},
		{"above 2^62", greatest + 1, api.ErrRange},
		{"a page above 2^62", greatest + 64, api.ErrRange},
		{"the greatest", math.MaxUint64, api.ErrRange},
		{"below 0, as a page", math.MaxUint64 - 63, api.ErrRange},
		{"no page's", 1, api.ErrShape},
		{"no page's", 8, api.ErrShape},
		{"no page's", 63, api.ErrShape},
		{"no page's, beyond the end", 513, api.ErrShape},
		{"no page's, below 2^62", greatest - 8, api.ErrShape},
	}
	for _, c := range cases {
		raw := binary.LittleEndian.AppendUint64(nil, c.x)
		for place := range 3 {
			m := mustNew(t, 512)
			setNumbers(t, m, 64, 128, 192, 256)
			mustWrite(t, m, 64+8*place, raw)
			want := seg(0, 64, 128, 64, 192, 64, 256, 64)
			want[place+1].At = int(c.x)
			if c.fault != api.OK {
				want = nil
			}
			wantWalk(t, fmt.Sprintf("%s at %d", c.name, place), m, 0, 64, 256, want, c.fault)
		}
		// As where a list goes on.
		m := mustNew(t, 512)
		mustWrite(t, m, 120, raw)
		want := seg(0, 64, 0, 64, 0, 64)
		if c.x == 448 {
			setNumbers(t, m, 448, 64, 128)
			want = seg(0, 64, 64, 64, 128, 64)
		}
		if c.fault != api.OK {
			want = nil
		}
		wantWalk(t, c.name+" as where it goes on", m, 0, 120, 192, want, c.fault)
	}
}

func TestWalkListThatRunsOutOfTheMemory(t *testing.T) {
	// 90 bytes: of the list's page there are three numbers, and two bytes of the fourth.
	m := mustNew(t, 90)
	wantWalk(t, "three", m, 0, 64, 256, seg(0, 64, 0, 64, 0, 64, 0, 64), api.OK)
	wantWalk(t, "four", m, 0, 64, 257, nil, api.ErrRange)
	wantWalk(t, "four, from the second on", m, 0, 72, 256, nil, api.ErrRange)
	setNumbers(t, m, 56, 64)
	wantWalk(t, "a page with which it goes on", m, 0, 56, 256, seg(0, 64, 0, 64, 0, 64, 0, 64), api.OK)
	wantWalk(t, "one more of it", m, 0, 56, 257, nil, api.ErrRange)
}

func TestWalkLooksAtNoMoreNumbersThanAreNeeded(t *testing.T) {
	m := mustNew(t, 512)
	mustWrite(t, m, 64, bytes.Repeat([]byte{255}, 64))
	setNumbers(t, m, 64, 128, 192)
	wantWalk(t, "two", m, 0, 64, 192, seg(0, 64, 128, 64, 192, 64), api.OK)
	wantWalk(t, "three", m, 0, 64, 193, nil, api.ErrRange)
}

func TestWalkTellsTheFaultThatIsMetFirst(t *testing.T) {
	const odd, beyond = 3, 1024
	cases := []struct {
		name                string
		first, second, long int
		numbers, further    []int
		fault               api.Errno
	}{
		{"long, first", odd, odd, 0, nil, nil, api.ErrRange},
		{"first's shape, its range", beyond + 2, odd, 2048, nil, nil, api.ErrShape},
		{"first below 0, and its shape", -3, 0, 1, nil, nil, api.ErrShape},
		{"first below 0, second's shape", -4, odd, 2048, nil, nil, api.ErrRange},
		{"first's range, second's shape", beyond, odd, 128, nil, nil, api.ErrRange},
		{"second's shape, its range", 0, beyond + 4, 128, nil, nil, api.ErrShape},
		{"second below 0", 0, -64, 128, nil, nil, api.ErrShape},
		{"a list's shape, its range", 0, beyond + 4, 2048, nil, nil, api.ErrShape},
		{"a page's shape, its range", 0, 64, 256, []int{beyond + 8}, nil, api.ErrShape},
		{"a page's range, the next one's shape", 0, 64, 256, []int{beyond, odd}, nil, api.ErrRange},
		{"a page's shape, the next one's range", 0, 64, 256, []int{odd, beyond}, nil, api.ErrShape},
		{"the last page's range", 0, 64, 256, []int{0, 0, beyond}, nil, api.ErrRange},
		{"the last page's shape", 0, 64, 256, []int{0, 0, odd}, nil, api.ErrShape},
		{"behind the last page", 0, 64, 256, []int{0, 0, 0, odd}, nil, api.OK},
		{"a page's range, a link's shape", 0, 64, 640, []int{0, 0, 0, 0, 0, 0, beyond, odd}, nil, api.ErrRange},
		{"a page's shape, a link's range", 0, 64, 640, []int{0, 0, 0, 0, 0, 0, odd, beyond}, nil, api.ErrShape},
		{"a link's shape", 0, 64, 640, []int{0, 0, 0, 0, 0, 0, 0, 8}, nil, api.ErrShape},
		{"a link's shape, its range", 0, 64, 640, []int{0, 0, 0, 0, 0, 0, 0, beyond + 8}, nil, api.ErrShape},
		{"a link's range", 0, 64, 640, []int{0, 0, 0, 0, 0, 0, 0, beyond}, nil, api.ErrRange},
		{"behind a link, shape", 0, 64, 640, []int{0, 0, 0, 0, 0, 0, 0, 256}, []int{odd, beyond}, api.ErrShape},
		{"behind a link, range", 0, 64, 640, []int{0, 0, 0, 0, 0, 0, 0, 256}, []int{beyond, odd}, api.ErrRange},
		{"behind a link, nothing", 0, 64, 640, []int{0, 0, 0, 0, 0, 0, 0, 256}, []int{0, 0, odd}, api.OK},
	}
	for _, c := range cases {
		m := mustNew(t, 1024)
		setNumbers(t, m, 64, c.numbers...)
		setNumbers(t, m, 256, c.further...)
		_, err := list.Walk(m, c.first, c.second, c.long)
		wantErr(t, c.name, err, c.fault)
	}
}

func TestWalkAtFarNumbers(t *testing.T) {
	m := mustNew(t, 512)
	like := model(all(t, m))
	for _, first := range append(far(), 0, 60, 508) {
		for _, second := range append(far(), 0, 56, 504) {
			for _, long := range append(far(), 1, 64, 65, 128, 129, 2048) {
				want, fault := like.walk(first, second, long)
				wantWalk(t, "far", m, first, second, long, want, fault)
			}
		}
	}
}

// model is what the chapter says of a memory, byte by byte: each byte's place is looked for by itself, from the list's beginning on.
type model []byte

func (m model) has(at, n int) bool {
	for i := range n {
		if at < 0 || at > len(m) || at+i >= len(m) {
			return false
		}
	}
	return true
}

func (m model) number(at int) (uint64, api.Errno) {
	if !m.has(at, 8) {
		return 0, api.ErrRange
	}
	x := binary.LittleEndian.Uint64(m[at:])
	if x > greatest {
		return 0, api.ErrRange
	}
	return x, api.OK
}

// entry gives the address of page j of the n that a list from at on names.
func (m model) entry(at, j, n int) (int, api.Errno) {
	end := (at/64 + 1) * 64
	room := (end - at) / 8
	if n > room && j >= room-1 {
		next, fault := m.number(end - 8)
		if fault != api.OK {
			return 0, fault
		}
		if next%64 != 0 {
			return 0, api.ErrShape
		}
		return m.entry(int(next), j-(room-1), n-(room-1))
	}
	x, fault := m.number(at + 8*j)
	return int(x), fault
}

// page gives the address of page j behind the first, of n.
func (m model) page(second, j, n int) (int, api.Errno) {
	if n == 1 {
		return second, api.OK
	}
	if second < 0 || second%8 != 0 {
		return 0, api.ErrShape
	}
	if second > len(m) {
		return 0, api.ErrRange
	}
	return m.entry(second, j, n)
}

func (m model) walk(first, second, long int) ([]api.Segment, api.Errno) {
	if long < 1 || long > 2048 {
		return nil, api.ErrRange
	}
	if first%4 != 0 {
		return nil, api.ErrShape
	}
	if first < 0 || first > len(m) {
		return nil, api.ErrRange
	}
	var out []api.Segment
	last := (first%64 + long - 1) / 64
	for i := range long {
		at, k := first, (first%64+i)/64
		if k > 0 {
			var fault api.Errno
			if at, fault = m.page(second, k-1, last); fault != api.OK {
				return nil, fault
			}
			if at < 0 || at%64 != 0 {
				return nil, api.ErrShape
			}
		}
		if k == len(out) {
			out = append(out, api.Segment{At: at})
		}
		out[k].Long++
		if !m.has(at, out[k].Long) {
			return nil, api.ErrRange
		}
	}
	return out, api.OK
}

// aList fills a memory with numbers that a list could have, most of them pages, and gives it with a model of it.
func aList(t *testing.T, r *rand.Rand, n int) (*mem.Memory, model) {
	t.Helper()
	m := mustNew(t, n)
	wrong := r.Intn(4) * r.Intn(30)
	for at := 0; at+8 <= n; at += 8 {
		x := uint64(r.Intn(max(n/64, 1))) * 64
		if r.Intn(1000) < wrong {
			x = []uint64{x + 8, x + 1, uint64(n), uint64(n / 64 * 64), greatest, greatest + 64, r.Uint64()}[r.Intn(7)]
		}
		mustWrite(t, m, at, binary.LittleEndian.AppendUint64(nil, x))
	}
	return m, model(all(t, m))
}

func TestWalkAsTheModelSays(t *testing.T) {
	r := rand.New(rand.NewSource(13))
	told := map[api.Errno]int{}
	for range 400 {
		n := []int{64, 100, 512, 1000, 4096, 16384}[r.Intn(6)]
		m, like := aList(t, r, n)
		for range 20 {
			first, second, long := r.Intn(n/4)*4, r.Intn(n/8)*8, 1+r.Intn(2048)
			switch r.Intn(20) {
			case 0:
				first = r.Intn(n+200) - 100
			case 1:
				second = r.Intn(n+200) - 100
			case 2, 3, 4, 5:
				second, long = second&^63, 1+r.Intn(130)
			}
			want, fault := like.walk(first, second, long)
			wantWalk(t, fmt.Sprintf("%d bytes", n), m, first, second, long, want, fault)
			told[fault]++
		}
	}
	if told[api.OK] < 500 || told[api.ErrRange] < 500 || told[api.ErrShape] < 500 {
		t.Errorf("too few of a kind: %v", told)
	}
}

// L3

func TestBuildOfOneAndTwoPages(t *testing.T) {
	// Where no list is needed, at does not count, and nothing is written.
	for _, at := range append([]int{0, 64, 1, 8, -1, -64, 256}, far()...) {
		m := filled(t, 256, 5)
		wantBuild(t, "one", m, at, []int{64}, 0, 64, 64, 0, api.OK, nil)
		wantBuild(t, "one, from an offset on", m, at, []int{192}, 60, 4, 252, 0, api.OK, nil)
		wantBuild(t, "one byte", m, at, []int{0}, 4, 1, 4, 0, api.OK, nil)
		wantBuild(t, "two", m, at, []int{64, 0}, 0, 65, 64, 0, api.OK, nil)
		wantBuild(t, "two, full", m, at, []int{64, 192}, 0, 128, 64, 192, api.OK, nil)
		wantBuild(t, "two, from an offset on", m, at, []int{0, 192}, 60, 5, 60, 192, api.OK, nil)
		wantBuild(t, "two, from an offset on, full", m, at, []int{0, 192}, 60, 68, 60, 192, api.OK, nil)
		wantBuild(t, "the same page twice", m, at, []int{128, 128}, 4, 124, 132, 128, api.OK, nil)
	}
}

func TestBuildOfAList(t *testing.T) {
	m := filled(t, 512, 6)
	wantBuild(t, "three", m, 64, []int{0, 128, 192}, 0, 129, 0, 64, api.OK, map[int]int{64: 128, 72: 192})
	wantBuild(t, "three, from an offset on", m, 448, []int{0, 192, 128}, 60, 69, 60, 448, api.OK, map[int]int{448: 192, 456: 128})
	wantBuild(t, "at 0", m, 0, []int{64, 256, 320, 384}, 4, 200, 68, 0, api.OK, map[int]int{0: 256, 8: 320, 16: 384})
}

// listAt gives the numbers that a list of these pages has from at on, by their places: place by place, where a page's last one is a link if more than one page is left.
func listAt(at int, pages []int) map[int]int {
	written := map[int]int{}
	place := at
	for i, p := range pages {
		left := len(pages) - i
		if place%64 == 56 && left > 1 {
			written[place] = place + 8
			place += 8
		}
		written[place] = p
		place += 8
	}
	return written
}

func TestBuildOfEachNumberOfPages(t *testing.T) {
	for n := 3; n <= 33; n++ {
		m := filled(t, api.MaxMemory, n)
		pages, offset, long := run(8192, n), 0, 64*n
		slices.Reverse(pages)
		if n == 33 {
			offset, long = 60, 2048
		}
		written := listAt(1024, pages[1:])
		wantBuild(t, fmt.Sprintf("%d pages", n), m, 1024, pages, offset, long, pages[0]+offset, 1024, api.OK, written)
		if got, want := len(written), map[int]int{3: 2, 8: 7, 9: 8, 10: 10, 16: 16, 17: 18, 23: 24, 24: 26, 32: 35, 33: 36}[n]; want != 0 && got != want {
			t.Errorf("%d pages: %d numbers, want %d", n, got, want)
		}
	}
}

func TestBuildWritesLinksBehindSevenNumbers(t *testing.T) {
	m := mustNew(t, 2048)
	pages := run(1024, 10)
	wantBuild(t, "ten", m, 64, pages, 0, 640, 1024, 64, api.OK, map[int]int{
		64: 1088, 72: 1152, 80: 1216, 88: 1280, 96: 1344, 104: 1408, 112: 1472, 120: 128,
		128: 1536, 136: 1600,
	})
	wantBuild(t, "nine", m, 256, pages[:9], 0, 576, 1024, 256, api.OK, map[int]int{
		256: 1088, 264: 1152, 272: 1216, 280: 1280, 288: 1344, 296: 1408, 304: 1472, 312: 1536,
	})
}

func TestBuildLong(t *testing.T) {
	for _, long := range append([]int{0, -1, -64, 2049, 2050}, far()...) {
		m := filled(t, 4096, 7)
		for _, pages := range [][]int{nil, {0}, run(0, 32), run(0, 33), {1}} {
			wantBuild(t, "long", m, 64, pages, 0, long, 0, 0, api.ErrRange, nil)
			wantBuild(t, "long ahead of offset", m, 64, pages, 3, long, 0, 0, api.ErrRange, nil)
		}
	}
	m := filled(t, 4096, 7)
	wantBuild(t, "the least", m, 64, []int{128}, 0, 1, 128, 0, api.OK, nil)
	wantBuild(t, "the greatest", m, 64, run(2048, 32), 0, 2048, 2048, 64, api.OK, listAt(64, run(2112, 31)))
}

func TestBuildOffset(t *testing.T) {
	m := filled(t, 512, 8)
	for offset := 0; offset <= 60; offset += 4 {
		wantBuild(t, "one page", m, 0, []int{128}, offset, 64-offset, 128+offset, 0, api.OK, nil)
		wantBuild(t, "one byte more", m, 0, []int{128, 0}, offset, 65-offset, 128+offset, 0, api.OK, nil)
	}
	for _, offset := range append([]int{-1, -4, -3, -64, 61, 62, 63, 64, 65, 68, 128}, far()...) {
		wantBuild(t, "none that may be", m, 0, []int{128}, offset, 1, 0, 0, api.ErrRange, nil)
		wantBuild(t, "ahead of the pages", m, 0, nil, offset, 1, 0, 0, api.ErrRange, nil)
	}
	for _, offset := range []int{1, 2, 3, 5, 6, 7, 57, 58, 59} {
		wantBuild(t, "no multiple of 4", m, 0, []int{128}, offset, 1, 0, 0, api.ErrShape, nil)
		wantBuild(t, "ahead of the pages' range", m, 0, []int{16384}, offset, 1, 0, 0, api.ErrShape, nil)
	}
}

func TestBuildNumberOfPages(t *testing.T) {
	m := filled(t, 8192, 9)
	for _, offset := range []int{0, 4, 60} {
		for _, long := range []int{1, 4, 5, 60, 61, 64, 65, 68, 69, 124, 128, 129, 132, 133, 192, 193, 512, 576, 577, 1000, 2047, 2048} {
			need := 0
			for left := long + offset; left > 0; left -= 64 {
				need++
			}
			for n := range 40 {
				pages, first, second, fault, written := run(4096, n), 0, 0, api.ErrShape, map[int]int{}
				if n == need {
					first, fault = 4096+offset, api.OK
					if n == 2 {
						second = 4160
					}
					if n > 2 {
						second, written = 1024, listAt(1024, pages[1:])
					}
				}
				name := fmt.Sprintf("%d pages where %d are needed", n, need)
				wantBuild(t, name, m, 1024, pages, offset, long, first, second, fault, written)
			}
		}
	}
	wantBuild(t, "too many, not in the memory", m, 0, []int{0, 16384}, 0, 64, 0, 0, api.ErrShape, nil)
}

func TestBuildPagesThatAreNone(t *testing.T) {
	for _, n := range []int{1, 2, 3, 9, 10} {
		for place := range n {
			for _, x := range []int{1, 4, 8, 32, 63, 65, -1, -8, -64, -128, 8193, 16384 + 8, math.MinInt, -greatest, greatest + 1, math.MaxInt, math.MaxInt - 7} {
				m := filled(t, 8192, 10)
				pages := run(4096, n)
				pages[place] = x
				wantBuild(t, "no page's", m, 64, pages, 0, 64*n, 0, 0, api.ErrShape, nil)
				for other := range pages {
					if other == place {
						continue
					}
					pages[other] = 8192
					wantBuild(t, "no page's, and one not in the memory", m, 64, pages, 0, 64*n, 0, 0, api.ErrShape, nil)
				}
			}
			for _, x := range []int{8192, 8256, 16384, greatest, math.MaxInt - 63} {
				m := filled(t, 8192, 10)
				pages := run(4096, n)
				pages[place] = x
				wantBuild(t, "not in the memory", m, 64, pages, 0, 64*n, 0, 0, api.ErrRange, nil)
			}
		}
	}
}

func TestBuildAPageLiesInTheMemoryWhole(t *testing.T) {
	m := filled(t, 250, 11)
	wantBuild(t, "the last whole one", m, 0, []int{128}, 0, 64, 128, 0, api.OK, nil)
	wantBuild(t, "one that is cut off", m, 0, []int{192}, 0, 64, 0, 0, api.ErrRange, nil)
	wantBuild(t, "one that is cut off, behind the bytes", m, 0, []int{192}, 0, 4, 0, 0, api.ErrRange, nil)
	wantBuild(t, "as the second", m, 0, []int{0, 192}, 0, 65, 0, 0, api.ErrRange, nil)
	wantBuild(t, "as the third", m, 64, []int{0, 128, 192}, 0, 129, 0, 0, api.ErrRange, nil)
	wantBuild(t, "no memory at all", mustNew(t, 0), 0, []int{0}, 0, 1, 0, 0, api.ErrRange, nil)
}

func TestBuildAt(t *testing.T) {
	for _, at := range []int{1, 8, 32, 56, 63, 65, 120, -1, -8, -64, math.MinInt, math.MaxInt, math.MaxInt - 7, 1024 + 8} {
		m := filled(t, 1024, 12)
		wantBuild(t, "no page's", m, at, []int{0, 128, 192}, 0, 192, 0, 0, api.ErrShape, nil)
		wantBuild(t, "ahead of a page's range", m, at, []int{0, 128, 1024}, 0, 192, 0, 0, api.ErrShape, nil)
	}
	for _, at := range []int{1024, 1088, 16384, greatest, math.MaxInt - 63} {
		m := filled(t, 1024, 12)
		wantBuild(t, "not in the memory", m, at, []int{0, 128, 192}, 0, 192, 0, 0, api.ErrRange, nil)
		wantBuild(t, "a page's shape ahead of it", m, at, []int{0, 128, 193}, 0, 192, 0, 0, api.ErrShape, nil)
		wantBuild(t, "of a long list", m, at, run(0, 16), 0, 1024, 0, 0, api.ErrRange, nil)
	}
}

func TestBuildAListWhoseEndDoesNotLieInTheMemory(t *testing.T) {
	// Each number of pages, with a memory that ends just behind the list, and one byte ahead of that.
	for n := 3; n <= 32; n++ {
		pages := run(0, n)
		for i := range pages {
			pages[i] %= 256
		}
		written := listAt(256, pages[1:])
		end := 256 + 8*len(written)
		name := fmt.Sprintf("%d pages", n)
		m := filled(t, end, 13)
		wantBuild(t, name, m, 256, pages, 0, 64*n, 0, 256, api.OK, written)
		for _, size := range []int{end - 1, end - 8, max(end-64, 256), 256} {
			m := filled(t, size, 13)
			wantBuild(t, fmt.Sprintf("%s, %d bytes too few", name, end-size), m, 256, pages, 0, 64*n, 0, 0, api.ErrRange, nil)
		}
	}
	m := filled(t, 512, 14)
	wantBuild(t, "its last page", m, 448, run(0, 5)[:3], 0, 192, 0, 448, api.OK, map[int]int{448: 64, 456: 128})
	pages := []int{0, 64, 128, 192, 256, 320, 0, 64, 128, 192}
	wantBuild(t, "its second page", m, 448, pages, 0, 640, 0, 0, api.ErrRange, nil)
	wantBuild(t, "one page less", m, 448, pages[:9], 0, 576, 0, 448, api.OK, listAt(448, pages[1:9]))
}

func TestBuildLeavesWhatStandsBehindPages(t *testing.T) {
	m := mustNew(t, 4096)
	whole := run(2048, 20)
	was := slices.Clone(whole)
	if _, _, err := list.Build(m, 64, whole[:12], 0, 12*64); err != nil {
		t.Fatal(err)
	}
	if _, _, err := list.Build(m, 64, whole[:12], 0, 13*64); plain.Told(err) != api.ErrShape {
		t.Errorf("pages behind the list's length count: %v", err)
	}
	if !slices.Equal(whole, was) {
		t.Errorf("written: %v", whole)
	}
}

// L4

func wantGather(t *testing.T, name string, m *mem.Memory, l []api.Segment, want []byte, fault api.Errno) {
	t.Helper()
	was, given := all(t, m), slices.Clone(l)
	got, err := list.Gather(m, l)
	if !bytes.Equal(got, want) || plain.Told(err) != fault {
		t.Errorf("%s: Gather(%v): got %v, %v, want %v, %v", name, l, got, plain.Told(err), want, fault)
	}
	if err != nil && got != nil {
		t.Errorf("%s: Gather(%v): bytes beside an error: %v", name, l, got)
	}
	wantAll(t, name+": Gather", m, was)
	if !slices.Equal(l, given) {
		t.Errorf("%s: Gather wrote into segments: %v, were %v", name, l, given)
	}
}

// wantScatter asks what Scatter answers, that the memory is what the bytes, one by one, make of it, and, with a fault, as it was.
func wantScatter(t *testing.T, name string, m *mem.Memory, l []api.Segment, data []byte, fault api.Errno) {
	t.Helper()
	want, segments, given := all(t, m), slices.Clone(l), slices.Clone(data)
	if fault == api.OK {
		k := 0
		for _, s := range l {
			for i := range s.Long {
				want[s.At+i] = data[k]
				k++
			}
		}
	}
	wantErr(t, fmt.Sprintf("%s: Scatter(%v) of %d bytes", name, l, len(data)), list.Scatter(m, l, data), fault)
	wantAll(t, name+": Scatter", m, want)
	if !slices.Equal(l, segments) || !bytes.Equal(data, given) {
		t.Errorf("%s: Scatter wrote into what it was given: %v, %v", name, l, data)
	}
}

func TestGather(t *testing.T) {
	m := mustNew(t, 16)
	mustWrite(t, m, 0, []byte{10, 11, 12, 13, 14, 15, 16, 17, 18, 19, 20, 21, 22, 23, 24, 25})
	wantGather(t, "none", m, nil, nil, api.OK)
	wantGather(t, "none", m, []api.Segment{}, nil, api.OK)
	wantGather(t, "one", m, seg(3, 2), []byte{13, 14}, api.OK)
	wantGather(t, "all", m, seg(0, 16), all(t, m), api.OK)
	wantGather(t, "two", m, seg(14, 2, 0, 3), []byte{24, 25, 10, 11, 12}, api.OK)
	wantGather(t, "over one another", m, seg(3, 3, 4, 3, 3, 1), []byte{13, 14, 15, 14, 15, 16, 13}, api.OK)
	wantGather(t, "with none between", m, seg(3, 1, 5, 0, 6, 1), []byte{13, 16}, api.OK)
	wantGather(t, "long of 0, at the end", m, seg(16, 0, 0, 0, 15, 1), []byte{25}, api.OK)
}

func TestScatter(t *testing.T) {
	m := filled(t, 16, 15)
	wantScatter(t, "none", m, nil, nil, api.OK)
	wantScatter(t, "none", m, []api.Segment{}, []byte{}, api.OK)
	wantScatter(t, "one", m, seg(3, 2), []byte{1, 2}, api.OK)
	wantScatter(t, "all", m, seg(0, 16), some(16, 16), api.OK)
	wantScatter(t, "two", m, seg(14, 2, 0, 3), []byte{1, 2, 3, 4, 5}, api.OK)
	wantScatter(t, "with none between", m, seg(3, 1, 5, 0, 6, 1), []byte{1, 2}, api.OK)
	wantScatter(t, "long of 0, at the end", m, seg(16, 0, 0, 0, 15, 1), []byte{9}, api.OK)
	wantScatter(t, "long of 0 alone", m, seg(16, 0, 7, 0), nil, api.OK)
	wantScatter(t, "over one another", m, seg(3, 3, 4, 3), []byte{1, 2, 3, 4, 5, 6}, api.OK)
	if got, _ := m.Read(3, 4); !bytes.Equal(got, []byte{1, 4, 5, 6}) {
		t.Errorf("what comes later stands: got %v", got)
	}
}

func TestSegmentsThatDoNotLieInTheMemory(t *testing.T) {
	m := filled(t, 100, 17)
	wrong := seg(100, 1, 99, 2, 0, 101, 36, 65, 101, 0, 101, 1, -1, 0, -1, 1, -1, 2, -64, 64, 128, 0)
	for _, at := range far() {
		wrong = append(wrong, seg(at, 0, at, 1, at, 64)...)
	}
	for _, s := range wrong {
		for _, l := range [][]api.Segment{{s}, {{At: 0, Long: 3}, s}, {s, {At: 5, Long: 2}}, {{At: 0, Long: 3}, s, {At: 5, Long: 2}}} {
			n := 0
			for _, s := range l {
				n += s.Long
			}
			wantGather(t, "not in the memory", m, l, nil, api.ErrRange)
			wantScatter(t, "not in the memory", m, l, some(n, 18), api.ErrRange)
			wantScatter(t, "one byte more", m, l, some(n+1, 18), api.ErrShape)
		}
	}
	for _, s := range seg(0, 0, 100, 0, 99, 1, 0, 100, 64, 36) {
		data, _ := m.Read(s.At, s.Long)
		wantGather(t, "just in it", m, []api.Segment{s}, data, api.OK)
		wantScatter(t, "just in it", m, []api.Segment{s}, some(s.Long, 19), api.OK)
	}
}

func TestSegmentsWithALongBelowZero(t *testing.T) {
	m := filled(t, 100, 20)
	for _, long := range []int{-1, -2, -64, -100, math.MinInt32, -greatest, math.MinInt + 1, math.MinInt} {
		for _, at := range append([]int{0, 5, 99, 100, 101, -1}, far()...) {
			s := api.Segment{At: at, Long: long}
			for _, l := range [][]api.Segment{{s}, {{At: 0, Long: 3}, s}, {s, {At: 0, Long: 3}}, {s, {At: 0, Long: 3}, s}} {
				n := 0
				if len(l) > 1 {
					n = 3
				}
				wantGather(t, "below 0", m, l, nil, api.ErrRange)
				wantScatter(t, "below 0, counts as 0", m, l, some(n, 21), api.ErrRange)
				wantScatter(t, "below 0, one byte more", m, l, some(n+1, 21), api.ErrShape)
				if n > 0 {
					wantScatter(t, "below 0, one byte fewer", m, l, some(n-1, 21), api.ErrShape)
				}
			}
		}
	}
}

func TestScatterNeedsJustAsManyBytes(t *testing.T) {
	m := filled(t, 100, 22)
	lists := [][]api.Segment{nil, seg(0, 0), seg(0, 1), seg(0, 64, 64, 36), seg(90, 10, 0, 5, 3, 0, 7, 2), seg(100, 1), seg(-1, 3, 0, 2), seg(0, 100, 0, 100)}
	for _, l := range lists {
		n := 0
		for _, s := range l {
			n += s.Long
		}
		for size := range n + 5 {
			if size != n {
				wantScatter(t, "not as many", m, l, some(size, 23), api.ErrShape)
			}
		}
	}
	// Sums that would go round the greatest int.
	for _, l := range [][]api.Segment{
		seg(0, math.MaxInt), seg(0, math.MaxInt, 0, math.MaxInt, 0, 2), seg(0, math.MaxInt, 0, math.MaxInt, 0, 5),
		seg(0, greatest, 0, greatest, 0, greatest, 0, greatest), seg(0, greatest, 0, greatest, 0, greatest, 0, greatest, 0, 3),
		seg(0, 3, 0, math.MaxInt, 0, math.MinInt, 0, 1), seg(math.MaxInt, math.MaxInt),
	} {
		for n := range 5 {
			wantScatter(t, "more than there are", m, l, some(n, 24), api.ErrShape)
		}
		wantGather(t, "more than there are", m, l, nil, api.ErrRange)
	}
}

func TestScatterWritesNothingIfOneDoesNotLieInTheMemory(t *testing.T) {
	m := filled(t, 64, 25)
	wantScatter(t, "the last", m, seg(0, 8, 8, 8, 60, 5), some(21, 26), api.ErrRange)
	wantScatter(t, "the first", m, seg(60, 5, 0, 8), some(13, 26), api.ErrRange)
	wantScatter(t, "a last one of no bytes", m, seg(0, 8, 65, 0), some(8, 26), api.ErrRange)
	wantScatter(t, "too few bytes", m, seg(0, 8, 8, 8), some(15, 26), api.ErrShape)
}

func TestGatherOfManyOfWhichOneDoesNotLieInTheMemory(t *testing.T) {
	m := filled(t, api.MaxMemory, 27)
	l := slices.Repeat(seg(0, api.MaxMemory), 1<<16)
	wantGather(t, "the last", m, append(l, api.Segment{At: 1, Long: api.MaxMemory}), nil, api.ErrRange)
}

func TestWhatIsGatheredAndScatteredIsACopy(t *testing.T) {
	m := filled(t, 64, 28)
	was := all(t, m)
	one, _ := list.Gather(m, seg(0, 64))
	two, _ := list.Gather(m, seg(0, 64))
	clear(one)
	if !bytes.Equal(two, was) {
		t.Errorf("two answers share memory")
	}
	clear(two)
	wantAll(t, "written over", m, was)
	data := some(64, 29)
	if err := list.Scatter(m, seg(0, 64), data); err != nil {
		t.Fatal(err)
	}
	was = slices.Clone(data)
	clear(data)
	wantAll(t, "written over", m, was)
}

func TestWhatStandsBehindDataStays(t *testing.T) {
	m := filled(t, 64, 30)
	whole := some(20, 31)
	was := slices.Clone(whole)
	l := seg(0, 3, 10, 2, 40, 7)
	wantScatter(t, "some of it", m, l[:2], whole[4:9], api.OK)
	wantScatter(t, "more than the list", m, l, whole[4:9], api.ErrShape)
	data, err := list.Gather(m, l[:1])
	_ = append(data, 1, 2, 3)
	if err != nil || !bytes.Equal(whole, was) || !slices.Equal(l, seg(0, 3, 10, 2, 40, 7)) {
		t.Errorf("written: %v, %v, %v", whole, l, err)
	}
}

func TestSegmentsOfTwoWalksAreTheCallers(t *testing.T) {
	m := mustNew(t, 512)
	one, _ := list.Walk(m, 0, 64, 192)
	two, _ := list.Walk(m, 0, 64, 192)
	clear(one)
	if !slices.Equal(two, seg(0, 64, 0, 64, 0, 64)) {
		t.Errorf("two answers share memory: %v", two)
	}
}

func TestNoMemory(t *testing.T) {
	_, err := list.Walk(nil, 0, 0, 1)
	wantErr(t, "Walk", err, api.ErrRange)
	_, _, err = list.Build(nil, 0, run(0, 3), 0, 192)
	wantErr(t, "Build", err, api.ErrRange)
	_, err = list.Gather(nil, seg(0, 1))
	wantErr(t, "Gather", err, api.ErrRange)
	wantErr(t, "Scatter", list.Scatter(nil, seg(0, 1), []byte{1}), api.ErrRange)
	data, err := list.Gather(nil, seg(0, 0))
	if len(data) != 0 || err != nil {
		t.Errorf("Gather of no bytes: %v, %v", data, err)
	}
	wantErr(t, "Scatter of no bytes", list.Scatter(nil, seg(0, 0), nil), api.OK)
}

// L5

// wantRound asks that Walk of what is built are just these pages, and that bytes that are scattered there are gathered again.
func wantRound(t *testing.T, name string, m *mem.Memory, at int, pages []int, offset, long int) {
	t.Helper()
	first, second, err := list.Build(m, at, pages, offset, long)
	if err != nil {
		t.Errorf("%s: Build(%d, %v, %d, %d): %v", name, at, pages, offset, long, err)
		return
	}
	l, err := list.Walk(m, first, second, long)
	if err != nil || len(l) != len(pages) {
		t.Errorf("%s: Walk(%d, %d, %d): %v, %v, of pages %v", name, first, second, long, l, err, pages)
		return
	}
	left := long
	for i, s := range l {
		want := api.Segment{At: pages[i], Long: min(64, left)}
		if i == 0 {
			want = api.Segment{At: pages[0] + offset, Long: min(64-offset, left)}
		}
		if s != want {
			t.Errorf("%s: segment %d is %v, want %v", name, i, s, want)
		}
		left -= s.Long
	}
	if left != 0 {
		t.Errorf("%s: segments have %d bytes fewer than %d", name, left, long)
	}
}

func TestWalkOfWhatIsBuilt(t *testing.T) {
	for offset := 0; offset <= 60; offset += 4 {
		m := mustNew(t, 8192)
		for long := 1; long <= 2048; long++ {
			wantRound(t, "each long", m, 1024, run(4096, (offset+long+63)/64), offset, long)
		}
	}
}

func TestWalkOfWhatIsBuiltOfAnyPages(t *testing.T) {
	r := rand.New(rand.NewSource(5))
	for range 3000 {
		m := filled(t, 64*(1+r.Intn(256)), r.Int())
		offset, long := 4*r.Intn(16), 1+r.Intn(2048)
		pages := make([]int, (offset+long+63)/64)
		for i := range pages {
			pages[i] = 64 * r.Intn(m.Size()/64)
		}
		at := 64 * r.Intn(m.Size()/64)
		if at+5*64 <= m.Size() || len(pages) < 3 {
			wantRound(t, "any pages", m, at, pages, offset, long)
		}
	}
}

func TestBytesThatAreScatteredAreGathered(t *testing.T) {
	for _, long := range []int{1, 4, 64, 65, 128, 129, 512, 577, 1000, 2047, 2048} {
		for _, offset := range []int{0, 4, 60} {
			m := filled(t, 8192, long)
			pages := run(4096, (offset+long+63)/64)
			slices.Reverse(pages)
			first, second, err := list.Build(m, 64, pages, offset, long)
			if err != nil {
				t.Fatal(err)
			}
			l, err := list.Walk(m, first, second, long)
			if err != nil {
				t.Fatal(err)
			}
			data := some(long, long)
			wantScatter(t, "built", m, l, data, api.OK)
			wantGather(t, "built", m, l, data, api.OK)
		}
	}
}

// FuzzList lets bytes be a memory, and asks of Walk, in it, what the model says; and that what Walk tells can be scattered to and gathered from.
func FuzzList(f *testing.F) {
	f.Add([]byte{}, 0, 0, 1)
	f.Add(make([]byte, 512), 60, 64, 200)
	f.Add(append(make([]byte, 56), 64, 0, 0, 0, 0, 0, 0, 0, 64, 0, 0, 0, 0, 0, 0, 0, 1), 0, 56, 190)
	f.Add(bytes.Repeat([]byte{64, 0, 0, 0, 0, 0, 0, 0}, 16), 4, 120, 2048)
	f.Fuzz(func(t *testing.T, held []byte, first, second, long int) {
		if len(held) > api.MaxMemory {
			return
		}
		m := mustNew(t, len(held))
		mustWrite(t, m, 0, held)
		want, fault := model(held).walk(first, second, long)
		wantWalk(t, "fuzz", m, first, second, long, want, fault)
		if fault != api.OK {
			return
		}
		data, err := list.Gather(m, want)
		if err != nil || len(data) != long {
			t.Errorf("Gather: %d bytes, %v", len(data), err)
		}
		wantScatter(t, "fuzz", m, want, some(long, first), api.OK)
	})
}
