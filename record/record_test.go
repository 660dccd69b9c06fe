package record_test

import (
	"bytes"
	"encoding/binary"
	"fmt"
	"hash/crc32"
	"math"
	"math/big"
	"math/rand"
	"slices"
	"testing"

	"granary/api"
	"granary/plain"
	"granary/record"
)

const greatest = 1 << 62

// notes gives n entries, other ones for each seed.
func notes(n, seed int) []api.Entry {
	batch := make([]api.Entry, n)
	for i := range batch {
		batch[i] = api.Entry{Kind: 1 + i%3, A: i*131 + seed, B: (i + seed) << (i % 40)}
	}
	return batch
}

// numberOf writes a number as R1 says it, from its binary digits as text.
func numberOf(n int) []byte {
	text := fmt.Sprintf("%b", n)
	var number []byte
	for len(text) > 7 {
		low := text[len(text)-7:]
		text = text[:len(text)-7]
		number = append(number, 128+digitsOf(low))
	}
	return append(number, digitsOf(text))
}

func digitsOf(text string) byte {
	n := byte(0)
	for _, d := range text {
		n = 2*n + byte(d-'0')
	}
	return n
}

// seal puts a check behind the bytes of a batch, whatever they are.
func seal(body ...byte) []byte {
	return binary.LittleEndian.AppendUint32(slices.Clone(body), crc32.ChecksumIEEE(body))
}

// batchOf writes a batch as R1 says it; it may be none that Write takes.
func batchOf(batch []api.Entry) []byte {
	body := numberOf(len(batch))
	for _, e := range batch {
		body = slices.Concat(body, numberOf(e.Kind), numberOf(e.A), numberOf(e.B))
	}
	return seal(body...)
}

func recordOf(batches [][]api.Entry) []byte {
	var data []byte
	for _, batch := range batches {
		data = append(data, batchOf(batch)...)
	}
	return data
}

// numbersOf takes bytes for numbers, one behind the other; false if they are none.
func numbersOf(body []byte) ([]int, bool) {
	var numbers []int
	from := 0
	for i, b := range body {
		if b >= 128 {
			continue
		}
		n := new(big.Int)
		for k := i; k >= from; k-- {
			n.Lsh(n, 7).Add(n, big.NewInt(int64(body[k]&127)))
		}
		if n.Cmp(big.NewInt(greatest)) > 0 || !bytes.Equal(numberOf(int(n.Int64())), body[from:i+1]) {
			return nil, false
		}
		numbers = append(numbers, int(n.Int64()))
		from = i + 1
	}
	return numbers, from == len(body)
}

// isBatch takes all of the bytes for one batch; false if they are none.
func isBatch(data []byte) ([]api.Entry, bool) {
	if len(data) < 5 {
		return nil, false
	}
	body := data[:len(data)-4]
	if !bytes.Equal(data, seal(body...)) {
		return nil, false
	}
	numbers, ok := numbersOf(body)
	if !ok || len(numbers) == 0 || numbers[0] > 64 || len(numbers) != 1+3*numbers[0] {
		return nil, false
	}
	batch := []api.Entry{}
	for part := range slices.Chunk(numbers[1:], 3) {
		batch = append(batch, api.Entry{Kind: part[0], A: part[1], B: part[2]})
	}
	return batch, true
}

// wantRead tells what Read must answer: it tries each end of each batch, and takes the longest record of all.
func wantRead(data []byte) ([][]api.Entry, int) {
	var best [][]api.Entry
	long := 0
	for end := range len(data) + 1 {
		batch, ok := isBatch(data[:end])
		if !ok {
			continue
		}
		rest, n := wantRead(data[end:])
		if end+n > long {
			best, long = append([][]api.Entry{batch}, rest...), end+n
		}
	}
	return best, long
}

func same(a, b [][]api.Entry) bool {
	return slices.EqualFunc(a, b, slices.Equal[[]api.Entry])
}

func copied(batches [][]api.Entry) [][]api.Entry {
	var c [][]api.Entry
	for _, batch := range batches {
		c = append(c, slices.Clone(batch))
	}
	return c
}

func mustWrite(t *testing.T, batches [][]api.Entry) []byte {
	t.Helper()
	data, err := record.Write(batches)
	if err != nil {
		t.Fatalf("Write(%v): %v", batches, err)
	}
	return data
}

// wantGood asks that batches are written as R1 says, and read back.
func wantGood(t *testing.T, batches [][]api.Entry) []byte {
	t.Helper()
	was := copied(batches)
	data := mustWrite(t, batches)
	if want := recordOf(batches); !bytes.Equal(data, want) {
		t.Errorf("Write(%v):\ngot  %v\nwant %v", batches, data, want)
	}
	if !same(batches, was) {
		t.Errorf("Write(%v) wrote into what it was given: %v", was, batches)
	}
	wantBack(t, data, batches, len(data))
	return data
}

// wantBack asks what is read, and that it hangs on nothing behind the bytes, and changes none of them.
func wantBack(t *testing.T, data []byte, want [][]api.Entry, long int) {
	t.Helper()
	was := slices.Clone(data)
	got, n := record.Read(data)
	if !same(got, want) || n != long {
		t.Errorf("Read(%v): got %v, %d, want %v, %d", data, got, n, want, long)
	}
	if !bytes.Equal(data, was) {
		t.Errorf("Read(%v) wrote into what it was given: %v", was, data)
	}
}

// wantNone asks that bytes begin with no batch, alone and behind a batch, and that nothing behind them mends it.
func wantNone(t *testing.T, data []byte) {
	t.Helper()
	first := notes(2, 5)
	ahead := batchOf(first)
	behind := batchOf(notes(1, 7))
	wantBack(t, data, nil, 0)
	wantBack(t, slices.Concat(data, behind), nil, 0)
	wantBack(t, slices.Concat(ahead, data), [][]api.Entry{first}, len(ahead))
	wantBack(t, slices.Concat(ahead, data, behind), [][]api.Entry{first}, len(ahead))
}

func wantBad(t *testing.T, name string, batches [][]api.Entry, want api.Errno) {
	t.Helper()
	was := copied(batches)
	data, err := record.Write(batches)
	if plain.Told(err) != want || len(data) != 0 {
		t.Errorf("%s: got %v, %v, want none, %v", name, data, plain.Told(err), want)
	}
	if !same(batches, was) {
		t.Errorf("%s: it wrote into what it was given", name)
	}
}

// one gives an entry with a number in one of its three places, and others that are right in the others.
func one(place, n int) api.Entry {
	e := api.Entry{Kind: 3, A: 300, B: 70000}
	*[]*int{&e.Kind, &e.A, &e.B}[place] = n
	return e
}

// edges gives the numbers at either side of each count of bytes, and the least and the greatest.
func edges() []int {
	numbers := []int{0, 1, 2, greatest - 1, greatest}
	for k := 7; k <= 56; k += 7 {
		numbers = append(numbers, 1<<k-1, 1<<k, 1<<k+1)
	}
	return numbers
}

// The rows of the chapter's table.

func TestTable(t *testing.T) {
	data := wantGood(t, [][]api.Entry{{{Kind: 1, A: 2, B: 300}}})
	if want := []byte{1, 1, 2, 172, 2}; len(data) != 9 || !bytes.Equal(data[:5], want) {
		t.Errorf("one entry: got %v, want %v and four more", data, want)
	}
	data = wantGood(t, [][]api.Entry{{}})
	// The check sum of a byte 0 is 0xD202EF8D.
	if want := []byte{0, 0x8D, 0xEF, 0x02, 0xD2}; !bytes.Equal(data, want) {
		t.Errorf("no entry: got %v, want %v", data, want)
	}
}

// R1: how a record is written.

func TestNoBatches(t *testing.T) {
	for _, batches := range [][][]api.Entry{nil, {}} {
		if data := wantGood(t, batches); len(data) != 0 {
			t.Errorf("Write of no batches: %v", data)
		}
	}
	for _, data := range [][]byte{nil, {}} {
		wantBack(t, data, nil, 0)
	}
}

func TestBatchesWithoutEntries(t *testing.T) {
	wantGood(t, [][]api.Entry{nil})
	wantGood(t, [][]api.Entry{{}, nil, {}})
	wantGood(t, [][]api.Entry{{}, {{Kind: 1}}, nil, {{B: 1}}, {}})
}

func TestNumbersOfEachLength(t *testing.T) {
	long := map[int]int{0: 1, 1: 1, 127: 1, 128: 2, 1<<14 - 1: 2, 1 << 14: 3, 1<<56 - 1: 8, 1 << 56: 9, greatest: 9}
	for _, n := range edges() {
		for place := range 3 {
			wantGood(t, [][]api.Entry{{one(place, n)}})
		}
		data := wantGood(t, [][]api.Entry{{{Kind: n, A: n, B: n}}})
		if want, ok := long[n]; ok && len(data) != 1+3*want+4 {
			t.Errorf("three times %d: %d bytes, want %d", n, len(data), 1+3*want+4)
		}
	}
	if want := []byte{128, 128, 128, 128, 128, 128, 128, 128, 64}; !bytes.Equal(mustWrite(t, [][]api.Entry{{{Kind: greatest}}})[1:10], want) {
		t.Errorf("2^62 is not written as %v", want)
	}
}

func TestBatchesOfEachLength(t *testing.T) {
	var all [][]api.Entry
	for n := range api.MaxNotes + 1 {
		wantGood(t, [][]api.Entry{notes(n, n)})
		all = append(all, notes(n, n))
	}
	wantGood(t, all)
	wantGood(t, [][]api.Entry{slices.Repeat([]api.Entry{{Kind: greatest, A: greatest, B: greatest}}, api.MaxNotes)})
}

func TestEachCheckIsOfItsBatchAlone(t *testing.T) {
	a, b := notes(3, 1), notes(5, 2)
	want := slices.Concat(mustWrite(t, [][]api.Entry{a}), mustWrite(t, [][]api.Entry{b}), mustWrite(t, [][]api.Entry{a}))
	if got := wantGood(t, [][]api.Entry{a, b, a}); !bytes.Equal(got, want) {
		t.Errorf("three batches: got %v, want %v", got, want)
	}
}

// R2: what Write refuses.

func TestTooManyEntries(t *testing.T) {
	for _, n := range []int{api.MaxNotes + 1, api.MaxNotes + 2, 2 * api.MaxNotes, 128, 256, 1000} {
		wantBad(t, fmt.Sprint(n, " entries"), [][]api.Entry{notes(n, 1)}, api.ErrFull)
		wantBad(t, fmt.Sprint(n, " entries, first"), [][]api.Entry{notes(n, 1), notes(1, 1)}, api.ErrFull)
		wantBad(t, fmt.Sprint(n, " entries, last"), [][]api.Entry{notes(64, 1), {}, notes(n, 1)}, api.ErrFull)
	}
}

func TestNumbersBeyond(t *testing.T) {
	for _, n := range []int{-1, -2, -128, math.MinInt, math.MinInt + 1, -greatest, greatest + 1, greatest + 2, math.MaxInt - 1, math.MaxInt} {
		for place := range 3 {
			name := fmt.Sprint(n, " at ", place)
			wantBad(t, name, [][]api.Entry{{one(place, n)}}, api.ErrRange)
			wantBad(t, name+", last entry", [][]api.Entry{append(notes(63, 1), one(place, n))}, api.ErrRange)
			wantBad(t, name+", first entry", [][]api.Entry{append([]api.Entry{one(place, n)}, notes(63, 1)...)}, api.ErrRange)
			wantBad(t, name+", last batch", [][]api.Entry{notes(2, 1), {}, {one(place, n)}}, api.ErrRange)
			wantBad(t, name+", first batch", [][]api.Entry{{one(place, n)}, {}, notes(2, 1)}, api.ErrRange)
		}
	}
}

func TestWhichErrorIsTold(t *testing.T) {
	good := notes(2, 1)
	full := notes(api.MaxNotes+1, 1)
	wrong := []api.Entry{one(0, 1), one(1, -1)}
	var both [][]api.Entry // batches with too many entries, one of which, somewhere, has a wrong number
	for _, at := range []int{0, 1, api.MaxNotes - 1, api.MaxNotes} {
		batch := slices.Clone(full)
		batch[at] = one(2, greatest+1)
		both = append(both, batch)
	}
	for _, b := range both {
		wantBad(t, "both in one batch", [][]api.Entry{b}, api.ErrFull)
		wantBad(t, "both in one batch, behind a good one", [][]api.Entry{good, b}, api.ErrFull)
		wantBad(t, "both in one batch, ahead of a wrong one", [][]api.Entry{b, wrong}, api.ErrFull)
		wantBad(t, "a wrong one ahead of both", [][]api.Entry{wrong, b}, api.ErrRange)
	}
	wantBad(t, "full, wrong", [][]api.Entry{full, wrong}, api.ErrFull)
	wantBad(t, "wrong, full", [][]api.Entry{wrong, full}, api.ErrRange)
	wantBad(t, "good, full, wrong", [][]api.Entry{good, full, good, wrong}, api.ErrFull)
	wantBad(t, "good, wrong, full", [][]api.Entry{good, wrong, good, full}, api.ErrRange)
}

// R3: what Read takes, and what not.

func TestNumbersThatAreNotJustSuch(t *testing.T) {
	ones := func(n int, last byte) []byte { return append(slices.Repeat([]byte{128}, n-1), last) }
	var wrong [][]byte
	for n := 2; n <= 12; n++ {
		wrong = append(wrong, ones(n, 0))                         // 0, with more bytes than it needs
		wrong = append(wrong, append([]byte{129}, ones(n, 0)...)) // 1, likewise
	}
	for n := 10; n <= 20; n++ { // more than nine bytes, whatever they tell
		wrong = append(wrong, ones(n, 1), ones(n, 2), ones(n, 127), append([]byte{129}, ones(n-1, 1)...), slices.Repeat([]byte{255}, n))
	}
	wrong = append(wrong, numberOf(greatest+1), numberOf(greatest+2), numberOf(greatest+1<<61), numberOf(math.MaxInt), ones(9, 65), ones(9, 127))
	for _, number := range wrong {
		wantNone(t, seal(number...))                                         // how many there are
		wantNone(t, seal(append(slices.Clone(number), 1, 2, 3)...))          // likewise, of one
		wantNone(t, seal(slices.Concat([]byte{1}, number, []byte{2, 3})...)) // Kind
		wantNone(t, seal(slices.Concat([]byte{1, 2}, number, []byte{3})...)) // A
		wantNone(t, seal(slices.Concat([]byte{1, 2, 3}, number)...))         // B
		wantNone(t, seal(slices.Concat([]byte{2, 1, 2, 3, 4, 5}, number)...))
	}
}

func TestNumbersThatAreJustSuch(t *testing.T) {
	for _, n := range edges() {
		data := seal(slices.Concat([]byte{1}, numberOf(n), []byte{0}, numberOf(n))...)
		wantBack(t, data, [][]api.Entry{{{Kind: n, B: n}}}, len(data))
	}
	data := seal(1, 128, 128, 128, 128, 128, 128, 128, 128, 64, 255, 255, 255, 255, 255, 255, 255, 255, 63, 128, 1)
	wantBack(t, data, [][]api.Entry{{{Kind: greatest, A: greatest - 1, B: 128}}}, len(data))
}

func TestMoreEntriesThanMayBe(t *testing.T) {
	full := batchOf(notes(api.MaxNotes, 3))
	wantBack(t, full, [][]api.Entry{notes(api.MaxNotes, 3)}, len(full))
	for _, n := range []int{api.MaxNotes + 1, api.MaxNotes + 2, 127, 128, 129, 192, 256, 1000} {
		wantNone(t, batchOf(notes(n, 3)))
	}
	for _, n := range append(edges(), math.MaxInt) {
		if n > 0 { // as many entries are told, and none is there
			wantNone(t, seal(numberOf(n)...))
		}
	}
}

func TestEntriesThatAreNotThere(t *testing.T) {
	for told := range 5 {
		for there := range 13 {
			body := append([]byte{byte(told)}, slices.Repeat([]byte{9}, there)...)
			if there == 3*told {
				continue
			}
			wantNone(t, seal(body...))
		}
	}
}

func TestWrongCheck(t *testing.T) {
	for _, batch := range [][]api.Entry{nil, notes(1, 1), notes(3, 9), notes(api.MaxNotes, 2)} {
		good := batchOf(batch)
		for i := len(good) - 4; i < len(good); i++ {
			for bit := range 8 {
				data := slices.Clone(good)
				data[i] ^= 1 << bit
				wantNone(t, data)
			}
		}
		turned := slices.Clone(good)
		slices.Reverse(turned[len(good)-4:]) // the highest byte first
		wantNone(t, turned)
		for cut := 1; cut <= 4; cut++ {
			wantBack(t, good[:len(good)-cut], nil, 0)
		}
		wantNone(t, append(slices.Clone(good[:len(good)-4]), 0, 0, 0, 0))
		wantNone(t, append(slices.Clone(good[:len(good)-4]), 255, 255, 255, 255))
	}
}

func TestCheckOfOtherBytes(t *testing.T) {
	a, b := batchOf(notes(1, 1)), batchOf(notes(2, 2))
	// A check of both batches together is none of the second one.
	both := slices.Concat(a, b[:len(b)-4])
	wantBack(t, seal(both...), [][]api.Entry{notes(1, 1)}, len(a))
	// Nor is one of the entries without how many they are.
	wrong := slices.Concat(b[:len(b)-4], seal(b[1 : len(b)-4]...)[len(b)-5:])
	wantNone(t, wrong)
}

func TestOneBitTurned(t *testing.T) {
	batches := [][]api.Entry{notes(2, 1), {}, notes(3, 500)}
	good := mustWrite(t, batches)
	for i := range good {
		for bit := range 8 {
			data := slices.Clone(good)
			data[i] ^= 1 << bit
			want, long := wantRead(data)
			if long > i {
				t.Fatalf("a turned bit of byte %d is in a record of %d bytes", i, long)
			}
			wantBack(t, data, want, long)
		}
	}
}

func TestWhatLiesBehind(t *testing.T) {
	batches := [][]api.Entry{notes(2, 1), notes(4, 3)}
	good := mustWrite(t, batches)
	for _, behind := range [][]byte{{0}, {0, 0, 0, 0, 0}, {255, 255, 255, 255, 255, 255}, {1}, {128}, {64}, seal(65), seal(128, 0)} {
		wantBack(t, append(slices.Clone(good), behind...), batches, len(good))
	}
	// A batch behind one that is wrong is not read.
	first := batchOf(batches[0])
	wrong := slices.Clone(good)
	wrong[0]++
	wantBack(t, wrong, nil, 0)
	wrong = slices.Concat(first, []byte{7}, first)
	wantBack(t, wrong, batches[:1], len(first))
}

func TestAllShortBodies(t *testing.T) {
	letters := []byte{0, 1, 2, 127, 128, 129, 255}
	var try func(body []byte)
	try = func(body []byte) {
		data := seal(body...)
		want, long := wantRead(data)
		wantBack(t, data, want, long)
		data = slices.Concat(data, seal(0), body)
		want, long = wantRead(data)
		wantBack(t, data, want, long)
		if len(body) == 5 {
			return
		}
		for _, letter := range letters {
			try(append(slices.Clone(body), letter))
		}
	}
	try(nil)
}

func TestAllShortBytes(t *testing.T) {
	for n := range 3 {
		data := make([]byte, n)
		for k := range 1 << (8 * n) {
			for i := range data {
				data[i] = byte(k >> (8 * i))
			}
			wantBack(t, data, nil, 0)
		}
	}
}

// R4: it follows.

func TestEachBeginning(t *testing.T) {
	batches := [][]api.Entry{notes(1, 1), {}, notes(3, 1<<40), {}, {}, {{Kind: greatest}}, notes(api.MaxNotes, 8), {}}
	data := wantGood(t, batches)
	whole, long := 0, 0
	for n := range len(data) + 1 {
		if whole < len(batches) && n == long+len(batchOf(batches[whole])) {
			whole, long = whole+1, n
		}
		// What lies behind the beginning is still in its memory, and must not be looked at.
		wantBack(t, data[:n], batches[:whole], long)
		wantBack(t, slices.Clone(data[:n]), batches[:whole], long)
	}
	if whole != len(batches) {
		t.Errorf("%d batches of %d", whole, len(batches))
	}
}

func TestLongRecord(t *testing.T) {
	batches := make([][]api.Entry, 20000)
	for i := range batches {
		batches[i] = notes(i%7, i)
	}
	wantGood(t, batches)
}

// someNumber gives one of any length.
func someNumber(r *rand.Rand) int {
	return min(r.Intn(math.MaxInt)>>r.Intn(63), greatest)
}

func someBatches(r *rand.Rand) [][]api.Entry {
	batches := make([][]api.Entry, r.Intn(6))
	for i := range batches {
		batches[i] = make([]api.Entry, r.Intn(1+r.Intn(9)))
		for k := range batches[i] {
			batches[i][k] = api.Entry{Kind: someNumber(r), A: someNumber(r), B: someNumber(r)}
		}
	}
	return batches
}

// spoil changes, cuts, doubles or leaves out some of the bytes.
func spoil(r *rand.Rand, data []byte) []byte {
	data = slices.Clone(data)
	if len(data) == 0 {
		return []byte{byte(r.Intn(256))}
	}
	at := r.Intn(len(data))
	switch r.Intn(5) {
	case 0:
		data[at] ^= 1 << r.Intn(8)
	case 1:
		data[at] = byte(r.Intn(256))
	case 2:
		data = data[:at]
	case 3:
		data = slices.Delete(data, at, min(len(data), at+1+r.Intn(4)))
	case 4:
		data = slices.Insert(data, at, data[at:min(len(data), at+1+r.Intn(12))]...)
	}
	return data
}

func TestSomeRecords(t *testing.T) {
	r := rand.New(rand.NewSource(6))
	for range 3000 {
		batches := someBatches(r)
		data := wantGood(t, batches)
		for range 3 {
			data = spoil(r, data)
			want, long := wantRead(data)
			wantBack(t, data, want, long)
			again := mustWrite(t, want)
			if !bytes.Equal(again, data[:long]) {
				t.Fatalf("what is read of %v is written as %v", data, again)
			}
		}
	}
}

// P2: what comes out is the caller's.

func TestNothingIsShared(t *testing.T) {
	batches := [][]api.Entry{notes(2, 1), notes(3, 2), {}, notes(4, 3)}
	data := mustWrite(t, batches)
	was := slices.Clone(data)
	got, _ := record.Read(data)
	for i := range got {
		// Behind a list's length too: no two may lie in one memory.
		got[i] = append(got[i], api.Entry{Kind: 99}, api.Entry{Kind: 99})
		for k := range got[i] {
			got[i][k] = api.Entry{Kind: 77, A: i, B: k}
		}
	}
	for i := range got {
		for k, e := range got[i] {
			if (e != api.Entry{Kind: 77, A: i, B: k}) {
				t.Errorf("batch %d shares memory with another", i)
			}
		}
	}
	if !bytes.Equal(data, was) {
		t.Error("what is read shares memory with the bytes")
	}
	wantBack(t, data, batches, len(data))
	clear(mustWrite(t, batches))
	wantGood(t, batches)
}

func TestWhatLiesBehindALength(t *testing.T) {
	room := append(notes(2, 1), api.Entry{Kind: -1})
	all := [][]api.Entry{room[:2], notes(api.MaxNotes+1, 1)[:3], notes(api.MaxNotes+1, 1)}
	wantGood(t, all[:2])
	if room[2].Kind != -1 {
		t.Error("Write wrote behind a list's length")
	}
}

func FuzzRead(f *testing.F) {
	f.Add([]byte{}, true)
	f.Add([]byte{1, 1, 2, 172, 2}, true)
	f.Add(recordOf([][]api.Entry{notes(2, 1), {}, notes(3, 4)}), false)
	f.Fuzz(func(t *testing.T, data []byte, sealed bool) {
		if sealed {
			data = seal(data...)
		}
		want, long := wantRead(data)
		wantBack(t, data, want, long)
	})
}
