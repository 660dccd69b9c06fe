package slot_test

import (
	"bytes"
	"encoding/binary"
	"fmt"
	"hash/crc32"
	"math"
	"math/rand"
	"slices"
	"testing"

	"granary/api"
	"granary/plain"
	"granary/slot"
)

const (
	greatest = 1 << 62
	beside   = 16 // the bytes of a slot that are not its body's
)

// some gives n bytes, other ones for each seed.
func some(n, seed int) []byte {
	data := make([]byte, n)
	rand.New(rand.NewSource(int64(seed))).Read(data)
	return data
}

// seal puts a check behind bytes, whatever they are.
func seal(data []byte) []byte {
	return binary.LittleEndian.AppendUint32(slices.Clone(data), crc32.ChecksumIEEE(data))
}

// claim writes a slot as S1 says it, but with any length that is told, and any seq.
func claim(seq uint64, long uint32, body []byte) []byte {
	data := binary.LittleEndian.AppendUint64(nil, seq)
	data = binary.LittleEndian.AppendUint32(data, long)
	return seal(append(data, body...))
}

func slotOf(seq int, body []byte) []byte {
	return claim(uint64(seq), uint32(len(body)), body)
}

// wantWhole takes bytes for a slot as S1 says it: it tries each body that may be there.
func wantWhole(data []byte) (seq int, body []byte, whole bool) {
	for long := 0; long <= 4096 && beside+long <= len(data); long++ {
		if binary.LittleEndian.Uint32(data[8:]) != uint32(long) {
			continue
		}
		told := binary.LittleEndian.Uint64(data)
		if told <= greatest && bytes.Equal(seal(data[:12+long]), data[:beside+long]) {
			return int(told), slices.Clone(data[12 : 12+long]), true
		}
	}
	return 0, nil, false
}

// choice is what Choose and Next answer.
type choice struct {
	which, seq int
	body       []byte
	fault      api.Errno
	next       int
}

func (c choice) same(d choice) bool {
	return c.which == d.which && c.seq == d.seq && bytes.Equal(c.body, d.body) && c.fault == d.fault && c.next == d.next
}

// wantChoice tells what must be answered, by S2.
func wantChoice(a, b []byte) choice {
	seqA, bodyA, wholeA := wantWhole(a)
	seqB, bodyB, wholeB := wantWhole(b)
	first := choice{which: 0, seq: seqA, body: bodyA, next: 1}
	second := choice{which: 1, seq: seqB, body: bodyB, next: 0}
	switch {
	case !wholeA && !wholeB:
		return choice{fault: api.ErrNone}
	case !wholeB:
		return first
	case !wholeA:
		return second
	case seqB > seqA:
		return second
	}
	return first
}

func ask(a, b []byte) choice {
	which, seq, body, err := slot.Choose(a, b)
	return choice{which, seq, body, plain.Told(err), slot.Next(a, b)}
}

// short tells of long bytes no more than their ends.
func short(data []byte) string {
	if len(data) <= 40 {
		return fmt.Sprint(data)
	}
	return fmt.Sprintf("%v..%v (%d bytes)", data[:20], data[len(data)-8:], len(data))
}

func (c choice) String() string {
	return fmt.Sprintf("%d %d %s %v, next %d", c.which, c.seq, short(c.body), c.fault, c.next)
}

// expect asks what is answered, and that it is answered twice, and that nothing handed in is written.
func expect(t *testing.T, name string, a, b []byte, want choice) {
	t.Helper()
	wasA, wasB := slices.Clone(a), slices.Clone(b)
	for range 2 {
		if got := ask(a, b); !got.same(want) {
			t.Errorf("%s: of %s and %s: got %v, want %v", name, short(a), short(b), got, want)
		}
	}
	if !bytes.Equal(a, wasA) || !bytes.Equal(b, wasB) {
		t.Errorf("%s: what was handed in was written", name)
	}
}

func none() choice {
	return choice{fault: api.ErrNone}
}

// expectWhole asks that bytes are a whole slot, at either place, alone and beside an older one.
func expectWhole(t *testing.T, name string, data []byte, seq int, body []byte) {
	t.Helper()
	first := choice{which: 0, seq: seq, body: body, next: 1}
	second := choice{which: 1, seq: seq, body: body, next: 0}
	expect(t, name+", first", data, nil, first)
	expect(t, name+", second", nil, data, second)
	expect(t, name+", twice", data, data, first)
	if seq > 0 {
		old := slotOf(seq-1, []byte("old"))
		expect(t, name+", first beside an older one", data, old, first)
		expect(t, name+", second beside an older one", old, data, second)
	}
}

// expectBroken asks that bytes are no whole slot, at either place, alone and beside a whole one of the least seq.
func expectBroken(t *testing.T, name string, data []byte) {
	t.Helper()
	least := slotOf(0, []byte{7})
	expect(t, name+", first", data, nil, none())
	expect(t, name+", second", nil, data, none())
	expect(t, name+", twice", data, data, none())
	expect(t, name+", beside a whole first", least, data, choice{which: 0, body: []byte{7}, next: 1})
	expect(t, name+", beside a whole second", data, least, choice{which: 1, body: []byte{7}, next: 0})
}

func mustPut(t *testing.T, seq int, body []byte) []byte {
	t.Helper()
	was := slices.Clone(body)
	data, err := slot.Put(seq, body)
	if err != nil {
		t.Fatalf("Put(%d, %s): %v", seq, short(body), err)
	}
	if !bytes.Equal(body, was) {
		t.Fatalf("Put(%d, %s) wrote into what it was given", seq, short(was))
	}
	return data
}

func expectPutFault(t *testing.T, seq, long int, want api.Errno) {
	t.Helper()
	body := some(long, 1)
	was := slices.Clone(body)
	got, err := slot.Put(seq, body)
	if plain.Told(err) != want || len(got) != 0 {
		t.Errorf("Put of seq %d, %d bytes: got %s, %v, want none, %v", seq, long, short(got), err, want)
	}
	if !bytes.Equal(body, was) {
		t.Errorf("Put of seq %d, %d bytes wrote into what it was given", seq, long)
	}
}

// seqs gives the least and the greatest, and those at either side of each count of bytes.
func seqs() []int {
	numbers := []int{0, 1, 2, 0x0102030405060708, greatest - 1, greatest}
	for k := 8; k <= 56; k += 8 {
		numbers = append(numbers, 1<<k-1, 1<<k, 1<<k+1)
	}
	return numbers
}

func longs() []int {
	return []int{0, 1, 2, 3, 4, 7, 8, 15, 16, 17, 255, 256, 257, 1000, api.MaxBytes - 1, api.MaxBytes}
}

// S1: how a slot is put.

func TestPutOfKnownSlots(t *testing.T) {
	cases := []struct {
		seq  int
		body []byte
		want []byte
	}{
		{0, nil, []byte{0, 0, 0, 0, 0, 0, 0, 0, 0, 0, 0, 0, 0x6F, 0xC6, 0xD5, 0x7B}},
		{3, []byte{1}, []byte{3, 0, 0, 0, 0, 0, 0, 0, 1, 0, 0, 0, 1, 0x6A, 0x33, 0xD9, 0xF8}},
		{greatest, []byte("abc"), []byte{0, 0, 0, 0, 0, 0, 0, 64, 3, 0, 0, 0, 97, 98, 99, 0x47, 0x43, 0xC3, 0x05}},
		{0x0102030405060708, []byte{0, 0}, []byte{8, 7, 6, 5, 4, 3, 2, 1, 2, 0, 0, 0, 0, 0, 0x76, 0x59, 0x07, 0x98}},
	}
	for _, c := range cases {
		if got := mustPut(t, c.seq, c.body); !bytes.Equal(got, c.want) {
			t.Errorf("Put(%d, %v): got %v, want %v", c.seq, c.body, got, c.want)
		}
		expectWhole(t, "a known slot", c.want, c.seq, c.body)
	}
}

func TestPutOfEachSeqAndLength(t *testing.T) {
	for i, seq := range seqs() {
		for k, long := range longs() {
			body := some(long, 100*i+k)
			got := mustPut(t, seq, body)
			if !bytes.Equal(got, slotOf(seq, body)) || len(got) != beside+long {
				t.Errorf("Put of seq %d, %d bytes: got %s, want %s", seq, long, short(got), short(slotOf(seq, body)))
			}
			expectWhole(t, "what is put", got, seq, body)
		}
	}
}

func TestPutOfNoBytes(t *testing.T) {
	for _, body := range [][]byte{nil, {}} {
		got := mustPut(t, 9, body)
		if !bytes.Equal(got, slotOf(9, nil)) {
			t.Errorf("got %v", got)
		}
		expectWhole(t, "no bytes", got, 9, nil)
	}
}

func wrongSeqs() []int {
	return []int{-1, -2, -256, -greatest, math.MinInt, math.MinInt + 1, greatest + 1, greatest + 2, greatest + 1<<61, math.MaxInt - 1, math.MaxInt}
}

func wrongLongs() []int {
	return []int{api.MaxBytes + 1, api.MaxBytes + 2, api.MaxBytes + beside, 2 * api.MaxBytes, 65536, 65536 + 8}
}

func TestPutOfSeqsThatAreNone(t *testing.T) {
	for _, seq := range wrongSeqs() {
		for _, long := range []int{0, 1, 100, api.MaxBytes} {
			expectPutFault(t, seq, long, api.ErrRange)
		}
	}
}

func TestPutOfTooManyBytes(t *testing.T) {
	for _, long := range wrongLongs() {
		for _, seq := range seqs() {
			expectPutFault(t, seq, long, api.ErrFull)
		}
	}
}

func TestPutTellsRangeAheadOfFull(t *testing.T) {
	for _, seq := range wrongSeqs() {
		for _, long := range wrongLongs() {
			expectPutFault(t, seq, long, api.ErrRange)
		}
	}
}

// S1: what is whole, and what not.

func TestWhatStandsBehindDoesNotCount(t *testing.T) {
	behinds := [][]byte{{0}, {255}, make([]byte, 4), bytes.Repeat([]byte{255}, 16), slotOf(greatest, []byte("newer")), some(2*api.MaxBytes, 3)}
	for _, long := range []int{0, 1, 20, api.MaxBytes} {
		body := some(long, long)
		for _, behind := range behinds {
			expectWhole(t, "bytes behind", slices.Concat(slotOf(5, body), behind), 5, body)
		}
	}
}

func TestCutOffAnywhere(t *testing.T) {
	for _, long := range []int{0, 1, 4, 5, 40} {
		data := slotOf(300, some(long, 2))
		for n := range len(data) {
			// What was cut off is still in the memory of the first, and must not be looked at.
			expectBroken(t, "cut off", data[:n])
			expectBroken(t, "cut off, and copied", slices.Clone(data[:n]))
		}
	}
	data := slotOf(300, some(api.MaxBytes, 2))
	for n := 0; n < len(data); n += 31 {
		expect(t, "cut off", data[:n], data[:n], none())
	}
	expectBroken(t, "cut off at last", data[:len(data)-1])
}

func TestCutOffAndBytesBehind(t *testing.T) {
	data := slotOf(300, []byte{9, 8, 7, 6, 5})
	for n := range len(data) {
		expectBroken(t, "cut off, then 0", append(slices.Clone(data[:n]), make([]byte, 40)...))
		expectBroken(t, "cut off, then 255", append(slices.Clone(data[:n]), bytes.Repeat([]byte{255}, 40)...))
	}
}

func TestOneBitTurned(t *testing.T) {
	for _, long := range []int{0, 1, 30} {
		good := slotOf(70000, some(long, 5))
		for i := range 8 * len(good) {
			data := slices.Clone(good)
			data[i/8] ^= 1 << (i % 8)
			expectBroken(t, fmt.Sprint("bit ", i), data)
			expectBroken(t, fmt.Sprint("bit ", i, ", bytes behind"), append(data, some(600, i)...))
		}
	}
}

func TestChecksOfOtherBytes(t *testing.T) {
	body := []byte("some body")
	good := slotOf(77, body)
	ahead := good[:len(good)-4]
	turned := slices.Clone(good)
	slices.Reverse(turned[len(ahead):])
	expectBroken(t, "its highest byte first", turned)
	for _, from := range []int{8, 12} {
		sum := binary.LittleEndian.AppendUint32(slices.Clone(ahead), crc32.ChecksumIEEE(ahead[from:]))
		expectBroken(t, fmt.Sprint("of the bytes from ", from, " on"), sum)
	}
	for _, sum := range [][]byte{{0, 0, 0, 0}, {255, 255, 255, 255}} {
		expectBroken(t, "no check at all", append(slices.Clone(ahead), sum...))
	}
	// The check stands behind the body, wherever that ends: not at the end of the bytes.
	expectBroken(t, "a check at the end of more bytes", seal(append(slices.Clone(ahead), 1, 2, 3)))
	swapped := slices.Clone(ahead)
	slices.Reverse(swapped[:8])
	slices.Reverse(swapped[8:12])
	expectBroken(t, "numbers with their highest byte first", seal(swapped))
}

func TestSeqsThatAreInNoSlot(t *testing.T) {
	for _, seq := range []uint64{greatest + 1, greatest + 2, greatest + 1<<61, 1<<63 - 1, 1 << 63, 1<<63 + 1, 1<<63 + greatest, 1<<63 + greatest + 1, math.MaxUint64 - 1, math.MaxUint64} {
		for _, long := range []int{0, 1, 50, api.MaxBytes} {
			expectBroken(t, fmt.Sprint("seq ", seq), claim(seq, uint32(long), some(long, 1)))
		}
	}
	for _, seq := range []uint64{0, 1, greatest - 1, greatest} {
		expectWhole(t, fmt.Sprint("seq ", seq), claim(seq, 2, []byte{1, 2}), int(seq), []byte{1, 2})
	}
}

func TestBodiesThatAreInNoSlot(t *testing.T) {
	for _, long := range wrongLongs() {
		data := slotOf(6, some(long, 4))
		expectBroken(t, fmt.Sprint(long, " bytes"), data)
		expectBroken(t, fmt.Sprint(long, " bytes, and more"), append(data, some(50, 1)...))
	}
	for _, long := range []int{api.MaxBytes - 1, api.MaxBytes} {
		body := some(long, 4)
		expectWhole(t, fmt.Sprint(long, " bytes"), slotOf(6, body), 6, body)
	}
}

func TestLengthsThatAreNotTheBody(t *testing.T) {
	for _, there := range []int{0, 1, 10, 300} {
		body := some(there, there+1)
		for _, told := range []uint32{0, 1, 9, 10, 11, 299, 300, 301, 4096, 4097, 1 << 16, 1<<16 + 10, 1 << 24, 1<<31 - 1, 1 << 31, 1<<31 + 10, math.MaxUint32 - 15, math.MaxUint32 - 11, math.MaxUint32} {
			if int(told) == there {
				continue
			}
			data := claim(8, told, body)
			expectBroken(t, fmt.Sprint(told, " told, ", there, " there"), data)
			expectBroken(t, fmt.Sprint(told, " told, more behind"), append(data, some(6000, 1)...))
		}
	}
}

func TestAllShortBytes(t *testing.T) {
	for n := range 3 {
		data := make([]byte, n)
		for k := range 1 << (8 * n) {
			for i := range data {
				data[i] = byte(k >> (8 * i))
			}
			expect(t, "short bytes", data, data, none())
		}
	}
	for n := range 64 {
		for _, b := range []byte{0, 1, 255} {
			expectBroken(t, "bytes alike", bytes.Repeat([]byte{b}, n))
		}
	}
}

// S2: which of two.

func TestTheGreaterSeqIsChosen(t *testing.T) {
	numbers := seqs()
	slices.Sort(numbers)
	numbers = slices.Compact(numbers)
	for i, low := range numbers {
		for _, high := range numbers[i+1:] {
			old, young := slotOf(low, []byte("a longer, older body")), slotOf(high, []byte{1})
			expect(t, "the second", old, young, choice{which: 1, seq: high, body: []byte{1}, next: 0})
			expect(t, "the first", young, old, choice{which: 0, seq: high, body: []byte{1}, next: 1})
		}
	}
}

func TestOfTheSameSeqTheFirstIsChosen(t *testing.T) {
	bodies := [][]byte{nil, {0}, {1}, {255, 255}, some(40, 1), some(api.MaxBytes, 2)}
	for _, seq := range seqs() {
		for _, a := range bodies {
			for _, b := range bodies {
				expect(t, "the same seq", slotOf(seq, a), slotOf(seq, b), choice{which: 0, seq: seq, body: a, next: 1})
				expect(t, "the same seq, bytes behind", slotOf(seq, a), append(slotOf(seq, b), 1, 2, 3), choice{which: 0, seq: seq, body: a, next: 1})
			}
		}
	}
}

func TestOneIsWholeAndOneIsNot(t *testing.T) {
	whole := slotOf(3, []byte{1})
	newer := slotOf(4, []byte{2})
	wrong := slices.Clone(newer)
	wrong[12]++
	broken := [][]byte{nil, {}, {0}, newer[:16], newer[:12], newer[:8], wrong, append(slices.Clone(newer[:16]), newer[16]+1), claim(greatest+1, 1, []byte{2}), slotOf(4, some(api.MaxBytes+1, 1))}
	for _, data := range broken {
		expect(t, "the first is whole", whole, data, choice{which: 0, seq: 3, body: []byte{1}, next: 1})
		expect(t, "the second is whole", data, whole, choice{which: 1, seq: 3, body: []byte{1}, next: 0})
		for _, other := range broken {
			expect(t, "neither is whole", data, other, none())
		}
	}
}

func TestNeitherIsThere(t *testing.T) {
	for _, a := range [][]byte{nil, {}} {
		for _, b := range [][]byte{nil, {}} {
			expect(t, "no bytes at all", a, b, none())
		}
	}
}

// S3: it follows.

// written gives the two places with one of them written anew, and nothing behind what came there.
func written(a, b []byte, at int, data []byte) ([]byte, []byte) {
	if at == 0 {
		return data, b
	}
	return a, data
}

// pairs gives two places of each kind: none, one or both of them whole, of the same seq, and with bytes behind.
func pairs() [][2][]byte {
	old, young := slotOf(3, []byte{1}), slotOf(4, []byte{2, 2})
	long := slotOf(greatest-1, some(200, 1))
	return [][2][]byte{
		{nil, nil},
		{old, nil},
		{nil, old},
		{old, young},
		{young, old},
		{young, young},
		{slotOf(4, []byte{1}), slotOf(4, []byte{2})},
		{old[:9], young[:12]},
		{old, young[:12]},
		{old[:5], young},
		{slotOf(0, nil), slotOf(0, nil)},
		{long, young},
		{append(slices.Clone(old), 1, 2, 3), append(slices.Clone(young), old...)},
		{bytes.Repeat([]byte{255}, 30), young},
	}
}

func TestSomeBeginningChangesNothing(t *testing.T) {
	for _, pair := range pairs() {
		a, b := pair[0], pair[1]
		ahead := ask(a, b)
		for _, step := range []int{1, 2, 1000} {
			for _, body := range [][]byte{nil, {1}, {2, 2}, some(33, step)} {
				seq := min(ahead.seq+step, greatest)
				data := mustPut(t, seq, body)
				for n := range len(data) {
					x, y := written(a, b, ahead.next, slices.Clone(data[:n]))
					expect(t, fmt.Sprint(n, " bytes came"), x, y, ahead)
				}
				x, y := written(a, b, ahead.next, data)
				expect(t, "all came", x, y, choice{which: ahead.next, seq: seq, body: body, next: 1 - ahead.next})
			}
		}
	}
}

func TestSomeBeginningOfTheLongestChangesNothing(t *testing.T) {
	a, b := slotOf(1, some(api.MaxBytes, 1)), slotOf(2, some(api.MaxBytes, 2))
	ahead := ask(a, b)
	body := some(api.MaxBytes, 3)
	data := mustPut(t, 3, body)
	for n := 0; n < len(data); n += 17 {
		x, y := written(a, b, ahead.next, data[:n])
		expect(t, fmt.Sprint(n, " bytes came"), x, y, ahead)
	}
	x, y := written(a, b, ahead.next, data)
	expect(t, "all came", x, y, choice{which: ahead.next, seq: 3, body: body, next: 1 - ahead.next})
}

func TestManyWritesSomeOfWhichAreCutOff(t *testing.T) {
	r := rand.New(rand.NewSource(7))
	for range 200 {
		var a, b []byte
		kept := none()
		for range 60 {
			seq, body := kept.seq+1+r.Intn(5), some(r.Intn(30), r.Int())
			data := mustPut(t, seq, body)
			at := slot.Next(a, b)
			if r.Intn(2) == 0 {
				data = data[:r.Intn(len(data))]
			} else {
				kept = choice{which: at, seq: seq, body: body, next: 1 - at}
			}
			a, b = written(a, b, at, data)
			expect(t, "many writes", a, b, kept)
		}
	}
}

// All against the model.

// spoil changes, cuts, doubles or leaves out some of the bytes.
func spoil(r *rand.Rand, data []byte) []byte {
	data = slices.Clone(data)
	if len(data) == 0 {
		return []byte{byte(r.Intn(256))}
	}
	at := r.Intn(len(data))
	switch r.Intn(6) {
	case 0:
		data[at] ^= 1 << r.Intn(8)
	case 1:
		data = data[:at]
	case 2:
		data = slices.Delete(data, at, min(len(data), at+1+r.Intn(4)))
	case 3:
		data = slices.Insert(data, at, data[at:min(len(data), at+1+r.Intn(12))]...)
	case 4: // a check that is right, of something else
		data = seal(spoil(r, data[:at]))
	case 5:
		data = append(data, some(1+r.Intn(9), r.Int())...)
	}
	return data
}

func TestSomeSlots(t *testing.T) {
	r := rand.New(rand.NewSource(8))
	next := func() []byte {
		seq := r.Intn(4)
		if r.Intn(2) == 0 {
			seq = min(r.Intn(math.MaxInt)>>r.Intn(63), greatest)
		}
		data := mustPut(t, seq, some(r.Intn(1+r.Intn(40)), r.Int()))
		for range r.Intn(3) {
			data = spoil(r, data)
		}
		return data
	}
	for range 20000 {
		a, b := next(), next()
		expect(t, "some slots", a, b, wantChoice(a, b))
	}
}

// P2, P4: what comes out is the caller's, and what lies behind a length is nobody's.

func TestNothingIsShared(t *testing.T) {
	body := []byte{1, 2, 3, 4}
	data := mustPut(t, 5, body)
	clear(body)
	if !bytes.Equal(data, slotOf(5, []byte{1, 2, 3, 4})) {
		t.Error("what is put shares memory with the body")
	}
	again := mustPut(t, 5, []byte{1, 2, 3, 4})
	clear(again[:cap(again)])
	if !bytes.Equal(data, slotOf(5, []byte{1, 2, 3, 4})) {
		t.Error("two slots share memory")
	}
	for _, pair := range [][2][]byte{{data, nil}, {nil, data}, {data, data}} {
		_, _, first, _ := slot.Choose(pair[0], pair[1])
		_, _, second, _ := slot.Choose(pair[0], pair[1])
		// Behind its length too, as far as its memory goes.
		clear(first[:cap(first)])
		if !bytes.Equal(data, slotOf(5, []byte{1, 2, 3, 4})) || !bytes.Equal(second, []byte{1, 2, 3, 4}) {
			t.Error("a body shares memory with its slot, or with another body")
		}
		clear(second)
	}
	_, _, kept, _ := slot.Choose(data, nil)
	clear(data)
	if !bytes.Equal(kept, []byte{1, 2, 3, 4}) {
		t.Error("a body hangs on its slot's memory")
	}
}

func TestNothingBehindALengthIsRead(t *testing.T) {
	room := some(3*api.MaxBytes, 6)
	was := slices.Clone(room)
	for _, long := range []int{0, 1, 100, api.MaxBytes} {
		if got := mustPut(t, 4, room[:long]); !bytes.Equal(got, slotOf(4, was[:long])) {
			t.Errorf("%d bytes of more: got %s", long, short(got))
		}
	}
	if !bytes.Equal(room, was) {
		t.Error("Put wrote behind a length")
	}
	memory := append(slotOf(4, []byte{1, 2}), slotOf(9, []byte{3})...)
	memoryWas := slices.Clone(memory)
	expect(t, "a whole slot, cut there", memory[:18], memory[:17], choice{which: 0, seq: 4, body: []byte{1, 2}, next: 1})
	if !bytes.Equal(memory, memoryWas) {
		t.Error("Choose wrote behind a length")
	}
}

func FuzzChoose(f *testing.F) {
	f.Add([]byte{}, []byte{}, false, false)
	f.Add(slotOf(3, []byte{1}), slotOf(4, []byte{2}), false, false)
	f.Add(make([]byte, 12), make([]byte, 12), true, true)
	f.Add([]byte{0, 0, 0, 0, 0, 0, 0, 64, 1, 0, 0, 0, 5}, []byte{1, 0, 0, 0, 0, 0, 0, 64, 1, 0, 0, 0, 5}, true, true)
	f.Fuzz(func(t *testing.T, a, b []byte, sealA, sealB bool) {
		if sealA {
			a = seal(a)
		}
		if sealB {
			b = seal(b)
		}
		expect(t, "fuzz", a, b, wantChoice(a, b))
	})
}
