package code_test

import (
	"bytes"
	"hash/crc32"
	"math/bits"
	"slices"
	"testing"

	"granary/api"
	"granary/code"
	"granary/plain"
)

// The checks below are worked out word for word as the chapter says them, bit by bit, so that
// a shortcut in the package is held against something that has none.

func bitOf(data []byte, i int) int { return int(data[i/8]>>(i%8)) & 1 }

func turn(data []byte, i int) { data[i/8] ^= 1 << (i % 8) }

func wantPlaces() []int {
	var places []int
	for n := 3; len(places) < 64; n++ {
		if bits.OnesCount(uint(n)) != 1 {
			places = append(places, n)
		}
	}
	return places
}

func wantCheck(word []byte) byte {
	places := wantPlaces()
	check, all := 0, 0
	for j := range 7 {
		digit := 0
		for i, place := range places {
			if place>>j&1 == 1 {
				digit ^= bitOf(word, i)
			}
		}
		check |= digit << j
		all ^= digit
	}
	for i := range places {
		all ^= bitOf(word, i)
	}
	return byte(check | all<<7)
}

// wantMend gives what a word was and how many bits were turned; -1 if it is lost.
func wantMend(word []byte, check byte) ([]byte, int) {
	s := int(wantCheck(word)&127 ^ check&127)
	t := 0
	for i := range 64 {
		t ^= bitOf(word, i)
	}
	for i := range 8 {
		t ^= bitOf([]byte{check}, i)
	}
	right := slices.Clone(word)
	if t == 0 && s == 0 {
		return right, 0
	}
	if t == 0 {
		return nil, -1
	}
	if slices.Contains([]int{0, 1, 2, 4, 8, 16, 32, 64}, s) {
		return right, 1
	}
	i := slices.Index(wantPlaces(), s)
	if i < 0 {
		return nil, -1
	}
	turn(right, i)
	return right, 1
}

// some gives n bytes of no evident order, other ones for each seed.
func some(n int, seed uint32) []byte {
	data := make([]byte, n)
	x := seed*2654435761 + 12345
	for i := range data {
		x = x*1664525 + 1013904223
		data[i] = byte(x >> 24)
	}
	return data
}

func someWords() [][]byte {
	return [][]byte{
		make([]byte, 8),
		bytes.Repeat([]byte{255}, 8),
		{1, 0, 0, 0, 0, 0, 0, 0},
		{0, 0, 0, 0, 0, 0, 0, 128},
		{1, 2, 3, 4, 5, 6, 7, 8},
		some(8, 1),
		some(8, 2),
	}
}

func protect(t *testing.T, data []byte) []byte {
	t.Helper()
	check, err := code.Protect(data)
	if err != nil {
		t.Fatalf("Protect of %d bytes: %v", len(data), err)
	}
	return check
}

func expectMended(t *testing.T, data, check, want []byte, turned int) {
	t.Helper()
	got, n, err := code.Mend(data, check)
	if err != nil || n != turned || !bytes.Equal(got, want) {
		t.Fatalf("Mend of %v, %v: got %v, %d, %v, want %v, %d", data, check, got, n, err, want, turned)
	}
}

func expectMendFault(t *testing.T, data, check []byte, want api.Errno) {
	t.Helper()
	got, n, err := code.Mend(data, check)
	if plain.Told(err) != want || len(got) != 0 || n != 0 {
		t.Fatalf("Mend of %d bytes, %d checks: got %v, %d, %v, want %v alone", len(data), len(check), got, n, err, want)
	}
}

// C1

func TestCrcOfKnownBytes(t *testing.T) {
	cases := []struct {
		data string
		want uint32
	}{
		{"123456789", 0xCBF43926},
		{"", 0},
		{"1", 2212294583},
		{"\x00", 0xD202EF8D},
		{"\xff\xff\xff\xff", 0xFFFFFFFF},
	}
	for _, c := range cases {
		if got := code.Crc([]byte(c.data)); got != c.want {
			t.Errorf("Crc of %q: got %#x, want %#x", c.data, got, c.want)
		}
	}
	if got := code.Crc(nil); got != 0 {
		t.Errorf("Crc of nil: got %#x", got)
	}
}

func TestCrcIsTheUsualOne(t *testing.T) {
	for b := range 256 {
		data := []byte{byte(b)}
		if got, want := code.Crc(data), crc32.ChecksumIEEE(data); got != want {
			t.Errorf("Crc of byte %d: got %#x, want %#x", b, got, want)
		}
	}
	// Crc has no bound of its own: MaxBytes bounds only what is protected.
	for _, n := range []int{2, 3, 7, 8, 9, 64, 255, 256, 4095, api.MaxBytes, api.MaxBytes + 1, 100000} {
		data := some(n, uint32(n))
		if got, want := code.Crc(data), crc32.ChecksumIEEE(data); got != want {
			t.Errorf("Crc of %d bytes: got %#x, want %#x", n, got, want)
		}
	}
}

// C2

func TestCheckOfExamples(t *testing.T) {
	cases := []struct {
		word []byte
		want byte
	}{
		{[]byte{1, 0, 0, 0, 0, 0, 0, 0}, 131},
		{[]byte{0, 0, 0, 0, 0, 0, 0, 128}, 199},
		{make([]byte, 8), 0},
		{[]byte{2, 0, 0, 0, 0, 0, 0, 0}, 133},
		{[]byte{8, 0, 0, 0, 0, 0, 0, 0}, 7},
	}
	for _, c := range cases {
		if got := protect(t, c.word); !bytes.Equal(got, []byte{c.want}) {
			t.Errorf("Protect of %v: got %v, want %d", c.word, got, c.want)
		}
	}
}

func TestCheckOfEachBit(t *testing.T) {
	places := wantPlaces()
	if places[0] != 3 || places[63] != 71 {
		t.Fatalf("places from %d to %d", places[0], places[63])
	}
	for i, place := range places {
		word := make([]byte, 8)
		turn(word, i)
		got := protect(t, word)[0]
		if int(got&127) != place {
			t.Errorf("bit %d alone: bits 0 to 6 are %d, want its place %d", i, got&127, place)
		}
		if got != wantCheck(word) {
			t.Errorf("bit %d alone: got %d, want %d", i, got, wantCheck(word))
		}
	}
}

func TestCheckOfManyWords(t *testing.T) {
	for seed := range 500 {
		word := some(8, uint32(seed))
		if got := protect(t, word)[0]; got != wantCheck(word) {
			t.Fatalf("Protect of %v: got %d, want %d", word, got, wantCheck(word))
		}
	}
}

// C3

func TestProtectTakesWordsInOrder(t *testing.T) {
	for _, words := range []int{1, 2, 3, 31, 511, api.MaxBytes / 8} {
		data := some(8*words, uint32(words))
		got := protect(t, data)
		if len(got) != words {
			t.Fatalf("%d words: %d check bytes", words, len(got))
		}
		for k := range words {
			if want := wantCheck(data[8*k : 8*k+8]); got[k] != want {
				t.Errorf("word %d of %d: got %d, want %d", k, words, got[k], want)
			}
		}
	}
}

func TestProtectOfNoBytes(t *testing.T) {
	for _, data := range [][]byte{nil, {}} {
		if got := protect(t, data); len(got) != 0 {
			t.Errorf("got %v, want none", got)
		}
	}
}

// wrongSizes: ErrShape is named first, so that it is told where both apply.
func wrongSizes() map[int]api.Errno {
	wrong := map[int]api.Errno{
		api.MaxBytes + 1:  api.ErrShape,
		api.MaxBytes + 7:  api.ErrShape,
		api.MaxBytes + 8:  api.ErrFull,
		api.MaxBytes + 9:  api.ErrShape,
		api.MaxBytes - 1:  api.ErrShape,
		2 * api.MaxBytes:  api.ErrFull,
		16 * api.MaxBytes: api.ErrFull,
	}
	for n := 1; n < 24; n++ {
		if n%8 != 0 {
			wrong[n] = api.ErrShape
		}
	}
	return wrong
}

func TestProtectOfWrongSizes(t *testing.T) {
	for n, want := range wrongSizes() {
		got, err := code.Protect(make([]byte, n))
		if plain.Told(err) != want || len(got) != 0 {
			t.Errorf("Protect of %d bytes: got %v, %v, want %v alone", n, got, err, want)
		}
	}
}

// C4

func TestMendOfWhatIsRight(t *testing.T) {
	expectMended(t, nil, nil, nil, 0)
	expectMended(t, []byte{}, []byte{}, nil, 0)
	for _, n := range []int{8, 16, 24, api.MaxBytes - 8, api.MaxBytes} {
		data := some(n, uint32(n))
		expectMended(t, data, protect(t, data), data, 0)
	}
}

func TestMendOfEveryCheckByte(t *testing.T) {
	lost := 0
	for _, word := range someWords() {
		for c := range 256 {
			want, turned := wantMend(word, byte(c))
			if turned < 0 {
				lost++
				expectMendFault(t, word, []byte{byte(c)}, api.ErrLost)
				continue
			}
			expectMended(t, word, []byte{byte(c)}, want, turned)
		}
	}
	// Of each word: 127 where t is 0 and s is not, and 56 where s is above every place (72 to 127).
	if want := len(someWords()) * (127 + 56); lost != want {
		t.Errorf("%d lost, want %d", lost, want)
	}
}

func TestMendOfThreeBitsTurnedToNoPlace(t *testing.T) {
	// The exclusive or of the places 65, 12 and 3 is 78, which is no bit's place.
	places := wantPlaces()
	data := make([]byte, 8)
	for _, place := range []int{65, 12, 3} {
		turn(data, slices.Index(places, place))
	}
	expectMendFault(t, data, []byte{0}, api.ErrLost)
}

func TestMendOfWrongSizes(t *testing.T) {
	for n, want := range wrongSizes() {
		expectMendFault(t, make([]byte, n), make([]byte, n/8), want)
		expectMendFault(t, make([]byte, n), make([]byte, n/8+1), want)
		expectMendFault(t, make([]byte, n), nil, want)
	}
}

func TestMendOfWrongNumberOfChecks(t *testing.T) {
	for _, words := range []int{0, 1, 2, 9, api.MaxBytes / 8} {
		data := some(8*words, uint32(words))
		for _, checks := range []int{0, words - 1, words + 1, 2*words + 1, 8 * words} {
			if checks < 0 || checks == words {
				continue
			}
			expectMendFault(t, data, make([]byte, checks), api.ErrShape)
		}
	}
}

func TestMendTellsShapeAheadOfLost(t *testing.T) {
	data := []byte{3, 0, 0, 0, 0, 0, 0, 0}
	expectMendFault(t, data, []byte{0}, api.ErrLost)
	expectMendFault(t, data, []byte{0, 0}, api.ErrShape)
}

func TestMendCountsWords(t *testing.T) {
	words := api.MaxBytes / 8
	want := some(api.MaxBytes, 7)
	data, check := slices.Clone(want), protect(t, want)
	for k := range words {
		// Every place of a word and of its check is turned in some word.
		if i := k % 73; i < 64 {
			turn(data[8*k:], i)
		} else if i < 72 {
			turn(check[k:], i-64)
		}
	}
	expectMended(t, data, check, want, words-words/73)
}

func TestMendIsLostByOneWord(t *testing.T) {
	words := 5
	for k := range words {
		data := some(8*words, 9)
		check := protect(t, data)
		turn(data[8*((k+1)%words):], 20)
		turn(data[8*k:], 3)
		turn(data[8*k:], 60)
		expectMendFault(t, data, check, api.ErrLost)
	}
}

// C5

// turned gives a word and its check with some bits turned: 0 to 63 are the word's, 64 to 71 the check's.
func turned(word, check []byte, at ...int) ([]byte, []byte) {
	both := slices.Concat(word, check)
	for _, i := range at {
		turn(both, i)
	}
	return both[:8], both[8:]
}

func TestOneBitIsMended(t *testing.T) {
	for _, word := range someWords() {
		check := protect(t, word)
		for i := range 72 {
			d, c := turned(word, check, i)
			expectMended(t, d, c, word, 1)
		}
	}
}

func TestTwoBitsAreTold(t *testing.T) {
	for _, word := range someWords() {
		check := protect(t, word)
		for i := range 72 {
			for k := range i {
				d, c := turned(word, check, i, k)
				expectMendFault(t, d, c, api.ErrLost)
			}
		}
	}
}

func TestCrcTellsOneBit(t *testing.T) {
	for _, n := range []int{1, 2, 8, 64, 256} {
		data := some(n, uint32(n))
		whole := code.Crc(data)
		for i := range 8 * n {
			turn(data, i)
			if code.Crc(data) == whole {
				t.Errorf("%d bytes: bit %d turned is not told", n, i)
			}
			turn(data, i)
		}
	}
}

func TestCrcHangsTogether(t *testing.T) {
	for _, n := range []int{0, 1, 2, 8, 9, 100, 4096} {
		a, b, c := some(n, 1), some(n, 2), some(n, 3)
		all := make([]byte, n)
		for i := range all {
			all[i] = a[i] ^ b[i] ^ c[i]
		}
		if got, want := code.Crc(all), code.Crc(a)^code.Crc(b)^code.Crc(c); got != want {
			t.Errorf("%d bytes: got %#x, want %#x", n, got, want)
		}
	}
}

// What holds everywhere.

func TestNothingHandedInIsWritten(t *testing.T) {
	room := some(64, 4)
	data := room[8:40]
	check := protect(t, data)
	turn(data, 5)
	turn(check, 8+2)
	roomWas, checkWas := slices.Clone(room), slices.Clone(check)
	code.Crc(data)
	protect(t, data)
	if _, n, err := code.Mend(data, check); n != 2 || err != nil {
		t.Errorf("Mend: %d, %v", n, err)
	}
	if !bytes.Equal(room, roomWas) || !bytes.Equal(check, checkWas) {
		t.Error("a list that was handed in was written")
	}
}

func TestNothingBehindALengthIsRead(t *testing.T) {
	long := some(32, 5)
	short := slices.Clone(long[:16])
	check := protect(t, short)
	if code.Crc(long[:16]) != code.Crc(short) || !bytes.Equal(protect(t, long[:16]), check) {
		t.Error("what stands behind the length counts")
	}
	expectMended(t, long[:16], append(check, 77)[:2], short, 0)
	expectMendFault(t, long[:16], check[:1], api.ErrShape)
}

func TestAnswersAreFresh(t *testing.T) {
	want := some(16, 6)
	data := slices.Clone(want)
	check := protect(t, data)
	checkWas := slices.Clone(check)
	first, _, _ := code.Mend(data, check)
	second, _, _ := code.Mend(data, check)
	clear(first)
	if !bytes.Equal(data, want) || !bytes.Equal(second, want) || !bytes.Equal(check, checkWas) {
		t.Error("an answer of Mend shares memory")
	}
	clear(data)
	if !bytes.Equal(second, want) || !bytes.Equal(check, checkWas) {
		t.Error("an answer shares memory with what was handed in")
	}
	again := protect(t, want)
	clear(check)
	if !bytes.Equal(again, checkWas) || !bytes.Equal(protect(t, want), checkWas) {
		t.Error("two answers of Protect share memory")
	}
}

func FuzzMend(f *testing.F) {
	f.Add([]byte{1, 0, 0, 0, 0, 0, 0, 0}, []byte{131})
	f.Add([]byte{3, 0, 0, 0, 0, 0, 0, 0}, []byte{131})
	f.Add([]byte{7, 0, 0, 0, 0, 0, 0, 0}, []byte{131})
	f.Add([]byte{1}, []byte{})
	f.Add(some(24, 1), []byte{0, 1, 2})
	f.Fuzz(func(t *testing.T, data, check []byte) {
		got, n, err := code.Mend(data, check)
		want, count, fault := wantMendAll(data, check)
		if plain.Told(err) != fault || n != count || !bytes.Equal(got, want) {
			t.Errorf("got %v, %d, %v, want %v, %d, %v", got, n, err, want, count, fault)
		}
	})
}

func wantMendAll(data, check []byte) ([]byte, int, api.Errno) {
	switch {
	case len(data)%8 != 0:
		return nil, 0, api.ErrShape
	case len(data) > 4096:
		return nil, 0, api.ErrFull
	case len(check)*8 != len(data):
		return nil, 0, api.ErrShape
	}
	var all []byte
	count := 0
	for k, c := range check {
		word, n := wantMend(data[8*k:8*k+8], c)
		if n < 0 {
			return nil, 0, api.ErrLost
		}
		all = append(all, word...)
		count += n
	}
	return all, count, api.OK
}
