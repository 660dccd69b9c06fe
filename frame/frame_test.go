package frame_test

import (
	"bytes"
	"encoding/binary"
	"fmt"
	"hash/crc32"
	"math"
	"math/rand"
	"slices"
	"testing"

	"granary/api"
	"granary/frame"
	"granary/plain"
)

const (
	least   = 24
	maxLba  = 1<<32 - 1
	maxSeq  = 1 << 62
	notData = 21
)

// some gives n bytes that are neither 0 nor 0xFF, other ones for each seed.
func some(n, seed int) []byte {
	data := make([]byte, n)
	for i := range data {
		data[i] = byte(1 + (i*7+seed*31)%253)
	}
	return data
}

func filled(n int, value byte) []byte {
	return slices.Repeat([]byte{value}, n)
}

// seal puts the right sum into a page.
func seal(page []byte) []byte {
	copy(page[16:20], []byte{0, 0, 0, 0})
	binary.LittleEndian.PutUint32(page[16:], crc32.ChecksumIEEE(page))
	return page
}

// pageOf writes a page as F1 says it, by the library's own means.
func pageOf(n int, f api.Frame) []byte {
	page := []byte{0xA5, byte(f.Kind)}
	page = binary.LittleEndian.AppendUint32(page, uint32(f.Lba))
	page = binary.LittleEndian.AppendUint64(page, uint64(f.Seq))
	page = binary.LittleEndian.AppendUint16(page, uint16(len(f.Data)))
	page = append(page, 0, 0, 0, 0)
	page = append(page, f.Data...)
	page = append(page, make([]byte, n-1-len(page))...)
	return seal(append(page, 0x5A))
}

func same(a, b api.Frame) bool {
	return a.Kind == b.Kind && a.Lba == b.Lba && a.Seq == b.Seq && bytes.Equal(a.Data, b.Data)
}

func mustPack(t *testing.T, n int, f api.Frame) []byte {
	t.Helper()
	page, err := frame.Pack(n, f)
	if err != nil {
		t.Fatalf("Pack(%d, %v): %v", n, f, err)
	}
	return page
}

// wantGood asks that a frame packs to the page that F1 says, and that this opens.
func wantGood(t *testing.T, n int, f api.Frame) {
	t.Helper()
	data := slices.Clone(f.Data)
	page := mustPack(t, n, f)
	if want := pageOf(n, f); !bytes.Equal(page, want) {
		t.Errorf("Pack(%d, %v):\ngot  %v\nwant %v", n, f, page, want)
	}
	if !bytes.Equal(f.Data, data) {
		t.Errorf("Pack(%d, %v) wrote into Data", n, f)
	}
	wantValid(t, page, f)
}

func wantValid(t *testing.T, page []byte, want api.Frame) {
	t.Helper()
	was := slices.Clone(page)
	got, state := frame.Open(page)
	if state != api.Valid || !same(got, want) {
		t.Errorf("Open(%v): got %v, %d, want %v, Valid", page, got, state, want)
	}
	if !bytes.Equal(page, was) {
		t.Errorf("Open wrote into its page")
	}
}

// wantState asks a state that is not Valid, with no frame beside it.
func wantState(t *testing.T, name string, page []byte, want int) {
	t.Helper()
	f, state := frame.Open(page)
	if state != want {
		t.Errorf("%s: state %d, want %d", name, state, want)
	}
	if !same(f, api.Frame{}) {
		t.Errorf("%s: frame %v beside state %d", name, f, state)
	}
}

func wantPackErr(t *testing.T, n int, f api.Frame, want api.Errno) {
	t.Helper()
	page, err := frame.Pack(n, f)
	if got := plain.Told(err); got != want || len(page) != 0 {
		t.Errorf("Pack(%d, kind %d, lba %d, seq %d, %d bytes): got %v, %v, want %v",
			n, f.Kind, f.Lba, f.Seq, len(f.Data), page, got, want)
	}
}

// F1, F2: the page, byte for byte.
func TestPackBytes(t *testing.T) {
	f := api.Frame{Kind: api.Note, Lba: 0x04030201, Seq: 0x3C0B0A0908070605, Data: []byte{9, 8, 7}}
	page := mustPack(t, 26, f)
	sum := page[16:20]
	want := []byte{0xA5, 3, 1, 2, 3, 4, 5, 6, 7, 8, 9, 10, 11, 0x3C, 3, 0, sum[0], sum[1], sum[2], sum[3], 9, 8, 7, 0, 0, 0x5A}
	if !bytes.Equal(page, want) {
		t.Errorf("got  %v\nwant %v", page, want)
	}
	bare := slices.Concat(page[:16], []byte{0, 0, 0, 0}, page[20:])
	if got, want := binary.LittleEndian.Uint32(sum), crc32.ChecksumIEEE(bare); got != want {
		t.Errorf("sum %x, want %x", got, want)
	}
}

// F1: the count of Data's bytes has a second byte.
func TestPackLongData(t *testing.T) {
	page := mustPack(t, 600, api.Frame{Kind: api.Data, Data: some(515, 1)})
	if page[14] != 3 || page[15] != 2 {
		t.Errorf("bytes 14 and 15: %d %d, want 3 2", page[14], page[15])
	}
	if !bytes.Equal(page[20:535], some(515, 1)) || !bytes.Equal(page[535:599], make([]byte, 64)) {
		t.Errorf("Data, and the bytes behind it: %v", page[20:])
	}
}

// F1 to F3: what lies on the edges is packed, and opens.
func TestEdgesPack(t *testing.T) {
	for _, n := range []int{least, least + 1, 32, 255, 256, 4095, api.MaxBytes} {
		for _, kind := range []int{api.Data, api.Gone, api.Note} {
			for _, lba := range []int{0, 1, 255, 256, 1 << 31, maxLba} {
				for _, seq := range []int{0, 1, math.MaxUint32, maxSeq - 1, maxSeq} {
					for _, long := range []int{0, 1, n - notData - 1, n - notData} {
						wantGood(t, n, api.Frame{Kind: kind, Lba: lba, Seq: seq, Data: some(long, n)})
					}
				}
			}
		}
	}
}

// F1 to F3: Data of any bytes, 0 and 0xFF at its end among them.
func TestDataOfAnyBytes(t *testing.T) {
	for _, value := range []byte{0, 1, 0x5A, 0xA5, 0xFF} {
		for long := range 44 {
			wantGood(t, 64, api.Frame{Kind: api.Gone, Lba: 5, Seq: 6, Data: filled(long, value)})
		}
	}
}

// F3: an empty list and nil are the same.
func TestNoData(t *testing.T) {
	wantGood(t, least, api.Frame{Kind: api.Gone, Lba: 3, Seq: 4})
	wantGood(t, least, api.Frame{Kind: api.Gone, Lba: 3, Seq: 4, Data: []byte{}})
}

// F2: each number, one beyond its edges and far beyond them.
func TestPackRange(t *testing.T) {
	good := api.Frame{Kind: api.Data, Lba: 7, Seq: 9, Data: []byte{5}}
	for _, n := range []int{math.MinInt, -1, 0, 1, 20, 21, least - 1, api.MaxBytes + 1, math.MaxInt} {
		wantPackErr(t, n, good, api.ErrRange)
		wantPackErr(t, n, api.Frame{Kind: api.Data}, api.ErrRange)
	}
	for _, kind := range []int{math.MinInt, -1, 0, 4, 256, 257, 258, 259, math.MaxInt} {
		f := good
		f.Kind = kind
		wantPackErr(t, least, f, api.ErrRange)
	}
	for _, lba := range []int{math.MinInt, -maxLba, -1, maxLba + 1, maxLba + 8, math.MaxInt} {
		f := good
		f.Lba = lba
		wantPackErr(t, least, f, api.ErrRange)
	}
	for _, seq := range []int{math.MinInt, -1, maxSeq + 1, math.MaxInt} {
		f := good
		f.Seq = seq
		wantPackErr(t, least, f, api.ErrRange)
	}
}

// F2: Data of one byte more than there is room for, and of many more.
func TestPackFull(t *testing.T) {
	for _, n := range []int{least, 25, 64, 4095, api.MaxBytes} {
		for _, more := range []int{1, 2, 1 << 16} {
			wantPackErr(t, n, api.Frame{Kind: api.Data, Data: some(n-notData+more, 1)}, api.ErrFull)
		}
	}
}

// F2: a number that is wrong is told ahead of Data that is too long.
func TestPackErrorOrder(t *testing.T) {
	long := some(api.MaxBytes, 1)
	for _, f := range []api.Frame{
		{Kind: 0, Data: long},
		{Kind: 4, Data: long},
		{Kind: 1, Lba: -1, Data: long},
		{Kind: 1, Lba: maxLba + 1, Data: long},
		{Kind: 1, Seq: -1, Data: long},
		{Kind: 1, Seq: maxSeq + 1, Data: long},
	} {
		wantPackErr(t, least, f, api.ErrRange)
		wantPackErr(t, api.MaxBytes, f, api.ErrRange)
	}
	for _, n := range []int{-1, 0, 23, api.MaxBytes + 1} {
		wantPackErr(t, n, api.Frame{Kind: 1, Data: some(api.MaxBytes+1, 1)}, api.ErrRange)
	}
	wantPackErr(t, least, api.Frame{Kind: 1, Data: long}, api.ErrFull)
}

// F3: bytes 0xFF alone, of any number but none.
func TestErased(t *testing.T) {
	for _, n := range []int{1, 2, 20, 21, 23, least, 64, api.MaxBytes, api.MaxBytes + 1, 10000} {
		wantState(t, fmt.Sprint(n, " bytes 0xFF"), filled(n, 0xFF), api.Erased)
	}
	wantState(t, "nil", nil, api.Broken)
	wantState(t, "no bytes", []byte{}, api.Broken)
	wantState(t, "no bytes, with some behind", filled(30, 0xFF)[:0], api.Broken)
}

// F3: one bit that is not 1 is enough not to be erased.
func TestNearlyErased(t *testing.T) {
	for _, n := range []int{1, 2, 23, least, 64, api.MaxBytes + 1} {
		for _, at := range []int{0, n / 2, n - 1} {
			for bit := range 8 {
				page := filled(n, 0xFF)
				page[at] ^= 1 << bit
				wantState(t, fmt.Sprint(n, " bytes 0xFF but for ", at), page, api.Broken)
			}
		}
	}
}

// F3: no page of another size is a frame's, even if all else of it is right.
func TestSizesThatAreNone(t *testing.T) {
	for _, n := range []int{notData, 22, 23, api.MaxBytes + 1, api.MaxBytes + 100, 1<<16 + 30} {
		wantState(t, fmt.Sprint("a page of ", n), pageOf(n, api.Frame{Kind: api.Data, Lba: 1, Seq: 2}), api.Broken)
	}
	for n := 1; n < 40; n++ {
		wantState(t, fmt.Sprint(n, " bytes 0"), make([]byte, n), api.Broken)
		wantState(t, fmt.Sprint(n, " some bytes"), some(n, 3), api.Broken)
	}
}

// F3: fields that Pack has not, under a sum that is right.
func TestFieldsThatAreNone(t *testing.T) {
	good := api.Frame{Kind: api.Data, Lba: 7, Seq: 9, Data: []byte{5, 6}}
	broken := func(name string, change func(page []byte)) {
		t.Helper()
		page := pageOf(32, good)
		change(page)
		wantState(t, name, seal(page), api.Broken)
	}
	for kind := range 256 {
		if kind >= api.Data && kind <= api.Note {
			continue
		}
		broken(fmt.Sprint("kind ", kind), func(p []byte) { p[1] = byte(kind) })
	}
	for _, seq := range []uint64{maxSeq + 1, 1<<63 - 1, 1 << 63, 1<<63 + 9, math.MaxUint64} {
		broken(fmt.Sprint("seq ", seq), func(p []byte) { binary.LittleEndian.PutUint64(p[6:], seq) })
	}
	for _, long := range []uint16{12, 13, 32, 255, 256, 4096, 1<<15 + 2, math.MaxUint16} {
		broken(fmt.Sprint("long ", long), func(p []byte) { binary.LittleEndian.PutUint16(p[14:], long) })
	}
	for _, long := range []uint16{0, 1} {
		broken(fmt.Sprint("long ", long, " of 2"), func(p []byte) { binary.LittleEndian.PutUint16(p[14:], long) })
	}
	for value := range 255 {
		broken("first byte", func(p []byte) { p[0] = byte(0xA5 + 1 + value) })
		broken("last byte", func(p []byte) { p[31] = byte(0x5A + 1 + value) })
	}
	for at := 22; at < 31; at++ {
		broken(fmt.Sprint("byte ", at, " behind Data"), func(p []byte) { p[at] = 1 })
		broken(fmt.Sprint("byte ", at, " behind Data"), func(p []byte) { p[at] = 0xFF })
	}
	// Without a change the same steps lead to a page that opens.
	wantValid(t, seal(pageOf(32, good)), good)
	page := pageOf(32, good)
	binary.LittleEndian.PutUint16(page[14:], 11)
	wantValid(t, seal(page), api.Frame{Kind: api.Data, Lba: 7, Seq: 9, Data: append([]byte{5, 6}, make([]byte, 9)...)})
}

// F3: a sum that is not right, among them the one that is taken with itself in its place.
func TestSumsThatAreNone(t *testing.T) {
	page := pageOf(40, api.Frame{Kind: api.Data, Lba: 7, Seq: 9, Data: some(10, 1)})
	sum := binary.LittleEndian.Uint32(page[16:])
	for _, other := range []uint32{0, math.MaxUint32, ^sum, sum + 1, sum - 1, crc32.ChecksumIEEE(page)} {
		turned := slices.Clone(page)
		binary.LittleEndian.PutUint32(turned[16:], other)
		wantState(t, fmt.Sprintf("sum %x for %x", other, sum), turned, api.Broken)
	}
}

// F4: each byte of a page, turned to each other value.
func TestEachByteTurned(t *testing.T) {
	for _, f := range []api.Frame{
		{Kind: api.Data, Lba: 7, Seq: 9, Data: some(20, 2)},
		{Kind: api.Gone, Lba: maxLba, Seq: maxSeq},
		{Kind: api.Note, Data: some(43, 3)},
	} {
		page := mustPack(t, 64, f)
		for at := range page {
			for by := 1; by < 256; by++ {
				turned := slices.Clone(page)
				turned[at] ^= byte(by)
				wantState(t, fmt.Sprint("byte ", at, " turned by ", by), turned, api.Broken)
			}
		}
	}
}

// F4: each bit of the greatest page.
func TestEachBitTurned(t *testing.T) {
	page := mustPack(t, api.MaxBytes, api.Frame{Kind: api.Data, Lba: 7, Seq: 9, Data: some(4000, 2)})
	for at := range page {
		page[at] ^= 1 << (at % 8)
		wantState(t, fmt.Sprint("byte ", at, " turned"), page, api.Broken)
		page[at] ^= 1 << (at % 8)
	}
}

// F4: a page that was written up to anywhere, over bytes that were erased or torn, or that ends there.
func TestBrokenOff(t *testing.T) {
	for _, n := range []int{least, 25, 64, 256} {
		page := mustPack(t, n, api.Frame{Kind: api.Data, Lba: 7, Seq: 9, Data: some(n-notData, 2)})
		wantState(t, "never written", filled(n, 0xFF), api.Erased)
		wantState(t, "torn", make([]byte, n), api.Broken)
		for at := 1; at < n; at++ {
			name := fmt.Sprint("broken off at ", at, " of ", n)
			wantState(t, name, append(slices.Clone(page[:at]), filled(n-at, 0xFF)...), api.Broken)
			wantState(t, name, append(slices.Clone(page[:at]), make([]byte, n-at)...), api.Broken)
			wantState(t, name, page[:at], api.Broken)
			wantState(t, name, append(filled(at, 0xFF), page[at:]...), api.Broken)
		}
		wantState(t, "one byte more", append(slices.Clone(page), 0), api.Broken)
		wantState(t, "one last byte more", append(slices.Clone(page), 0x5A), api.Broken)
	}
}

// P2: what comes out shares no memory with what went in.
func TestFreshMemory(t *testing.T) {
	data := some(10, 1)
	f := api.Frame{Kind: api.Data, Lba: 7, Seq: 9, Data: data}
	page := mustPack(t, 40, f)
	want := slices.Clone(page)
	clear(data)
	if !bytes.Equal(page, want) {
		t.Errorf("a page hangs on the Data that it was packed of")
	}
	first, _ := frame.Open(page)
	second, _ := frame.Open(page)
	clear(page)
	clear(first.Data)
	if !bytes.Equal(second.Data, some(10, 1)) {
		t.Errorf("a frame hangs on its page, or on another frame: %v", second)
	}
}

// P4: what lies behind a list's length is neither read nor written.
func TestBehindLength(t *testing.T) {
	f := api.Frame{Kind: api.Data, Lba: 7, Seq: 9, Data: some(3, 1)}
	data := append(some(3, 1), filled(50, 0xEE)...)
	wantGood(t, 40, api.Frame{Kind: api.Data, Lba: 7, Seq: 9, Data: data[:3]})
	page := append(mustPack(t, 40, f), filled(50, 0xEE)...)
	wantValid(t, page[:40], f)
	opened, _ := frame.Open(page[:40])
	_ = append(opened.Data, 1, 2, 3)
	if !bytes.Equal(page[40:], filled(50, 0xEE)) || !bytes.Equal(data[3:], filled(50, 0xEE)) {
		t.Errorf("something was written behind a list's length")
	}
	wantValid(t, page[:40], f)
}

// stateOf tells a page's state by reading F1 to F3 field by field, and not by packing.
func stateOf(page []byte) int {
	if len(page) > 0 && bytes.Equal(page, filled(len(page), 0xFF)) {
		return api.Erased
	}
	n := len(page)
	if n < least || n > api.MaxBytes || page[0] != 0xA5 || page[n-1] != 0x5A {
		return api.Broken
	}
	if page[1] < 1 || page[1] > 3 || binary.LittleEndian.Uint64(page[6:]) > maxSeq {
		return api.Broken
	}
	long := int(binary.LittleEndian.Uint16(page[14:]))
	if long > n-notData || len(bytes.Trim(page[20+long:n-1], "\x00")) != 0 {
		return api.Broken
	}
	if !bytes.Equal(seal(slices.Clone(page)), page) {
		return api.Broken
	}
	return api.Valid
}

// holdAgainst asks Open for what stateOf tells, and that a valid page packs to itself.
func holdAgainst(t *testing.T, page []byte) {
	t.Helper()
	want := stateOf(page)
	if want != api.Valid {
		wantState(t, fmt.Sprint(page), page, want)
		return
	}
	f, state := frame.Open(page)
	again, err := frame.Pack(len(page), f)
	if state != api.Valid || err != nil || !bytes.Equal(again, page) {
		t.Errorf("Open(%v): %v, %d; packed again: %v, %v", page, f, state, again, err)
	}
}

// F3: pages with some field changed by chance, under a sum that is right.
func TestChangedPages(t *testing.T) {
	r := rand.New(rand.NewSource(3))
	for range 20000 {
		n := least + r.Intn(60)
		f := api.Frame{Kind: 1 + r.Intn(3), Lba: r.Intn(maxLba + 1), Seq: r.Intn(maxSeq + 1), Data: some(r.Intn(n-notData+1), r.Intn(9))}
		page := pageOf(n, f)
		for range r.Intn(3) {
			page[r.Intn(n)] = []byte{0, 1, 2, 3, 0x40, 0x80, 0xFF, byte(r.Intn(256))}[r.Intn(8)]
		}
		if r.Intn(4) != 0 {
			seal(page)
		}
		holdAgainst(t, page)
	}
}

func FuzzOpen(f *testing.F) {
	f.Add([]byte{}, false)
	f.Add(filled(least, 0xFF), false)
	f.Add(pageOf(30, api.Frame{Kind: api.Data, Lba: 7, Seq: 9, Data: []byte{5}}), true)
	f.Fuzz(func(t *testing.T, page []byte, sealed bool) {
		page = slices.Clone(page)
		if sealed && len(page) >= least {
			seal(page)
		}
		holdAgainst(t, page)
	})
}
