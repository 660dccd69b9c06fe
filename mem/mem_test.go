package mem_test

import (
	"bytes"
	"encoding/binary"
	"fmt"
	"math"
	"math/big"
	"math/rand"
	"slices"
	"testing"

	"granary/api"
	"granary/mem"
	"granary/plain"
)

const greatest = 1 << 62

func mustNew(t *testing.T, n int) *mem.Memory {
	t.Helper()
	m, err := mem.New(n)
	if err != nil || m == nil {
		t.Fatalf("New(%d): %v, %v", n, m, err)
	}
	return m
}

func wantErr(t *testing.T, name string, err error, want api.Errno) {
	t.Helper()
	if got := plain.Told(err); got != want {
		t.Errorf("%s: got %v, want %v", name, got, want)
	}
}

// short tells of long bytes no more than their ends.
func short(data []byte) string {
	if len(data) <= 40 {
		return fmt.Sprint(data)
	}
	return fmt.Sprintf("%v..%v (%d bytes)", data[:20], data[len(data)-8:], len(data))
}

func wantRead(t *testing.T, name string, m *mem.Memory, at, n int, data []byte, want api.Errno) {
	t.Helper()
	got, err := m.Read(at, n)
	if !bytes.Equal(got, data) || plain.Told(err) != want {
		t.Errorf("%s: Read(%d, %d): got %s, %v, want %s, %v", name, at, n, short(got), plain.Told(err), short(data), want)
	}
	if err != nil && got != nil {
		t.Errorf("%s: Read(%d, %d): bytes beside an error: %s", name, at, n, short(got))
	}
}

func wantNumber(t *testing.T, name string, m *mem.Memory, at, x int, want api.Errno) {
	t.Helper()
	if got, err := m.Number(at); got != x || plain.Told(err) != want {
		t.Errorf("%s: Number(%d): got %d, %v, want %d, %v", name, at, got, plain.Told(err), x, want)
	}
}

// wantAll asks that a memory has just these bytes.
func wantAll(t *testing.T, name string, m *mem.Memory, data []byte) {
	t.Helper()
	if m.Size() != len(data) {
		t.Errorf("%s: Size: got %d, want %d", name, m.Size(), len(data))
	}
	wantRead(t, name+": all", m, 0, len(data), data, api.OK)
}

// some gives n bytes, none of them 0, other ones for each seed.
func some(n, seed int) []byte {
	r := rand.New(rand.NewSource(int64(seed)))
	data := make([]byte, n)
	for i := range data {
		data[i] = byte(1 + r.Intn(255))
	}
	return data
}

// filled gives a memory of n bytes of which none is 0, and these bytes.
func filled(t *testing.T, n, seed int) (*mem.Memory, []byte) {
	t.Helper()
	m, data := mustNew(t, n), some(n, seed)
	wantErr(t, "Write of all", m.Write(0, data), api.OK)
	return m, data
}

// model is what the chapter says, with each byte by itself, and sums that know no greatest int.
type model []byte

func (m model) has(at, n int) bool {
	end := new(big.Int).Add(big.NewInt(int64(at)), big.NewInt(int64(n)))
	return at >= 0 && n >= 0 && end.Cmp(big.NewInt(int64(len(m)))) <= 0
}

func (m model) read(at, n int) ([]byte, api.Errno) {
	if !m.has(at, n) {
		return nil, api.ErrRange
	}
	var data []byte
	for i := range n {
		data = append(data, m[at+i])
	}
	return data, api.OK
}

func (m model) write(at int, data []byte) api.Errno {
	if !m.has(at, len(data)) {
		return api.ErrRange
	}
	for i, b := range data {
		m[at+i] = b
	}
	return api.OK
}

func (m model) number(at int) (int, api.Errno) {
	if !m.has(at, 8) {
		return 0, api.ErrRange
	}
	x := new(big.Int)
	for i := 7; i >= 0; i-- {
		x.Add(x.Mul(x, big.NewInt(256)), big.NewInt(int64(m[at+i])))
	}
	if x.Cmp(big.NewInt(greatest)) > 0 {
		return 0, api.ErrRange
	}
	return int(x.Int64()), api.OK
}

func (m model) setNumber(at, x int) api.Errno {
	if x < 0 || x > greatest || !m.has(at, 8) {
		return api.ErrRange
	}
	return m.write(at, binary.LittleEndian.AppendUint64(nil, uint64(x)))
}

// op is a call: 'r' of at and n, 'w' of at and data, 'n' of at, or 's' of at and x.
type op struct {
	call  byte
	at, x int
	data  []byte
}

func (o op) String() string { return fmt.Sprintf("%c %d %d %s", o.call, o.at, o.x, short(o.data)) }

// step does a call with both, and asks that they answer the same, and that what is handed in stays.
func step(t *testing.T, name string, m *mem.Memory, like model, o op) {
	t.Helper()
	name += ": " + o.String()
	was := slices.Clone(o.data)
	switch o.call {
	case 'r':
		data, fault := like.read(o.at, o.x)
		wantRead(t, name, m, o.at, o.x, data, fault)
	case 'w':
		wantErr(t, name, m.Write(o.at, o.data), like.write(o.at, o.data))
	case 'n':
		x, fault := like.number(o.at)
		wantNumber(t, name, m, o.at, x, fault)
	case 's':
		wantErr(t, name, m.SetNumber(o.at, o.x), like.setNumber(o.at, o.x))
	}
	if !bytes.Equal(o.data, was) {
		t.Errorf("%s: what was handed in was written", name)
	}
}

// sizes of memories: the least and the greatest, and those at either side of a number's bytes and of a page's.
func sizes() []int {
	return []int{0, 1, 2, 7, 8, 9, 15, 16, 17, 63, 64, 65, 1000, api.MaxMemory - 1, api.MaxMemory}
}

// outside gives numbers that are no place of a memory of n bytes, nor its end.
func outside(n int) []int {
	return []int{-1, -2, -8, -n - 1, math.MinInt32, math.MinInt + 1, math.MinInt,
		n + 1, n + 2, n + 8, 2*n + 1, api.MaxMemory + 1, math.MaxInt32, greatest, math.MaxInt - 8, math.MaxInt - 1, math.MaxInt}
}

// M1

func TestNew(t *testing.T) {
	for _, n := range sizes() {
		m := mustNew(t, n)
		wantAll(t, fmt.Sprintf("New(%d)", n), m, make([]byte, n))
	}
	for _, n := range []int{-1, -2, -api.MaxMemory, math.MinInt32, math.MinInt, api.MaxMemory + 1, api.MaxMemory + 2, 2 * api.MaxMemory, math.MaxInt32, math.MaxInt} {
		m, err := mem.New(n)
		wantErr(t, fmt.Sprintf("New(%d)", n), err, api.ErrRange)
		if m != nil {
			t.Errorf("New(%d): a memory beside an error", n)
		}
	}
	if api.MaxMemory != 16384 {
		t.Errorf("MaxMemory is %d", api.MaxMemory)
	}
}

func TestNumbersAreZeroAtFirst(t *testing.T) {
	m := mustNew(t, 64)
	for at := range 57 {
		wantNumber(t, "at first", m, at, 0, api.OK)
	}
}

func TestSizeStays(t *testing.T) {
	for _, n := range sizes() {
		m, data := filled(t, n, n)
		wantErr(t, "beyond", m.Write(n, []byte{1}), api.ErrRange)
		wantErr(t, "beyond", m.SetNumber(n, 1), api.ErrRange)
		wantAll(t, fmt.Sprint(n), m, data)
	}
}

func TestWriteAndRead(t *testing.T) {
	m := mustNew(t, 16)
	wantErr(t, "two", m.Write(14, []byte{1, 2}), api.OK)
	wantErr(t, "two of which one is beyond", m.Write(15, []byte{3, 4}), api.ErrRange)
	wantErr(t, "one", m.Write(0, []byte{5}), api.OK)
	wantErr(t, "three", m.Write(6, []byte{7, 8, 9}), api.OK)
	wantAll(t, "written", m, []byte{5, 0, 0, 0, 0, 0, 7, 8, 9, 0, 0, 0, 0, 0, 1, 2})
	wantRead(t, "first", m, 0, 1, []byte{5}, api.OK)
	wantRead(t, "middle", m, 5, 4, []byte{0, 7, 8, 9}, api.OK)
	wantRead(t, "last", m, 13, 3, []byte{0, 1, 2}, api.OK)
	wantErr(t, "over it", m.Write(7, []byte{0, 6}), api.OK)
	wantRead(t, "over it", m, 5, 5, []byte{0, 7, 0, 6, 0}, api.OK)
}

func TestEachPieceIsReadAsItStands(t *testing.T) {
	for n := range 20 {
		m, data := filled(t, n, n)
		for at := -3; at <= n+3; at++ {
			for long := -3; long <= n+3; long++ {
				step(t, fmt.Sprint(n), m, model(data), op{call: 'r', at: at, x: long})
			}
		}
		wantAll(t, fmt.Sprintf("%d: read", n), m, data)
	}
}

func TestEachPieceIsWrittenAloneOrNotAtAll(t *testing.T) {
	for n := range 20 {
		for at := -3; at <= n+3; at++ {
			for long := range n + 4 {
				m, data := filled(t, n, n)
				step(t, fmt.Sprint(n), m, model(data), op{call: 'w', at: at, data: some(long, 1000+at)})
				wantAll(t, fmt.Sprintf("%d: %d bytes from %d on", n, long, at), m, data)
			}
		}
	}
}

func TestEdgesOfEachSize(t *testing.T) {
	for _, n := range sizes() {
		m, data := filled(t, n, n)
		name := fmt.Sprint(n)
		wantRead(t, name, m, 0, n, data, api.OK)
		wantRead(t, name, m, 0, n+1, nil, api.ErrRange)
		wantRead(t, name, m, 1, n, nil, api.ErrRange)
		wantRead(t, name, m, -1, n, nil, api.ErrRange)
		wantRead(t, name, m, -1, 1, nil, api.ErrRange)
		wantRead(t, name, m, n, 1, nil, api.ErrRange)
		wantErr(t, name+": all and one more", m.Write(0, some(n+1, 2)), api.ErrRange)
		wantErr(t, name+": at the end", m.Write(n, some(1, 2)), api.ErrRange)
		wantErr(t, name+": ahead of it", m.Write(-1, some(n+1, 2)), api.ErrRange)
		if n > 0 {
			wantErr(t, name+": all from 1 on", m.Write(1, some(n, 2)), api.ErrRange)
			wantRead(t, name, m, n-1, 1, data[n-1:], api.OK)
			wantRead(t, name, m, n-1, 2, nil, api.ErrRange)
			wantErr(t, name+": two at the last", m.Write(n-1, some(2, 2)), api.ErrRange)
		}
		wantAll(t, name+": refused", m, data)
		if n > 0 {
			data[0]++
			wantErr(t, name+": the first", m.Write(0, data[:1]), api.OK)
			data[n-1]++
			wantErr(t, name+": the last", m.Write(n-1, data[n-1:]), api.OK)
			wantAll(t, name+": written", m, data)
		}
	}
}

func TestNoBytesAtAll(t *testing.T) {
	for _, n := range sizes() {
		m, was := filled(t, n, n)
		for _, data := range [][]byte{nil, {}, make([]byte, 0, 9), []byte{1, 2, 3}[:0]} {
			for _, at := range []int{0, n / 2, n} {
				wantErr(t, fmt.Sprintf("%d: none, at %d", n, at), m.Write(at, data), api.OK)
				wantRead(t, fmt.Sprint(n), m, at, 0, nil, api.OK)
			}
			for _, at := range outside(n) {
				wantErr(t, fmt.Sprintf("%d: none, at %d", n, at), m.Write(at, data), api.ErrRange)
				wantRead(t, fmt.Sprint(n), m, at, 0, nil, api.ErrRange)
			}
		}
		wantAll(t, fmt.Sprintf("%d: as ahead", n), m, was)
	}
}

func TestNumbersFarAway(t *testing.T) {
	for _, n := range sizes() {
		m, was := filled(t, n, n)
		places := append([]int{0, 1, n / 2, n}, outside(n)...)
		for _, at := range places {
			for _, long := range append([]int{1, 8, math.MaxInt - at, math.MinInt - at, -at, n - at}, outside(n)...) {
				step(t, fmt.Sprint(n), m, model(was), op{call: 'r', at: at, x: long})
			}
		}
		for _, at := range outside(n) {
			for _, long := range []int{1, 2, 8, n, n + 1} {
				wantErr(t, fmt.Sprintf("%d: %d bytes from %d on", n, long, at), m.Write(at, some(long, 3)), api.ErrRange)
			}
			wantErr(t, fmt.Sprintf("%d: a number at %d", n, at), m.SetNumber(at, 1), api.ErrRange)
			wantNumber(t, fmt.Sprint(n), m, at, 0, api.ErrRange)
		}
		wantAll(t, fmt.Sprintf("%d: as ahead", n), m, was)
	}
}

func TestMemoriesAreApart(t *testing.T) {
	one, two := mustNew(t, 16), mustNew(t, 16)
	wantErr(t, "Write", one.Write(3, []byte{1, 2}), api.OK)
	wantErr(t, "SetNumber", one.SetNumber(8, 5), api.OK)
	wantAll(t, "the other", two, make([]byte, 16))
	wantErr(t, "Write", two.Write(0, bytes.Repeat([]byte{9}, 16)), api.OK)
	wantAll(t, "the first", one, []byte{0, 0, 0, 1, 2, 0, 0, 0, 5, 0, 0, 0, 0, 0, 0, 0})
	wantAll(t, "a third", mustNew(t, 16), make([]byte, 16))
}

// scrawl turns each bit of a list, and of what stands behind it.
func scrawl(data []byte) {
	data = data[:cap(data)]
	for i := range data {
		data[i] ^= 0xFF
	}
}

func TestWhatIsReadIsACopy(t *testing.T) {
	m, was := filled(t, 32, 1)
	for _, piece := range [][2]int{{0, 32}, {0, 8}, {5, 20}, {31, 1}, {0, 0}, {16, 0}, {32, 0}} {
		one, _ := m.Read(piece[0], piece[1])
		two, _ := m.Read(piece[0], piece[1])
		scrawl(one)
		if !bytes.Equal(two, was[piece[0]:piece[0]+piece[1]]) {
			t.Errorf("two answers share memory: %v", two)
		}
		scrawl(two)
		_ = append(two[:0], bytes.Repeat([]byte{1}, 40)...)
		wantAll(t, fmt.Sprint(piece, " written over"), m, was)
	}
	old, _ := m.Read(0, 32)
	wantErr(t, "Write", m.Write(0, some(32, 2)), api.OK)
	wantErr(t, "SetNumber", m.SetNumber(0, 7), api.OK)
	if !bytes.Equal(old, was) {
		t.Errorf("what was read is changed by a later write: %v", old)
	}
}

func TestDataIsCopiedWhenItComesIn(t *testing.T) {
	for _, n := range []int{1, 8, 32} {
		m, data := mustNew(t, n), some(n, 4)
		was := slices.Clone(data)
		wantErr(t, "Write", m.Write(0, data), api.OK)
		scrawl(data)
		wantAll(t, "written over", m, was)
		wantErr(t, "Write", m.Write(0, data[:1]), api.OK)
		if n >= 8 {
			wantErr(t, "SetNumber", m.SetNumber(0, 3), api.OK)
		}
		scrawl(data)
		if !bytes.Equal(data, was) {
			t.Errorf("what was handed in is changed by a later write: %v", data)
		}
	}
}

func TestWhatStandsBehindDataStays(t *testing.T) {
	whole := []byte{1, 2, 3, 4, 5, 6, 7, 8}
	m := mustNew(t, 4)
	wantErr(t, "Write", m.Write(1, whole[2:4]), api.OK)
	wantErr(t, "Write of none", m.Write(4, whole[:0]), api.OK)
	wantErr(t, "Write of too many", m.Write(3, whole[2:4]), api.ErrRange)
	if !bytes.Equal(whole, []byte{1, 2, 3, 4, 5, 6, 7, 8}) {
		t.Errorf("written into: %v", whole)
	}
	wantAll(t, "no more than the list", m, []byte{0, 3, 4, 0})
}

func TestWhatWasReadIsWrittenElsewhere(t *testing.T) {
	m, was := filled(t, 16, 6)
	data, _ := m.Read(0, 12)
	wantErr(t, "Write", m.Write(4, data), api.OK)
	copy(was[4:], slices.Clone(was[:12]))
	wantAll(t, "twelve, four further on", m, was)
}

// M2

// numbers gives those that may be: the least and the greatest, and those at either side of each count of bits.
func numbers() []int {
	out := []int{0, 0x0102030405060708, 0x3FEEDDCCBBAA9988}
	for k := range 63 {
		out = append(out, 1<<k-1, 1<<k)
		if k < 62 {
			out = append(out, 1<<k+1)
		}
	}
	return out
}

func bytesOf(x uint64) []byte {
	return binary.LittleEndian.AppendUint64(nil, x)
}

func TestKnownNumbers(t *testing.T) {
	cases := []struct {
		x    int
		want []byte
	}{
		{0, []byte{0, 0, 0, 0, 0, 0, 0, 0}},
		{1, []byte{1, 0, 0, 0, 0, 0, 0, 0}},
		{258, []byte{2, 1, 0, 0, 0, 0, 0, 0}},
		{0x0102030405060708, []byte{8, 7, 6, 5, 4, 3, 2, 1}},
		{greatest - 1, []byte{255, 255, 255, 255, 255, 255, 255, 63}},
		{greatest, []byte{0, 0, 0, 0, 0, 0, 0, 64}},
	}
	for _, c := range cases {
		m, _ := filled(t, 8, 1)
		wantErr(t, fmt.Sprint(c.x), m.SetNumber(0, c.x), api.OK)
		wantAll(t, fmt.Sprint(c.x), m, c.want)
		wantNumber(t, "set", m, 0, c.x, api.OK)
		other := mustNew(t, 8)
		wantErr(t, fmt.Sprint(c.x), other.Write(0, c.want), api.OK)
		wantNumber(t, "written", other, 0, c.x, api.OK)
	}
}

func TestEachNumberIsEightBytesAlone(t *testing.T) {
	for _, x := range numbers() {
		for at := range 25 {
			m, data := filled(t, 32, at)
			name := fmt.Sprintf("%d at %d", x, at)
			wantErr(t, name, m.SetNumber(at, x), api.OK)
			copy(data[at:], bytesOf(uint64(x)))
			wantAll(t, name, m, data)
			wantNumber(t, name, m, at, x, api.OK)
			wantAll(t, name+": told", m, data)
		}
	}
}

func TestPlacesOfNumbers(t *testing.T) {
	for _, n := range sizes() {
		m := mustNew(t, n)
		like := make(model, n)
		for _, at := range append([]int{0, 1, n - 9, n - 8, n - 7, n - 1, n}, outside(n)...) {
			for _, x := range []int{1, greatest} {
				step(t, fmt.Sprint(n), m, like, op{call: 's', at: at, x: x})
				step(t, fmt.Sprint(n), m, like, op{call: 'n', at: at})
				wantAll(t, fmt.Sprintf("%d: %d at %d", n, x, at), m, like)
			}
		}
	}
	m := mustNew(t, api.MaxMemory)
	wantErr(t, "the last place", m.SetNumber(api.MaxMemory-8, 9), api.OK)
	wantErr(t, "one beyond", m.SetNumber(api.MaxMemory-7, 9), api.ErrRange)
	wantNumber(t, "the last place", m, api.MaxMemory-8, 9, api.OK)
	wantNumber(t, "one beyond", m, api.MaxMemory-7, 0, api.ErrRange)
}

func TestNumbersThatMayNotBe(t *testing.T) {
	for _, x := range []int{-1, -2, -258, math.MinInt32, -greatest, math.MinInt + 1, math.MinInt, greatest + 1, greatest + 2, math.MaxInt - 1, math.MaxInt} {
		m, was := filled(t, 16, 9)
		for at := -1; at <= 17; at++ {
			wantErr(t, fmt.Sprintf("SetNumber(%d, %d)", at, x), m.SetNumber(at, x), api.ErrRange)
		}
		wantAll(t, fmt.Sprint(x), m, was)
	}
}

func TestBytesThatAreNoNumber(t *testing.T) {
	for _, x := range []uint64{greatest + 1, greatest + 256, 1<<62 + 1<<61, math.MaxInt64 - 1, math.MaxInt64, 1 << 63, 1<<63 + 1, 1<<63 + greatest, math.MaxUint64 - 1, math.MaxUint64} {
		for at := range 9 {
			m, data := filled(t, 16, 3)
			copy(data[at:], bytesOf(x))
			wantErr(t, "Write", m.Write(at, bytesOf(x)), api.OK)
			wantNumber(t, fmt.Sprint(x), m, at, 0, api.ErrRange)
			wantAll(t, fmt.Sprint(x), m, data)
			wantErr(t, "over it", m.SetNumber(at, 4), api.OK)
			wantNumber(t, "over it", m, at, 4, api.OK)
		}
	}
}

func TestBytesBesideANumberDoNotCount(t *testing.T) {
	m := mustNew(t, 24)
	wantErr(t, "Write", m.Write(0, bytes.Repeat([]byte{255}, 24)), api.OK)
	wantNumber(t, "255 alone", m, 8, 0, api.ErrRange)
	wantErr(t, "SetNumber", m.SetNumber(8, greatest), api.OK)
	wantNumber(t, "between 255s", m, 8, greatest, api.OK)
	wantNumber(t, "one ahead", m, 7, 255, api.OK)
	wantNumber(t, "one behind", m, 9, 0, api.ErrRange)
}

// both

func anOp(r *rand.Rand, n int) op {
	o := op{call: "rwns"[r.Intn(4)], at: r.Intn(n+4) - 2}
	if r.Intn(20) == 0 {
		far := outside(n)
		o.at = far[r.Intn(len(far))]
	}
	switch o.call {
	case 'r':
		o.x = r.Intn(n+4) - 2
	case 'w':
		o.data = make([]byte, r.Intn(min(n, 40)+3))
		r.Read(o.data)
	case 's':
		o.x = int(r.Uint64()) >> r.Intn(64)
	}
	return o
}

func TestLongRuns(t *testing.T) {
	r := rand.New(rand.NewSource(12))
	for _, n := range []int{0, 1, 7, 8, 9, 16, 30, 64, 300} {
		m, like := mustNew(t, n), make(model, n)
		for range 4000 {
			step(t, fmt.Sprint(n), m, like, anOp(r, n))
			wantAll(t, fmt.Sprint(n), m, like)
		}
	}
}

// FuzzMemory reads calls from bytes: three a call, which say what, where, and how much or what number.
func FuzzMemory(f *testing.F) {
	f.Add(uint16(16), []byte{1, 14, 2, 1, 15, 2, 3, 0, 200, 0, 0, 3, 2, 0, 0})
	f.Add(uint16(0), []byte{0, 0, 0, 1, 0, 0, 2, 0, 0, 3, 0, 0})
	f.Add(uint16(api.MaxMemory), bytes.Repeat([]byte{3, 120, 255, 2, 120, 0, 1, 119, 9, 0, 7, 99}, 3))
	f.Fuzz(func(t *testing.T, size uint16, calls []byte) {
		n := int(size) % (api.MaxMemory + 1)
		m, like := mustNew(t, n), make(model, n)
		for i := 0; i+2 < len(calls); i += 3 {
			what, amount := calls[i], int(int8(calls[i+2]))
			o := op{call: "rwns"[what%4], at: int(int8(calls[i+1])), x: amount}
			if what&4 != 0 {
				o.at += n
			}
			if what&8 != 0 {
				o.at ^= math.MaxInt
			}
			if what&16 != 0 {
				o.x ^= math.MaxInt
			}
			if o.call == 's' {
				o.x <<= 8 * (what >> 5)
			}
			if o.call == 'w' {
				o.data = bytes.Repeat([]byte{what, byte(i), 255}, amount&127)
			}
			step(t, "calls", m, like, o)
		}
		wantAll(t, "calls", m, like)
	})
}
