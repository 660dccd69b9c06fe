package cmd_test

import (
	"bytes"
	"encoding/binary"
	"fmt"
	"math"
	"math/rand"
	"slices"
	"testing"

	"granary/api"
	"granary/cmd"
	"granary/plain"
)

const greatest = 1 << 62

// part is a number of a command or a completion, as the chapter says where it stands and how great it may be.
type part[T any] struct {
	name           string
	at, long, most int
	of             func(*T) *int
}

func commandParts() []part[api.Command] {
	return []part[api.Command]{
		{"Op", 0, 1, 255, func(c *api.Command) *int { return &c.Op }},
		{"Id", 2, 2, 65535, func(c *api.Command) *int { return &c.Id }},
		{"Lba", 8, 8, greatest, func(c *api.Command) *int { return &c.Lba }},
		{"Count", 16, 4, 4294967295, func(c *api.Command) *int { return &c.Count }},
		{"First", 24, 8, greatest, func(c *api.Command) *int { return &c.First }},
		{"Second", 32, 8, greatest, func(c *api.Command) *int { return &c.Second }},
	}
}

// wideParts gives those of which some bytes are too great.
func wideParts() []part[api.Command] {
	return slices.DeleteFunc(commandParts(), func(p part[api.Command]) bool { return p.long < 8 })
}

func doneParts() []part[api.Completion] {
	return []part[api.Completion]{
		{"Id", 0, 2, 65535, func(d *api.Completion) *int { return &d.Id }},
		{"Queue", 2, 2, 65535, func(d *api.Completion) *int { return &d.Queue }},
		{"Head", 4, 2, 65535, func(d *api.Completion) *int { return &d.Head }},
		{"Status", 6, 1, 255, func(d *api.Completion) *int { return &d.Status }},
	}
}

// face is the two calls of commands, or of completions, with what the chapter says of them.
type face[T comparable] struct {
	name   string
	size   int
	write  func(T) ([]byte, error)
	read   func([]byte) (T, error)
	parts  []part[T]
	varied T // one with other bytes everywhere
	like   func(T) ([]byte, api.Errno)
	seen   func([]byte) (T, api.Errno)
}

func commands() face[api.Command] {
	return face[api.Command]{
		name: "command", size: 64, write: cmd.Encode, read: cmd.Decode, parts: commandParts(),
		varied: api.Command{Op: 0xA1, Id: 0xB2B1, Lba: 0x18C7C6C5C4C3C2C1, Count: 0xD4D3D2D1, First: 0x28E7E6E5E4E3E2E1, Second: 0x38F7F6F5F4F3F2F1},
		like:   likeEncode, seen: likeDecode,
	}
}

func dones() face[api.Completion] {
	return face[api.Completion]{
		name: "completion", size: 16, write: cmd.EncodeDone, read: cmd.DecodeDone, parts: doneParts(),
		varied: api.Completion{Id: 0xA2A1, Queue: 0xB2B1, Head: 0xC2C1, Status: 0xD1, Phase: true},
		like:   likeEncodeDone, seen: likeDecodeDone,
	}
}

// likeEncode is what the chapter says of Encode, each number by itself.
func likeEncode(c api.Command) ([]byte, api.Errno) {
	if c.Op < 0 || c.Op > 255 || c.Id < 0 || c.Id > 65535 || c.Count < 0 || c.Count > 4294967295 {
		return nil, api.ErrRange
	}
	for _, x := range []int{c.Lba, c.First, c.Second} {
		if x < 0 || x > greatest {
			return nil, api.ErrRange
		}
	}
	b := []byte{byte(c.Op), 0}
	b = binary.LittleEndian.AppendUint16(b, uint16(c.Id))
	b = append(b, 0, 0, 0, 0)
	b = binary.LittleEndian.AppendUint64(b, uint64(c.Lba))
	b = binary.LittleEndian.AppendUint32(b, uint32(c.Count))
	b = append(b, 0, 0, 0, 0)
	b = binary.LittleEndian.AppendUint64(b, uint64(c.First))
	b = binary.LittleEndian.AppendUint64(b, uint64(c.Second))
	return append(b, make([]byte, 24)...), api.OK
}

func likeDecode(b []byte) (api.Command, api.Errno) {
	if len(b) != 64 {
		return api.Command{}, api.ErrShape
	}
	lba, first, second := binary.LittleEndian.Uint64(b[8:16]), binary.LittleEndian.Uint64(b[24:32]), binary.LittleEndian.Uint64(b[32:40])
	if lba > greatest || first > greatest || second > greatest {
		return api.Command{}, api.ErrRange
	}
	id, count := binary.LittleEndian.Uint16(b[2:4]), binary.LittleEndian.Uint32(b[16:20])
	return api.Command{Op: int(b[0]), Id: int(id), Lba: int(lba), Count: int(count), First: int(first), Second: int(second)}, api.OK
}

func likeEncodeDone(d api.Completion) ([]byte, api.Errno) {
	for _, x := range []int{d.Id, d.Queue, d.Head} {
		if x < 0 || x > 65535 {
			return nil, api.ErrRange
		}
	}
	if d.Status < 0 || d.Status > 255 {
		return nil, api.ErrRange
	}
	b := make([]byte, 16)
	binary.LittleEndian.PutUint16(b[0:], uint16(d.Id))
	binary.LittleEndian.PutUint16(b[2:], uint16(d.Queue))
	binary.LittleEndian.PutUint16(b[4:], uint16(d.Head))
	b[6] = byte(d.Status)
	if d.Phase {
		b[7] = 1
	}
	return b, api.OK
}

func likeDecodeDone(b []byte) (api.Completion, api.Errno) {
	if len(b) != 16 {
		return api.Completion{}, api.ErrShape
	}
	id, queue, head := binary.LittleEndian.Uint16(b[0:]), binary.LittleEndian.Uint16(b[2:]), binary.LittleEndian.Uint16(b[4:])
	return api.Completion{Id: int(id), Queue: int(queue), Head: int(head), Status: int(b[6]), Phase: b[7]&1 == 1}, api.OK
}

// wantWrite asks what is written of x.
func (f face[T]) wantWrite(t *testing.T, name string, x T, want []byte, fault api.Errno) {
	t.Helper()
	got, err := f.write(x)
	if !bytes.Equal(got, want) || plain.Told(err) != fault {
		t.Errorf("%s: write of %+v: got %v, %v, want %v, %v", name, x, got, plain.Told(err), want, fault)
	}
	if err != nil && got != nil {
		t.Errorf("%s: write of %+v: bytes beside an error: %v", name, x, got)
	}
}

// wantRead asks what is read from b, that b stays as it is, and so does what stands behind it.
func (f face[T]) wantRead(t *testing.T, name string, b []byte, want T, fault api.Errno) {
	t.Helper()
	whole := b[:cap(b)]
	was := slices.Clone(whole)
	got, err := f.read(b)
	if got != want || plain.Told(err) != fault {
		t.Errorf("%s: read of %v: got %+v, %v, want %+v, %v", name, b, got, plain.Told(err), want, fault)
	}
	if !bytes.Equal(whole, was) {
		t.Errorf("%s: read of %v: it was written into, was %v", name, whole, was)
	}
}

// wantRefused asks that b is not read.
func (f face[T]) wantRefused(t *testing.T, name string, b []byte, fault api.Errno) {
	t.Helper()
	var none T
	f.wantRead(t, name, b, none, fault)
}

// wantBoth asks that x is written as these bytes, and read from them.
func (f face[T]) wantBoth(t *testing.T, name string, x T, b []byte) {
	t.Helper()
	f.wantWrite(t, name, x, b, api.OK)
	f.wantRead(t, name, b, x, api.OK)
}

// with gives x with another number as that part.
func (p part[T]) with(x T, number int) T {
	*p.of(&x) = number
	return x
}

// alone gives the bytes of one of which all but that part is 0.
func (f face[T]) alone(p part[T], number uint64) []byte {
	b := make([]byte, f.size)
	p.lay(b, number)
	return b
}

// lay lets a number stand as that part, its lowest byte first.
func (p part[T]) lay(b []byte, number uint64) {
	for i := range p.long {
		b[p.at+i] = byte(number)
		number /= 256
	}
}

// mustWrite gives the bytes of x.
func (f face[T]) mustWrite(t *testing.T, x T) []byte {
	t.Helper()
	b, err := f.write(x)
	if err != nil || len(b) != f.size {
		t.Fatalf("write of %+v: %v, %v", x, b, err)
	}
	return b
}

// scrawl turns each bit of a list, and of what stands behind it.
func scrawl(b []byte) {
	b = b[:cap(b)]
	for i := range b {
		b[i] ^= 0xFF
	}
}

// both runs a test of commands and of completions.
func both(t *testing.T, command func(*testing.T, face[api.Command]), done func(*testing.T, face[api.Completion])) {
	t.Run("command", func(t *testing.T) { command(t, commands()) })
	t.Run("completion", func(t *testing.T) { done(t, dones()) })
}

// C1

func TestKnownCommands(t *testing.T) {
	f := commands()
	f.wantBoth(t, "all 0", api.Command{}, make([]byte, 64))
	want := make([]byte, 64)
	want[0], want[2], want[3], want[8], want[16], want[24], want[32] = 2, 2, 1, 3, 4, 64, 128
	f.wantBoth(t, "a write", api.Command{Op: api.Write, Id: 258, Lba: 3, Count: 4, First: 64, Second: 128}, want)
	f.wantBoth(t, "other bytes everywhere", f.varied, []byte{
		0xA1, 0, 0xB1, 0xB2, 0, 0, 0, 0,
		0xC1, 0xC2, 0xC3, 0xC4, 0xC5, 0xC6, 0xC7, 0x18,
		0xD1, 0xD2, 0xD3, 0xD4, 0, 0, 0, 0,
		0xE1, 0xE2, 0xE3, 0xE4, 0xE5, 0xE6, 0xE7, 0x28,
		0xF1, 0xF2, 0xF3, 0xF4, 0xF5, 0xF6, 0xF7, 0x38,
		0, 0, 0, 0, 0, 0, 0, 0,
		0, 0, 0, 0, 0, 0, 0, 0,
		0, 0, 0, 0, 0, 0, 0, 0,
	})
	f.wantBoth(t, "the greatest", api.Command{Op: 255, Id: 65535, Lba: greatest, Count: 4294967295, First: greatest, Second: greatest}, []byte{
		255, 0, 255, 255, 0, 0, 0, 0,
		0, 0, 0, 0, 0, 0, 0, 64,
		255, 255, 255, 255, 0, 0, 0, 0,
		0, 0, 0, 0, 0, 0, 0, 64,
		0, 0, 0, 0, 0, 0, 0, 64,
		0, 0, 0, 0, 0, 0, 0, 0,
		0, 0, 0, 0, 0, 0, 0, 0,
		0, 0, 0, 0, 0, 0, 0, 0,
	})
}

func TestEachNamedOp(t *testing.T) {
	f := commands()
	for op, want := range map[int]byte{api.Flush: 1, api.Write: 2, api.Read: 3, api.Trim: 4} {
		b := make([]byte, 64)
		b[0] = want
		f.wantBoth(t, "op", api.Command{Op: op}, b)
	}
}

// noNumbers gives, of eight bytes, those that are above 2^62.
func noNumbers() []uint64 {
	out := []uint64{math.MaxInt64 - 1, math.MaxInt64, 1 << 63, 1<<63 + 1, 1<<63 + greatest, math.MaxUint64 - 1, math.MaxUint64}
	for k := range 62 {
		out = append(out, greatest+1<<k)
	}
	for top := uint64(65); top < 256; top++ {
		out = append(out, top<<56)
	}
	return out
}

func TestBytesOfACommandThatAreTooGreat(t *testing.T) {
	f := commands()
	for _, p := range wideParts() {
		for _, x := range noNumbers() {
			f.wantRefused(t, p.name, f.alone(p, x), api.ErrRange)
			b := f.mustWrite(t, f.varied)
			p.lay(b, x)
			f.wantRefused(t, p.name, b, api.ErrRange)
		}
		for _, x := range []uint64{greatest - 1, greatest} {
			f.wantBoth(t, p.name, p.with(api.Command{}, int(x)), f.alone(p, x))
		}
		for i := range 7 {
			b := f.alone(p, greatest)
			b[p.at+i] = 1
			f.wantRefused(t, fmt.Sprintf("%s: byte %d of it", p.name, i), b, api.ErrRange)
		}
	}
	f.wantRefused(t, "all 255", bytes.Repeat([]byte{255}, 64), api.ErrRange)
}

func TestNarrowBytesOfACommandAreNeverTooGreat(t *testing.T) {
	f := commands()
	b := bytes.Repeat([]byte{255}, 64)
	for _, p := range wideParts() {
		p.lay(b, greatest)
	}
	f.wantRead(t, "255 elsewhere", b, api.Command{Op: 255, Id: 65535, Lba: greatest, Count: 4294967295, First: greatest, Second: greatest}, api.OK)
}

func TestEachOpAndId(t *testing.T) {
	f := commands()
	for x := range 256 {
		b := make([]byte, 64)
		b[0] = byte(x)
		f.wantBoth(t, "Op", api.Command{Op: x}, b)
	}
	for x := range 65536 {
		b := make([]byte, 64)
		b[2], b[3] = byte(x%256), byte(x/256)
		f.wantBoth(t, "Id", api.Command{Id: x}, b)
	}
}

// C2

func TestKnownCompletions(t *testing.T) {
	f := dones()
	f.wantBoth(t, "all 0", api.Completion{}, make([]byte, 16))
	f.wantBoth(t, "a phase", api.Completion{Phase: true}, []byte{0, 0, 0, 0, 0, 0, 0, 1, 0, 0, 0, 0, 0, 0, 0, 0})
	f.wantBoth(t, "small", api.Completion{Id: 1, Queue: 2, Head: 3, Status: 4, Phase: true}, []byte{1, 0, 2, 0, 3, 0, 4, 1, 0, 0, 0, 0, 0, 0, 0, 0})
	f.wantBoth(t, "other bytes everywhere", f.varied, []byte{0xA1, 0xA2, 0xB1, 0xB2, 0xC1, 0xC2, 0xD1, 1, 0, 0, 0, 0, 0, 0, 0, 0})
	f.wantBoth(t, "the greatest", api.Completion{Id: 65535, Queue: 65535, Head: 65535, Status: 255}, []byte{255, 255, 255, 255, 255, 255, 255, 0, 0, 0, 0, 0, 0, 0, 0, 0})
}

func TestEachNamedStatus(t *testing.T) {
	f := dones()
	for status, want := range map[int]byte{api.Done: 0, api.BadOp: 1, api.BadField: 2, api.BadLba: 3, api.Protected: 4, api.NoPower: 5} {
		b := make([]byte, 16)
		b[6] = want
		f.wantBoth(t, "status", api.Completion{Status: status}, b)
	}
}

func TestPhaseIsTheLowestBit(t *testing.T) {
	f := dones()
	for x := range 256 {
		b := f.mustWrite(t, f.varied)
		b[7] = byte(x)
		want := f.varied
		want.Phase = x%2 == 1
		f.wantRead(t, fmt.Sprintf("byte 7 is %d", x), b, want, api.OK)
	}
	for _, known := range []struct {
		x     byte
		phase bool
	}{{0, false}, {1, true}, {2, false}, {3, true}, {254, false}, {255, true}} {
		f.wantRead(t, "alone", []byte{0, 0, 0, 0, 0, 0, 0, known.x, 0, 0, 0, 0, 0, 0, 0, 0}, api.Completion{Phase: known.phase}, api.OK)
	}
}

func TestPhaseChangesNoOtherByte(t *testing.T) {
	f := dones()
	for _, d := range []api.Completion{{}, {Id: 65535, Queue: 65535, Head: 65535, Status: 255}, f.varied} {
		d.Phase = false
		low := f.mustWrite(t, d)
		d.Phase = true
		high := f.mustWrite(t, d)
		if low[7] != 0 || high[7] != 1 {
			t.Errorf("%+v: byte 7 is %d without the phase, %d with it", d, low[7], high[7])
		}
		high[7] = 0
		if !bytes.Equal(low, high) {
			t.Errorf("%+v: the phase changes other bytes: %v, %v", d, low, high)
		}
	}
}

func TestPhaseDoesNotHideAFault(t *testing.T) {
	f := dones()
	for _, phase := range []bool{false, true} {
		for _, p := range f.parts {
			for _, x := range []int{-1, p.most + 1} {
				f.wantWrite(t, p.name, p.with(api.Completion{Phase: phase}, x), nil, api.ErrRange)
			}
		}
	}
}

func TestCompletionOfBytes255IsRead(t *testing.T) {
	dones().wantRead(t, "all 255", bytes.Repeat([]byte{255}, 16), api.Completion{Id: 65535, Queue: 65535, Head: 65535, Status: 255, Phase: true}, api.OK)
}

func TestEachIdQueueHeadAndStatus(t *testing.T) {
	f := dones()
	for x := range 65536 {
		for _, p := range f.parts {
			if x <= p.most {
				f.wantBoth(t, p.name, p.with(api.Completion{}, x), f.alone(p, uint64(x)))
			}
		}
	}
}

// both

// good gives numbers that may be, of a part.
func (p part[T]) good() []int {
	out := []int{0, p.most}
	for k := 0; k < 62 && 1<<k <= p.most; k++ {
		out = append(out, 1<<k, 1<<k-1, p.most-1<<k+1)
	}
	for i := range p.long - 1 {
		out = append(out, 255<<(8*i))
	}
	return out
}

// wrong gives numbers that may not be. Some have, in the bytes that are written, one that may be.
func (p part[T]) wrong() []int {
	return []int{-1, -2, -255, -256, -65536, math.MinInt32, -4294967296, -greatest, math.MinInt + 1, math.MinInt,
		p.most + 1, p.most + 2, p.most + 256, greatest + 1, greatest + 65536, greatest + 1<<61, math.MaxInt - 1, math.MaxInt}
}

func wantEdges[T comparable](t *testing.T, f face[T]) {
	var none T
	for _, p := range f.parts {
		for _, x := range p.good() {
			name := fmt.Sprintf("%s of %d", p.name, x)
			f.wantBoth(t, name, p.with(none, x), f.alone(p, uint64(x)))
			b := f.mustWrite(t, f.varied)
			p.lay(b, uint64(x))
			f.wantBoth(t, name+", among others", p.with(f.varied, x), b)
		}
		for _, x := range p.wrong() {
			name := fmt.Sprintf("%s of %d", p.name, x)
			f.wantWrite(t, name, p.with(none, x), nil, api.ErrRange)
			f.wantWrite(t, name+", among others", p.with(f.varied, x), nil, api.ErrRange)
		}
	}
}

func TestEdgesOfEachNumber(t *testing.T) { both(t, wantEdges, wantEdges) }

// TestTheNamedEdges has the edges once more, as numbers, so that they hang on no table.
func TestTheNamedEdges(t *testing.T) {
	c, d := commands(), dones()
	for _, x := range []int{-1, 256} {
		c.wantWrite(t, "Op", api.Command{Op: x}, nil, api.ErrRange)
		d.wantWrite(t, "Status", api.Completion{Status: x}, nil, api.ErrRange)
	}
	for _, x := range []int{-1, 65536} {
		c.wantWrite(t, "Id", api.Command{Id: x}, nil, api.ErrRange)
		d.wantWrite(t, "Id", api.Completion{Id: x}, nil, api.ErrRange)
		d.wantWrite(t, "Queue", api.Completion{Queue: x}, nil, api.ErrRange)
		d.wantWrite(t, "Head", api.Completion{Head: x}, nil, api.ErrRange)
	}
	for _, x := range []int{-1, 4294967296} {
		c.wantWrite(t, "Count", api.Command{Count: x}, nil, api.ErrRange)
	}
	for _, x := range []int{-1, 4611686018427387905} {
		c.wantWrite(t, "Lba", api.Command{Lba: x}, nil, api.ErrRange)
		c.wantWrite(t, "First", api.Command{First: x}, nil, api.ErrRange)
		c.wantWrite(t, "Second", api.Command{Second: x}, nil, api.ErrRange)
	}
}

func wantSeveralFaults[T comparable](t *testing.T, f face[T]) {
	for _, p := range f.parts {
		for _, q := range f.parts {
			x := q.with(p.with(f.varied, -1), q.most+1)
			f.wantWrite(t, p.name+" and "+q.name, x, nil, api.ErrRange)
		}
	}
	var all T
	for _, p := range f.parts {
		all = p.with(all, math.MinInt)
	}
	f.wantWrite(t, "all", all, nil, api.ErrRange)
}

func TestSeveralFaultsAreOne(t *testing.T) { both(t, wantSeveralFaults, wantSeveralFaults) }

func wantSizes[T comparable](t *testing.T, f face[T]) {
	for n := range 4*f.size + 1 {
		if n == f.size {
			continue
		}
		name := fmt.Sprintf("%d bytes", n)
		f.wantRefused(t, name+" of 0", make([]byte, n), api.ErrShape)
		// Numbers that are too great are there as well: how many bytes there are is told ahead of them.
		f.wantRefused(t, name+" of 255", bytes.Repeat([]byte{255}, n), api.ErrShape)
	}
	for _, n := range []int{4096, 65536, 1 << 20} {
		f.wantRefused(t, fmt.Sprintf("%d bytes", n), make([]byte, n), api.ErrShape)
	}
	f.wantRefused(t, "nil", nil, api.ErrShape)
	f.wantRefused(t, "none", []byte{}, api.ErrShape)
	// What lies behind a list's length is none of its bytes.
	b := append(f.mustWrite(t, f.varied), 1, 2, 3)
	f.wantRead(t, "with more behind it", b[:f.size], f.varied, api.OK)
	f.wantRead(t, "with none behind it", b[:f.size:f.size], f.varied, api.OK)
	f.wantRefused(t, "one fewer, with more behind it", b[:f.size-1], api.ErrShape)
	f.wantRefused(t, "none, with more behind it", b[:0], api.ErrShape)
	f.wantRefused(t, "one more", b[:f.size+1], api.ErrShape)
}

func TestHowManyBytes(t *testing.T) { both(t, wantSizes, wantSizes) }

func TestOneAnothersBytes(t *testing.T) {
	commands().wantRefused(t, "16 bytes as a command", make([]byte, 16), api.ErrShape)
	dones().wantRefused(t, "64 bytes as a completion", make([]byte, 64), api.ErrShape)
}

// besides gives the places of bytes that belong to no part; of a completion, byte 7 is the phase's.
func (f face[T]) besides() []int {
	var out []int
	for i := range f.size {
		of := slices.ContainsFunc(f.parts, func(p part[T]) bool { return i >= p.at && i < p.at+p.long })
		if !of && !(f.size == 16 && i == 7) {
			out = append(out, i)
		}
	}
	return out
}

func TestWhichBytesAreBesides(t *testing.T) {
	want := "[1 4 5 6 7 20 21 22 23 40 41 42 43 44 45 46 47 48 49 50 51 52 53 54 55 56 57 58 59 60 61 62 63] [8 9 10 11 12 13 14 15]"
	if got := fmt.Sprint(commands().besides(), dones().besides()); got != want {
		t.Errorf("got %s, want %s", got, want)
	}
}

func wantOtherBytesIdle[T comparable](t *testing.T, f face[T]) {
	var none T
	for _, x := range []T{none, f.varied} {
		all := f.mustWrite(t, x)
		for _, i := range f.besides() {
			if all[i] != 0 {
				t.Errorf("%+v: byte %d is written as %d", x, i, all[i])
			}
			for _, v := range []byte{1, 2, 64, 65, 128, 255} {
				b := f.mustWrite(t, x)
				b[i] = v
				f.wantRead(t, fmt.Sprintf("byte %d is %d", i, v), b, x, api.OK)
			}
			all[i] = 255
			f.wantRead(t, fmt.Sprintf("up to byte %d all are 255", i), all, x, api.OK)
		}
		got, err := f.read(all)
		if err != nil {
			t.Fatal(err)
		}
		f.wantWrite(t, "written again", got, f.mustWrite(t, x), api.OK)
	}
}

func TestOtherBytesDoNotCount(t *testing.T) { both(t, wantOtherBytesIdle, wantOtherBytesIdle) }

// wantEachBitTold asks that of all bits of a written one just those of its parts, and of its phase, are told.
func wantEachBitTold[T comparable](t *testing.T, f face[T]) {
	for bit := range 8 * f.size {
		b := f.mustWrite(t, f.varied)
		b[bit/8] ^= 1 << (bit % 8)
		want, fault := f.seen(b)
		f.wantRead(t, fmt.Sprintf("bit %d of byte %d", bit%8, bit/8), b, want, fault)
	}
}

func TestEachBit(t *testing.T) { both(t, wantEachBitTold, wantEachBitTold) }

func wantFresh[T comparable](t *testing.T, f face[T]) {
	one, two := f.mustWrite(t, f.varied), f.mustWrite(t, f.varied)
	was := slices.Clone(two)
	scrawl(one)
	if !bytes.Equal(two, was) {
		t.Errorf("two answers share memory: %v", two)
	}
	scrawl(two)
	f.wantWrite(t, "behind a scrawl", f.varied, was, api.OK)
	var none T
	f.wantWrite(t, "behind a greater one", none, make([]byte, f.size), api.OK)
}

func TestWhatIsWrittenIsTheCallers(t *testing.T) { both(t, wantFresh, wantFresh) }

func wantNotKept[T comparable](t *testing.T, f face[T]) {
	b := append(f.mustWrite(t, f.varied), 7, 8, 9)[:f.size]
	got, err := f.read(b)
	scrawl(b)
	if err != nil || got != f.varied {
		t.Errorf("what was read is changed by a scrawl: %+v, %v", got, err)
	}
	var none T
	f.wantRead(t, "behind another", make([]byte, f.size), none, api.OK)
	f.wantRefused(t, "behind another", b[:3], api.ErrShape)
	scrawl(b)
	f.wantRead(t, "behind a fault", b, f.varied, api.OK)
}

func TestWhatIsReadIsNotKept(t *testing.T) { both(t, wantNotKept, wantNotKept) }

// pick gives some number for a part: mostly one that may be, of any length; now and then any at all.
func (p part[T]) pick(r *rand.Rand) int {
	if r.Intn(20) == 0 {
		return int(r.Uint64()) >> r.Intn(64)
	}
	return r.Intn(p.most+1) >> r.Intn(8*p.long)
}

func wantLikeTheChapter[T comparable](t *testing.T, f face[T]) {
	r := rand.New(rand.NewSource(14))
	for range 40000 {
		x := f.varied
		if r.Intn(2) == 0 {
			var none T
			x = none
		}
		for _, p := range f.parts {
			x = p.with(x, p.pick(r))
		}
		b, fault := f.like(x)
		f.wantWrite(t, "some", x, b, fault)
		if fault == api.OK {
			f.wantRead(t, "some", b, x, api.OK)
		}
		b = make([]byte, f.size)
		r.Read(b)
		for _, p := range f.parts {
			if p.long == 8 && r.Intn(8) > 0 {
				b[p.at+7] %= 64
			}
		}
		want, fault := f.seen(b)
		f.wantRead(t, "bytes", b, want, fault)
	}
}

func TestLongRuns(t *testing.T) { both(t, wantLikeTheChapter, wantLikeTheChapter) }

// wantAgain asks that what was read from b is written as the chapter says, and read once more.
func wantAgain[T comparable](t *testing.T, f face[T], b []byte) {
	want, fault := f.seen(b)
	f.wantRead(t, f.name, b, want, fault)
	if fault != api.OK {
		return
	}
	again, fault := f.like(want)
	f.wantWrite(t, f.name, want, again, fault)
	f.wantRead(t, f.name, again, want, api.OK)
}

// FuzzBytes reads bytes as a command and as a completion.
func FuzzBytes(f *testing.F) {
	for _, n := range []int{0, 15, 16, 17, 63, 64, 65} {
		f.Add(make([]byte, n))
		f.Add(bytes.Repeat([]byte{63}, n))
		f.Add(bytes.Repeat([]byte{255}, n))
	}
	f.Fuzz(func(t *testing.T, b []byte) {
		wantAgain(t, commands(), b)
		wantAgain(t, dones(), b)
	})
}

// FuzzNumbers writes numbers as a command and as a completion.
func FuzzNumbers(f *testing.F) {
	f.Add(0, 0, 0, 0, 0, 0, false)
	f.Add(255, 65535, greatest, 4294967295, greatest, greatest, true)
	f.Add(256, 65536, greatest+1, 4294967296, greatest+1, greatest+1, true)
	f.Add(-1, -1, -1, -1, -1, -1, false)
	f.Add(1, 2, 3, 4, 5, 6, true)
	f.Fuzz(func(t *testing.T, op, id, lba, count, first, second int, phase bool) {
		c := api.Command{Op: op, Id: id, Lba: lba, Count: count, First: first, Second: second}
		b, fault := likeEncode(c)
		commands().wantWrite(t, "command", c, b, fault)
		d := api.Completion{Id: id, Queue: count, Head: first, Status: op, Phase: phase}
		b, fault = likeEncodeDone(d)
		dones().wantWrite(t, "completion", d, b, fault)
	})
}
