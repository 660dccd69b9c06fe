package buffer_test

import (
	"bytes"
	"fmt"
	"math"
	"math/rand"
	"slices"
	"testing"

	"granary/api"
	"granary/buffer"
	"granary/plain"
)

func mustNew(t *testing.T, most int) *buffer.Buffer {
	t.Helper()
	b, err := buffer.New(most)
	if err != nil || b == nil {
		t.Fatalf("New(%d): %v, %v", most, b, err)
	}
	return b
}

func wantErr(t *testing.T, name string, err error, want api.Errno) {
	t.Helper()
	if got := plain.Told(err); got != want {
		t.Errorf("%s: got %v, want %v", name, got, want)
	}
}

func wantGet(t *testing.T, name string, b *buffer.Buffer, lba int, data []byte, gone bool, want api.Errno) {
	t.Helper()
	gotData, gotGone, err := b.Get(lba)
	if !bytes.Equal(gotData, data) || gotGone != gone || plain.Told(err) != want {
		t.Errorf("%s: Get(%d): got %v, %v, %v, want %v, %v, %v", name, lba, gotData, gotGone, plain.Told(err), data, gone, want)
	}
	if err != nil && gotData != nil {
		t.Errorf("%s: Get(%d): data beside an error: %v", name, lba, gotData)
	}
}

func wantLen(t *testing.T, name string, b *buffer.Buffer, want int) {
	t.Helper()
	if got := b.Len(); got != want {
		t.Errorf("%s: Len: got %d, want %d", name, got, want)
	}
}

func sameItem(a, b buffer.Item) bool {
	return a.Lba == b.Lba && a.Gone == b.Gone && bytes.Equal(a.Data, b.Data)
}

func wantItems(t *testing.T, name string, got, want []buffer.Item) {
	t.Helper()
	if !slices.EqualFunc(got, want, sameItem) {
		t.Errorf("%s: got %v, want %v", name, got, want)
	}
}

// has and gone are items as they are hoped for.
func has(lba int, data ...byte) buffer.Item { return buffer.Item{Lba: lba, Data: data} }
func gone(lba int) buffer.Item              { return buffer.Item{Lba: lba, Gone: true} }

// model is what the chapter says, with a list alone, which is gone through for each thing.
type model struct {
	most  int
	items []buffer.Item
}

func (m *model) find(lba int) int {
	return slices.IndexFunc(m.items, func(i buffer.Item) bool { return i.Lba == lba })
}

func (m *model) keep(item buffer.Item) api.Errno {
	if item.Lba < 0 {
		return api.ErrRange
	}
	var others []buffer.Item
	for _, i := range m.items {
		if i.Lba != item.Lba {
			others = append(others, i)
		}
	}
	if len(others) >= m.most {
		return api.ErrFull
	}
	m.items = append(others, item)
	return api.OK
}

func (m *model) drain(k int) []buffer.Item {
	k = max(0, min(k, len(m.items)))
	drained := slices.Clone(m.items[:k])
	m.items = slices.Clone(m.items[k:])
	return drained
}

// same asks what a buffer tells without a change: how many there are, and each lba from below 0 on, and those of items.
func same(t *testing.T, name string, b *buffer.Buffer, m *model) {
	t.Helper()
	wantLen(t, name, b, len(m.items))
	wantGet(t, name, b, -1, nil, false, api.ErrRange)
	for lba := range api.MaxBuffer + 4 {
		if m.find(lba) < 0 {
			wantGet(t, name, b, lba, nil, false, api.ErrNone)
		}
	}
	for _, i := range m.items {
		wantGet(t, name, b, i.Lba, i.Data, i.Gone, api.OK)
	}
}

// emptied asks the order as well, by a drain of all, behind which nothing is there.
func emptied(t *testing.T, name string, b *buffer.Buffer, m *model) {
	t.Helper()
	same(t, name, b, m)
	wantItems(t, name+": drained", b.Drain(math.MaxInt), m.drain(math.MaxInt))
	same(t, name+": drained", b, m)
}

// op is a call: 'p' of an lba and data, 'd' of an lba, or 't' of how many are drained.
type op struct {
	call   byte
	number int
	data   []byte
}

func (o op) String() string { return fmt.Sprintf("%c %d %v", o.call, o.number, o.data) }

// step does a call with both, and asks that they answer the same.
func step(t *testing.T, name string, b *buffer.Buffer, m *model, o op) []buffer.Item {
	t.Helper()
	name += ": " + o.String()
	switch o.call {
	case 'p':
		wantErr(t, name, b.Put(o.number, o.data), m.keep(has(o.number, o.data...)))
	case 'd':
		wantErr(t, name, b.Drop(o.number), m.keep(gone(o.number)))
	case 't':
		drained := b.Drain(o.number)
		wantItems(t, name, drained, m.drain(o.number))
		return drained
	}
	return nil
}

// after does calls from the beginning on.
func after(t *testing.T, most int, ops ...op) (*buffer.Buffer, *model) {
	t.Helper()
	b, m := mustNew(t, most), &model{most: most}
	for _, o := range ops {
		step(t, fmt.Sprint(ops), b, m, o)
	}
	return b, m
}

// filled gives a buffer with an item of each lba below some number; each third one is gone, and the others have one byte less than their lba.
func filled(t *testing.T, most, there int) (*buffer.Buffer, *model) {
	t.Helper()
	var ops []op
	for lba := range there {
		if lba%3 == 1 {
			ops = append(ops, op{'d', lba, nil})
		} else {
			ops = append(ops, op{'p', lba, bytes.Repeat([]byte{byte(lba)}, max(0, lba-1))})
		}
	}
	return after(t, most, ops...)
}

func full(t *testing.T, most int) (*buffer.Buffer, *model) {
	t.Helper()
	return filled(t, most, most)
}

// rooms are the numbers of items that a buffer may have room for.
func rooms() []int {
	var out []int
	for most := 1; most <= api.MaxBuffer; most++ {
		out = append(out, most)
	}
	return out
}

// U1

func TestNew(t *testing.T) {
	for _, most := range rooms() {
		b := mustNew(t, most)
		emptied(t, fmt.Sprintf("New(%d)", most), b, &model{most: most})
	}
	for _, most := range []int{0, -1, -2, -api.MaxBuffer, math.MinInt, api.MaxBuffer + 1, api.MaxBuffer + 2, 1000, math.MaxInt32, math.MaxInt} {
		b, err := buffer.New(most)
		wantErr(t, fmt.Sprintf("New(%d)", most), err, api.ErrRange)
		if b != nil {
			t.Errorf("New(%d): a buffer beside an error", most)
		}
	}
	if api.MaxBuffer != 16 {
		t.Errorf("MaxBuffer is %d", api.MaxBuffer)
	}
}

func TestRoomForMost(t *testing.T) {
	for _, most := range rooms() {
		b, m := mustNew(t, most), &model{most: most}
		for lba := range most {
			wantErr(t, fmt.Sprintf("%d of %d", lba, most), b.Put(lba, []byte{byte(lba)}), api.OK)
			m.keep(has(lba, byte(lba)))
			same(t, fmt.Sprintf("%d of %d", lba, most), b, m)
		}
		wantErr(t, "one more", b.Put(most, []byte{1}), api.ErrFull)
		wantErr(t, "one more", b.Drop(most), api.ErrFull)
		emptied(t, fmt.Sprintf("all of %d", most), b, m)
	}
}

func TestThoseThatAreGoneTakeRoomToo(t *testing.T) {
	for _, most := range rooms() {
		b, m := mustNew(t, most), &model{most: most}
		for lba := range most {
			step(t, "gone", b, m, op{'d', lba, nil})
		}
		wantLen(t, "gone", b, most)
		wantErr(t, "one more", b.Drop(most), api.ErrFull)
		wantErr(t, "one more", b.Put(most, nil), api.ErrFull)
		emptied(t, fmt.Sprintf("all of %d gone", most), b, m)
	}
}

func TestAnyLbaFromZeroOn(t *testing.T) {
	lbas := []int{0, 1, api.MaxLbas - 1, api.MaxLbas, api.MaxLbas + 1, math.MaxInt32, math.MaxUint32, 1 << 62, math.MaxInt - 1, math.MaxInt}
	b, m := mustNew(t, len(lbas)), &model{most: len(lbas)}
	for i, lba := range lbas {
		if i%2 == 0 {
			wantErr(t, "Put", b.Put(lba, []byte{byte(i)}), api.OK)
			m.keep(has(lba, byte(i)))
		} else {
			wantErr(t, "Drop", b.Drop(lba), api.OK)
			m.keep(gone(lba))
		}
	}
	emptied(t, "far apart", b, m)
}

func TestOrderIsThatOfComingNotOfNumbers(t *testing.T) {
	b, _ := after(t, 5, op{'p', 9, []byte{1}}, op{'d', 3, nil}, op{'p', 0, []byte{2}}, op{'d', 12, nil}, op{'p', 4, []byte{3}})
	wantItems(t, "as they came", b.Drain(5), []buffer.Item{has(9, 1), gone(3), has(0, 2), gone(12), has(4, 3)})
}

// U2

func TestPut(t *testing.T) {
	b := mustNew(t, 3)
	wantErr(t, "Put", b.Put(5, []byte{1, 2}), api.OK)
	wantGet(t, "one", b, 5, []byte{1, 2}, false, api.OK)
	wantGet(t, "none", b, 4, nil, false, api.ErrNone)
	wantErr(t, "Put", b.Put(4, []byte{3}), api.OK)
	wantGet(t, "two", b, 5, []byte{1, 2}, false, api.OK)
	wantGet(t, "two", b, 4, []byte{3}, false, api.OK)
	wantLen(t, "two", b, 2)
	wantItems(t, "two", b.Drain(2), []buffer.Item{has(5, 1, 2), has(4, 3)})
}

func TestDrop(t *testing.T) {
	b := mustNew(t, 3)
	wantErr(t, "one that is not there", b.Drop(5), api.OK)
	wantGet(t, "gone", b, 5, nil, true, api.OK)
	wantLen(t, "gone", b, 1)
	wantErr(t, "Put", b.Put(6, []byte{1}), api.OK)
	wantErr(t, "one that is there", b.Drop(6), api.OK)
	wantGet(t, "gone", b, 6, nil, true, api.OK)
	wantErr(t, "one that is gone", b.Drop(5), api.OK)
	wantLen(t, "gone", b, 2)
	wantItems(t, "gone", b.Drain(3), []buffer.Item{gone(6), gone(5)})
}

func TestPutOfWhatIsGone(t *testing.T) {
	b := mustNew(t, 1)
	wantErr(t, "Drop", b.Drop(0), api.OK)
	wantErr(t, "Put", b.Put(0, []byte{7}), api.OK)
	wantGet(t, "there again", b, 0, []byte{7}, false, api.OK)
	wantLen(t, "there again", b, 1)
	wantItems(t, "there again", b.Drain(1), []buffer.Item{has(0, 7)})
}

func TestTheNewOneStandsLast(t *testing.T) {
	for _, most := range []int{1, 2, 3, 4, api.MaxBuffer} {
		for there := range most {
			for lba := range there + 1 {
				for _, call := range []byte{'p', 'd'} {
					b, m := mustNew(t, most), &model{most: most}
					var others []buffer.Item
					for i := range there + 1 {
						step(t, "first", b, m, op{'p', i, []byte{byte(i)}})
						if i != lba {
							others = append(others, has(i, byte(i)))
						}
					}
					name := fmt.Sprintf("%d of %d: %c %d", there+1, most, call, lba)
					last := gone(lba)
					if call == 'p' {
						last = has(lba, 99, 98)
					}
					step(t, name, b, m, op{call, lba, last.Data})
					same(t, name, b, m)
					wantItems(t, name, b.Drain(most), append(others, last))
					wantLen(t, name, b, 0)
				}
			}
		}
	}
}

func TestFullBuffer(t *testing.T) {
	for _, most := range rooms() {
		for lba := range most {
			for _, call := range []byte{'p', 'd'} {
				b, m := full(t, most)
				name := fmt.Sprintf("%d, %c %d", most, call, lba)
				for _, other := range []int{most, most + 1, 1000, math.MaxInt} {
					wantErr(t, name+": not there", b.Put(other, []byte{1}), api.ErrFull)
					wantErr(t, name+": not there", b.Put(other, nil), api.ErrFull)
					wantErr(t, name+": not there", b.Drop(other), api.ErrFull)
				}
				same(t, name+": refused", b, m)
				step(t, name, b, m, op{call, lba, []byte{1, 2, 3}})
				same(t, name+": there", b, m)
				wantErr(t, name+": full as ahead", b.Drop(most), api.ErrFull)
				emptied(t, name, b, m)
			}
		}
	}
}

func TestRefusedStandsInNoOrder(t *testing.T) {
	b, m := full(t, 4)
	wantErr(t, "full", b.Put(9, []byte{1}), api.ErrFull)
	wantErr(t, "full", b.Drop(9), api.ErrFull)
	wantErr(t, "below", b.Put(-1, []byte{1}), api.ErrRange)
	wantErr(t, "below", b.Drop(-1), api.ErrRange)
	emptied(t, "as ahead", b, m)
	wantErr(t, "there is room now", b.Put(9, []byte{2}), api.OK)
	wantItems(t, "it alone", b.Drain(9), []buffer.Item{has(9, 2)})
}

func TestRoomComesBack(t *testing.T) {
	for _, most := range rooms() {
		for k := 1; k <= most; k++ {
			b, m := full(t, most)
			name := fmt.Sprintf("%d of %d drained", k, most)
			step(t, name, b, m, op{'t', k, nil})
			for i := range k {
				wantErr(t, name+": room", b.Put(100+i, []byte{byte(i)}), api.OK)
				m.keep(has(100+i, byte(i)))
			}
			wantErr(t, name+": no more", b.Put(200, nil), api.ErrFull)
			emptied(t, name, b, m)
		}
	}
}

func TestLbaBelowZero(t *testing.T) {
	for _, lba := range []int{-1, -2, -api.MaxBuffer, math.MinInt32, math.MinInt} {
		name := fmt.Sprint(lba)
		empty := mustNew(t, 2)
		some, ofSome := after(t, 3, op{'p', 1, []byte{1}}, op{'d', 0, nil})
		all, ofAll := full(t, 3)
		for _, b := range []*buffer.Buffer{empty, some, all} {
			wantErr(t, name+": Put", b.Put(lba, []byte{1}), api.ErrRange)
			wantErr(t, name+": Put", b.Put(lba, nil), api.ErrRange)
			wantErr(t, name+": Drop", b.Drop(lba), api.ErrRange)
			wantGet(t, name, b, lba, nil, false, api.ErrRange)
		}
		emptied(t, name, empty, &model{most: 2})
		emptied(t, name, some, ofSome)
		emptied(t, name, all, ofAll)
	}
}

func TestRangeComesAheadOfFullAndOfNone(t *testing.T) {
	b, m := full(t, 2)
	wantErr(t, "below 0, and no room", b.Put(-1, []byte{1}), api.ErrRange)
	wantErr(t, "below 0, and no room", b.Drop(-1), api.ErrRange)
	wantErr(t, "no room", b.Put(2, []byte{1}), api.ErrFull)
	wantErr(t, "no room", b.Drop(2), api.ErrFull)
	wantGet(t, "below 0, and none there", b, -1, nil, false, api.ErrRange)
	wantGet(t, "none there", b, 2, nil, false, api.ErrNone)
	emptied(t, "refused", b, m)
}

func TestLbaZeroIsAnLba(t *testing.T) {
	b := mustNew(t, 1)
	wantGet(t, "not there", b, 0, nil, false, api.ErrNone)
	wantErr(t, "Put", b.Put(0, []byte{0}), api.OK)
	wantGet(t, "there", b, 0, []byte{0}, false, api.OK)
	wantErr(t, "Drop", b.Drop(0), api.OK)
	wantGet(t, "gone", b, 0, nil, true, api.OK)
	wantItems(t, "gone", b.Drain(1), []buffer.Item{gone(0)})
	wantGet(t, "not there any more", b, 0, nil, false, api.ErrNone)
}

func TestDataOfNoBytes(t *testing.T) {
	for _, data := range [][]byte{nil, {}, make([]byte, 0, 9)} {
		b := mustNew(t, 2)
		wantErr(t, "Put", b.Put(3, data), api.OK)
		wantGet(t, "there, not gone", b, 3, nil, false, api.OK)
		wantErr(t, "Drop", b.Drop(4), api.OK)
		wantErr(t, "it takes room", b.Put(5, data), api.ErrFull)
		wantItems(t, "both", b.Drain(2), []buffer.Item{has(3), gone(4)})
	}
}

func TestDataGoesForNoneAndBack(t *testing.T) {
	b := mustNew(t, 1)
	for _, data := range [][]byte{{1, 2, 3}, nil, {4}, {}, {5, 6, 7, 8}, {9}} {
		wantErr(t, "Put", b.Put(1, data), api.OK)
		wantGet(t, "the new one alone", b, 1, data, false, api.OK)
	}
}

func TestDataOfAnyLength(t *testing.T) {
	for _, long := range []int{1, 255, api.MaxBytes, api.MaxBytes + 1, 1 << 20} {
		b := mustNew(t, 1)
		data := make([]byte, long)
		for i := range data {
			data[i] = byte(i * 7)
		}
		wantErr(t, "Put", b.Put(1, data), api.OK)
		got, _, err := b.Get(1)
		if err != nil || !bytes.Equal(got, data) {
			t.Errorf("%d bytes: Get tells others, %v", long, err)
		}
		if drained := b.Drain(1); len(drained) != 1 || !bytes.Equal(drained[0].Data, data) {
			t.Errorf("%d bytes: Drain tells others", long)
		}
	}
}

func TestGetChangesNothing(t *testing.T) {
	b, m := full(t, 5)
	for range 3 {
		for lba := -1; lba < 8; lba++ {
			b.Get(lba)
		}
	}
	emptied(t, "asked", b, m)
}

func TestDrain(t *testing.T) {
	for _, most := range rooms() {
		for there := range most + 1 {
			for _, k := range []int{math.MinInt, -1, 0, 1, 2, there - 1, there, there + 1, most, most + 1, 1 << 40, math.MaxInt} {
				b, m := filled(t, most, there)
				name := fmt.Sprintf("%d of %d there: Drain(%d)", there, most, k)
				step(t, name, b, m, op{'t', k, nil})
				same(t, name, b, m)
				emptied(t, name, b, m)
			}
		}
	}
}

func TestDrainOfNoneIsNone(t *testing.T) {
	b, m := full(t, 3)
	for _, k := range []int{0, -1, -3, math.MinInt} {
		if got := b.Drain(k); got != nil {
			t.Errorf("Drain(%d): got %v", k, got)
		}
	}
	emptied(t, "as ahead", b, m)
	for _, k := range []int{0, -1, 1, 3, math.MaxInt} {
		if got := b.Drain(k); got != nil {
			t.Errorf("of none: Drain(%d): got %v", k, got)
		}
	}
}

func TestWhatIsDrainedIsNotThere(t *testing.T) {
	b, m := full(t, 4)
	step(t, "two", b, m, op{'t', 2, nil})
	wantGet(t, "drained", b, 0, nil, false, api.ErrNone)
	wantGet(t, "drained", b, 1, nil, false, api.ErrNone)
	wantGet(t, "not drained", b, 2, []byte{2}, false, api.OK)
	step(t, "again", b, m, op{'p', 0, []byte{8}})
	wantItems(t, "the rest", b.Drain(9), []buffer.Item{has(2, 2), has(3, 3, 3), has(0, 8)})
}

func TestBuffersAreEachTheirOwn(t *testing.T) {
	a, first := after(t, 2, op{'p', 0, []byte{1}})
	b, second := after(t, 2, op{'d', 0, nil}, op{'p', 1, []byte{2}})
	step(t, "one", a, first, op{'p', 1, []byte{3}})
	step(t, "other", b, second, op{'t', 1, nil})
	same(t, "one", a, first)
	emptied(t, "other", b, second)
	emptied(t, "one", a, first)
}

// scrawl turns each bit of a list, and of what stands behind it.
func scrawl(data []byte) {
	data = data[:cap(data)]
	for i := range data {
		data[i] ^= 0xFF
	}
}

func TestDataIsCopiedWhenItComesIn(t *testing.T) {
	b := mustNew(t, 3)
	data := []byte{1, 2, 3}
	wantErr(t, "Put", b.Put(7, data), api.OK)
	scrawl(data)
	wantGet(t, "written over", b, 7, []byte{1, 2, 3}, false, api.OK)
	wantErr(t, "the same list again", b.Put(8, data), api.OK)
	scrawl(data)
	wantItems(t, "written over", b.Drain(2), []buffer.Item{has(7, 1, 2, 3), has(8, 254, 253, 252)})
}

func TestDataIsCopiedWhenItGoesOut(t *testing.T) {
	b := mustNew(t, 3)
	wantErr(t, "Put", b.Put(7, []byte{1, 2, 3}), api.OK)
	one, _, _ := b.Get(7)
	two, _, _ := b.Get(7)
	scrawl(one)
	if !bytes.Equal(two, []byte{1, 2, 3}) {
		t.Errorf("two answers share memory: %v", two)
	}
	scrawl(two)
	wantGet(t, "written over", b, 7, []byte{1, 2, 3}, false, api.OK)
	three, _, _ := b.Get(7)
	drained := b.Drain(1)
	scrawl(three)
	wantItems(t, "drained", drained, []buffer.Item{has(7, 1, 2, 3)})
}

func TestWhatIsDrainedIsTheCallers(t *testing.T) {
	b := mustNew(t, 4)
	data := []byte{5, 6}
	for lba := range 4 {
		wantErr(t, "Put", b.Put(lba, data), api.OK)
	}
	got, _, _ := b.Get(0)
	drained := b.Drain(2)
	scrawl(drained[0].Data)
	drained[0] = gone(3)
	_ = append(drained, gone(2))
	wantItems(t, "of the two, the other", drained[1:2], []buffer.Item{has(1, 5, 6)})
	if !bytes.Equal(got, []byte{5, 6}) || !bytes.Equal(data, []byte{5, 6}) {
		t.Errorf("written over: %v, %v", got, data)
	}
	wantItems(t, "those that stayed", b.Drain(4), []buffer.Item{has(2, 5, 6), has(3, 5, 6)})
}

func TestWhatStandsBehindDataStays(t *testing.T) {
	whole := []byte{1, 2, 3, 4, 5, 6, 7, 8}
	b := mustNew(t, 2)
	wantErr(t, "Put", b.Put(0, whole[2:4]), api.OK)
	wantErr(t, "Put", b.Put(1, whole[:0]), api.OK)
	got, _, _ := b.Get(0)
	_ = append(got, 99)
	drained := b.Drain(2)
	_ = append(drained[0].Data, 98)
	_ = append(drained[1].Data, 97)
	if !bytes.Equal(whole, []byte{1, 2, 3, 4, 5, 6, 7, 8}) {
		t.Errorf("written into: %v", whole)
	}
	wantItems(t, "no more than the list", drained, []buffer.Item{has(0, 3, 4), has(1)})
}

func TestRefusedDataIsNotWritten(t *testing.T) {
	b, m := full(t, 1)
	data := []byte{1, 2, 3}
	wantErr(t, "full", b.Put(1, data), api.ErrFull)
	wantErr(t, "below", b.Put(-1, data), api.ErrRange)
	if !bytes.Equal(data, []byte{1, 2, 3}) {
		t.Errorf("written into: %v", data)
	}
	emptied(t, "refused", b, m)
}

// U3

// device has what was put or dropped, one behind the other: of each lba what came last.
type device map[int]buffer.Item

func (d device) take(items ...buffer.Item) {
	for _, i := range items {
		d[i.Lba] = i
	}
}

// ledger holds a run of calls against what the chapter says follows from it, without any model of a buffer.
type ledger struct {
	put    device         // straight from the calls
	kept   device         // from what is drained
	stamps map[string]int // how often each item was put and not yet drained
}

func newLedger() *ledger {
	return &ledger{device{}, device{}, map[string]int{}}
}

func (l *ledger) came(item buffer.Item) {
	l.put.take(item)
	l.stamps[fmt.Sprint(item)]++
}

func (l *ledger) went(t *testing.T, name string, items []buffer.Item) {
	t.Helper()
	seen := device{}
	for _, i := range items {
		if _, twice := seen[i.Lba]; twice {
			t.Errorf("%s: two items of lba %d: %v", name, i.Lba, items)
		}
		seen.take(i)
		if l.stamps[fmt.Sprint(i)]--; l.stamps[fmt.Sprint(i)] < 0 {
			t.Errorf("%s: drained oftener than put: %v", name, i)
		}
	}
	l.kept.take(items...)
}

// agree asks that what is kept, with what the buffer says of it, is what was put.
func (l *ledger) agree(t *testing.T, name string, b *buffer.Buffer) {
	t.Helper()
	there := 0
	for lba, want := range l.put {
		got := l.kept[lba]
		if data, isGone, err := b.Get(lba); err == nil {
			got = buffer.Item{Lba: lba, Gone: isGone, Data: data}
			there++
		}
		if !sameItem(got, want) {
			t.Errorf("%s: lba %d: kept is %v, put was %v", name, lba, got, want)
		}
	}
	wantLen(t, name+": those of which something was put", b, there)
}

// enter does a call, as step does, and writes down what came of it.
func (l *ledger) enter(t *testing.T, name string, b *buffer.Buffer, m *model, o op) {
	t.Helper()
	ahead := slices.Clone(m.items)
	drained := step(t, name, b, m, o)
	if o.call == 't' {
		l.went(t, name, drained)
		return
	}
	if o.number >= 0 && (len(ahead) < m.most || slices.ContainsFunc(ahead, func(i buffer.Item) bool { return i.Lba == o.number })) {
		item := gone(o.number)
		if o.call == 'p' {
			item = has(o.number, o.data...)
		}
		l.came(item)
	}
}

// finish drains the rest, bit by bit, and asks that all is kept now as it was put.
func (l *ledger) finish(t *testing.T, name string, b *buffer.Buffer, m *model, k int) {
	t.Helper()
	for range api.MaxBuffer {
		l.went(t, name, step(t, name, b, m, op{'t', k, nil}))
		l.agree(t, name, b)
	}
	wantLen(t, name, b, 0)
	for lba, want := range l.put {
		if got := l.kept[lba]; !sameItem(got, want) {
			t.Errorf("%s: lba %d: kept is %v, put was %v", name, lba, got, want)
		}
	}
	if len(l.kept) != len(l.put) {
		t.Errorf("%s: %d lbas kept, %d put", name, len(l.kept), len(l.put))
	}
}

// eachRun does all runs of some length, each put with data of its own.
func eachRun(t *testing.T, most, length int, run []op) {
	t.Helper()
	if len(run) == length {
		b, m, l := mustNew(t, most), &model{most: most}, newLedger()
		name := fmt.Sprint(most, run)
		for _, o := range run {
			l.enter(t, name, b, m, o)
		}
		same(t, name, b, m)
		l.agree(t, name, b)
		l.finish(t, name, b, m, 1+len(run)%2)
		return
	}
	stamp := byte(len(run) + 1)
	for number := -1; number <= 2; number++ {
		for _, o := range []op{{'p', number, []byte{stamp}}, {'d', number, nil}} {
			eachRun(t, most, length, append(run[:len(run):len(run)], o))
		}
	}
	for k := range 3 {
		eachRun(t, most, length, append(run[:len(run):len(run)], op{'t', k, nil}))
	}
}

func TestEachShortRun(t *testing.T) {
	for most := 1; most <= 3; most++ {
		for length := range 5 {
			eachRun(t, most, length, nil)
		}
	}
}

func TestLongRuns(t *testing.T) {
	r := rand.New(rand.NewSource(8))
	for _, most := range rooms() {
		for _, lbas := range []int{1, most, most + 2, 3 * most} {
			b, m, l := mustNew(t, most), &model{most: most}, newLedger()
			name := fmt.Sprintf("%d, of %d lbas", most, lbas)
			for i := range 1200 {
				o := op{'p', r.Intn(lbas+1) - 1, []byte{byte(i), byte(i >> 8), byte(most)}[:1+r.Intn(3)]}
				switch r.Intn(6) {
				case 0:
					o = op{'d', o.number, nil}
				case 1:
					o = op{'t', r.Intn(most+4) - 2, nil}
				}
				l.enter(t, name, b, m, o)
				if i%7 == 0 {
					same(t, name, b, m)
					l.agree(t, name, b)
				}
			}
			l.finish(t, name, b, m, 3)
			emptied(t, name, b, m)
		}
	}
}

// FuzzBuffer reads calls from bytes: two a call, of which the first says what, and how much data.
func FuzzBuffer(f *testing.F) {
	f.Add(byte(0), []byte{0, 0, 1, 0, 2, 1})
	f.Add(byte(3), []byte{0, 1, 4, 2, 0, 3, 1, 1, 0, 4, 0, 5, 2, 2, 0, 1, 1, 9, 2, 9})
	f.Add(byte(15), bytes.Repeat([]byte{0, 1, 4, 2, 8, 250, 1, 7, 0, 12, 2, 1}, 9))
	f.Fuzz(func(t *testing.T, most byte, calls []byte) {
		b, m, l := mustNew(t, 1+int(most)%api.MaxBuffer), &model{most: 1 + int(most)%api.MaxBuffer}, newLedger()
		for i := 0; i+1 < len(calls); i += 2 {
			what, number := int(calls[i]), int(int8(calls[i+1]))
			o := op{"pdt"[what%3], number, nil}
			if o.call == 'p' {
				o.data = bytes.Repeat([]byte{byte(i)}, what/3)
			}
			l.enter(t, "calls", b, m, o)
			same(t, "calls", b, m)
		}
		l.agree(t, "calls", b)
		l.finish(t, "calls", b, m, 2)
	})
}
