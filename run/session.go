package run

import (
	"errors"
	"slices"
	"strings"

	"granary/api"
	"granary/code"
	"granary/disk"
	"granary/frame"
	"granary/pick"
	"granary/record"
	"granary/sweep"
)

const (
	maxTurns     = 100
	entryNumbers = 3 // Kind, A, B
)

// errNoDisk is told where a disk is needed and there is none.
var errNoDisk = errors.New("none")

// session is what is kept from line to line.
type session struct {
	disk *disk.Disk // nil if there is none
}

// row is what a line's first word asks for: so many words more, and what is done with them. They are all read ahead of all else, so that a line that cannot be read does nothing.
type row struct {
	words int
	do    func(*session, *words) (string, error)
}

func rowOf(word string) (row, bool) {
	rows := map[string]row{
		"crc":     {1, (*session).crc},
		"protect": {1, (*session).protect},
		"mend":    {2, (*session).mend},
		"pack":    {5, (*session).pack},
		"batch":   {1, (*session).batch},
		"plan":    {3, (*session).plan},
		"turns":   {3, (*session).turns},
		"disk":    {6, (*session).newDisk},
		"write":   {2, (*session).write},
		"trim":    {1, (*session).trim},
		"read":    {1, (*session).read},
		"keep":    {0, (*session).keep},
	}
	r, ok := rows[word]
	return r, ok
}

// answer tells what comes of a line.
func (s *session) answer(line string) string {
	told, err := s.do(line)
	if err != nil {
		return tellError(err)
	}
	return told
}

// do does a line. Somewhere on the way there may be a panic, at what cannot be read.
func (s *session) do(line string) (told string, err error) {
	defer func() {
		if recover() != nil {
			told, err = "", errBad
		}
	}()
	w := &words{strings.Split(line, betweenWords)}
	r, ok := rowOf(w.next())
	if !ok || len(w.left) != r.words {
		return "", errBad
	}
	return r.do(s, w)
}

func (*session) crc(w *words) (string, error) {
	return tellNumber(code.Crc(w.bytes())), nil
}

func (*session) protect(w *words) (string, error) {
	return tellList(code.Protect(w.bytes()))
}

func (*session) mend(w *words) (string, error) {
	data, check := w.bytes(), w.bytes()
	mended, turned, err := code.Mend(data, check)
	if err != nil {
		return "", err
	}
	return tellNumbers(mended) + betweenWords + tellNumber(turned), nil
}

func (*session) pack(w *words) (string, error) {
	n := w.number()
	f := api.Frame{Kind: w.number(), Lba: w.number(), Seq: w.number(), Data: w.bytes()}
	return tellList(frame.Pack(n, f))
}

func (*session) batch(w *words) (string, error) {
	numbers := w.numbers()
	if len(numbers)%entryNumbers != 0 {
		return "", api.ErrShape
	}
	var batch []api.Entry
	for entry := range slices.Chunk(numbers, entryNumbers) {
		batch = append(batch, api.Entry{Kind: entry[0], A: entry[1], B: entry[2]})
	}
	return tellList(record.Write([][]api.Entry{batch}))
}

func (*session) plan(w *words) (string, error) {
	pages, need := w.number(), w.number()
	var blocks []sweep.Block
	for _, live := range w.numbers() {
		blocks = append(blocks, sweep.Block{Used: true, Live: live})
	}
	return tellList(sweep.Plan(blocks, pages, need))
}

func (*session) turns(w *words) (string, error) {
	weights, waits, most := w.numbers(), w.numbers(), w.number()
	if most > maxTurns {
		return "", api.ErrRange
	}
	p, err := pick.New(weights)
	if err != nil {
		return "", err
	}
	var turns []int
	for range most {
		turn, err := p.Next(waits)
		if err != nil {
			return "", err
		}
		turns = append(turns, turn)
	}
	return tellNumbers(turns), nil
}

func (s *session) newDisk(w *words) (string, error) {
	g := api.Geometry{Dies: w.number(), Blocks: w.number(), Pages: w.number(), Bytes: w.number()}
	lbas, spare := w.number(), w.number()
	d, err := disk.New(g, lbas, spare)
	if err != nil {
		return "", err
	}
	s.disk = d
	return done, nil
}

func (s *session) write(w *words) (string, error) {
	lba, data := w.number(), w.bytes()
	if s.disk == nil {
		return "", errNoDisk
	}
	return tellDone(s.disk.Write(lba, data))
}

func (s *session) trim(w *words) (string, error) {
	lba := w.number()
	if s.disk == nil {
		return "", errNoDisk
	}
	return tellDone(s.disk.Trim(lba))
}

func (s *session) read(w *words) (string, error) {
	lba := w.number()
	if s.disk == nil {
		return "", errNoDisk
	}
	return tellList(s.disk.Read(lba))
}

func (s *session) keep(*words) (string, error) {
	if s.disk == nil {
		return "", errNoDisk
	}
	if err := s.disk.Flush(); err != nil {
		return "", err
	}
	return tellDone(s.disk.Mount())
}
