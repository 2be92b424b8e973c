package store

import (
	"iter"
	"slices"
	"strings"

	"patchquilt/api"
	"patchquilt/disk"
	"patchquilt/number"
	"patchquilt/row"
)

// A head: a mark, which side it is of, how many rows are there, and a sum of them.
const (
	mark     = "patchquilt"
	countAt  = len(mark) + 1
	sumBytes = 8
)

// head that says that a side has this text.
func head(side int, text string) string {
	return mark + string([]byte{byte(side), byte(len(text) / api.Sector)}) + number.Bytes(sum(text), sumBytes)
}

// sum of bytes: other bytes have another one, but for great ill luck (FNV-1a).
func sum(s string) uint64 {
	n := uint64(14695981039346656037)
	for i := range len(s) {
		n = (n ^ uint64(s[i])) * 1099511628211
	}
	return n
}

func sideAt(side int) int { return sidesAt + side*api.MaxRows }

// lay a text on a side, as a whole: a side's head is one sector, and so is the end of the other one's.
func lay(d *disk.Disk, side int, text string) error {
	at := sideAt(side)
	for piece := range slices.Chunk([]byte(text), api.Sector) {
		if err := d.Write(at, string(piece)); err != nil {
			return err
		}
		at++
	}
	// Ahead of the head, so that nothing hangs on the sum's luck but what others write.
	if err := d.Flush(); err != nil {
		return err
	}
	if err := settle(d, side, head(side, text)); err != nil {
		return err
	}
	return settle(d, other(side), "")
}

// laid: which side has the rows, and these.
func laid(d *disk.Disk) (int, []api.Change, error) {
	if d.Down() {
		return 0, nil, api.ErrDown
	}
	if d.Sectors() < fewest {
		return 0, nil, api.ErrText
	}
	for _, side := range []int{stronger, other(stronger)} {
		if rows, err := whole(d, side); err == nil {
			return side, rows, nil
		}
	}
	return 0, nil, api.ErrText
}

// whole: the rows of a side, if it has just what its head says.
func whole(d *disk.Disk, side int) ([]api.Change, error) {
	s, err := d.Read(side)
	if err != nil {
		return nil, err
	}
	count := int(s[countAt])
	if count > api.MaxRows {
		return nil, api.ErrText
	}
	text, err := read(d, sideAt(side), count)
	if err != nil {
		return nil, err
	}
	if !strings.HasPrefix(s, head(side, text)) {
		return nil, api.ErrText
	}
	return parse(text)
}

// read so many sectors, from one on.
func read(d *disk.Disk, at, many int) (string, error) {
	var b strings.Builder
	for i := range many {
		s, err := d.Read(at + i)
		if err != nil {
			return "", err
		}
		b.WriteString(s)
	}
	return b.String(), nil
}

// textOf rows: of each a sector: how many bytes it has, in one, and these.
func textOf(rows []api.Change) string {
	var b strings.Builder
	for _, c := range rows {
		// Rows that are there passed their check when they were committed, or were read.
		s, _ := row.Bytes(c)
		b.WriteByte(byte(len(s)))
		b.WriteString(s)
		b.WriteString(strings.Repeat("\x00", api.Sector-1-len(s)))
	}
	return b.String()
}

// cut a text of sectors into the bytes of its rows.
func cut(text string) iter.Seq[string] {
	return func(yield func(string) bool) {
		for ; text != ""; text = text[api.Sector:] {
			behind := min(1+int(text[0]), api.Sector)
			if !yield(text[1:behind]) {
				return
			}
		}
	}
}

// parse a text of sectors: its rows rise, and none is gone.
func parse(text string) ([]api.Change, error) {
	var rows []api.Change
	for s := range cut(text) {
		c, err := row.Parse(s)
		if err != nil {
			return nil, api.ErrText
		}
		rows = append(rows, c)
	}
	// Applied to nothing, rows that rise, none of them gone, are left as they are.
	if !slices.Equal(row.Apply(nil, rows), rows) || textOf(rows) != text {
		return nil, api.ErrText
	}
	return rows, nil
}
