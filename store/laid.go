package store

import (
	"iter"
	"slices"
	"strings"

	"patchquilt/api"
	"patchquilt/disk"
	"patchquilt/number"
	"patchquilt/row"
)

// The head: a mark, which side it is, how many bytes of it, and a sum of all of these.
const (
	mark        = "patchquilt"
	sideAt      = len(mark)
	lengthAt    = sideAt + 1
	lengthBytes = 2
	sumAt       = lengthAt + lengthBytes
	sumBytes    = 8
)

// head that says that a side has this text.
func head(side int, text string) string {
	s := mark + number.Bytes(uint64(side), 1) + number.Bytes(uint64(len(text)), lengthBytes)
	return s + number.Bytes(sum(s+text), sumBytes)
}

// sum of bytes: other bytes have another one, but for great ill luck (FNV-1a).
func sum(s string) uint64 {
	n := uint64(14695981039346656037)
	for i := range len(s) {
		n = (n ^ uint64(s[i])) * 1099511628211
	}
	return n
}

// lay a text on a side, as a whole: it is there with the head's one sector.
func lay(d *disk.Disk, side int, text string) error {
	at := sidesAt + side*sideSectors
	for piece := range slices.Chunk([]byte(text), api.Sector) {
		if err := d.Write(at, string(piece)); err != nil {
			return err
		}
		at++
	}
	if err := d.Flush(); err != nil {
		return err
	}
	return settle(d, headAt, head(side, text))
}

// laid: which side the head names, and its text.
func laid(d *disk.Disk) (int, string, error) {
	s, err := d.Read(headAt)
	if err != nil {
		return 0, "", err
	}
	side, size := int(s[sideAt]), int(number.Of(s[lengthAt:sumAt]))
	if d.Sectors() < fewest || side > 1 || size > sideSectors*api.Sector {
		return 0, "", api.ErrText
	}
	text, err := read(d, sidesAt+side*sideSectors, size)
	if err != nil {
		return 0, "", err
	}
	if !strings.HasPrefix(s, head(side, text)) {
		return 0, "", api.ErrText
	}
	return side, text, nil
}

// read so many bytes, from a sector on.
func read(d *disk.Disk, at, size int) (string, error) {
	var b strings.Builder
	for b.Len() < size {
		s, err := d.Read(at)
		if err != nil {
			return "", err
		}
		b.WriteString(s[:min(len(s), size-b.Len())])
		at++
	}
	return b.String(), nil
}

// textOf rows: of each how many bytes it has, in one, and these.
func textOf(rows []api.Change) string {
	var b strings.Builder
	for _, c := range rows {
		// Rows that are there passed their check when they were committed, or were read.
		s, _ := row.Bytes(c)
		b.WriteByte(byte(len(s)))
		b.WriteString(s)
	}
	return b.String()
}

// cut a text into the bytes of its rows.
func cut(text string) iter.Seq[string] {
	return func(yield func(string) bool) {
		for text != "" {
			behind := min(1+int(text[0]), len(text))
			if !yield(text[1:behind]) {
				return
			}
			text = text[behind:]
		}
	}
}

// parse a text of rows: they rise, and none is gone.
func parse(s string) ([]api.Change, error) {
	var rows []api.Change
	for piece := range cut(s) {
		c, err := row.Parse(piece)
		if err != nil {
			return nil, api.ErrText
		}
		rows = append(rows, c)
	}
	// Applied to nothing, rows that rise, none of them gone, are left as they are.
	if len(rows) > api.MaxRows || !slices.Equal(row.Apply(nil, rows), rows) || textOf(rows) != s {
		return nil, api.ErrText
	}
	return rows, nil
}
