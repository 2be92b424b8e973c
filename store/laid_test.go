package store

import (
	"slices"
	"strings"
	"testing"

	"patchquilt/api"
	"patchquilt/disk"
)

// forged: a disk whose head is right, of whatever text.
func forged(t *testing.T, side int, text string) *disk.Disk {
	t.Helper()
	d, err := disk.New(api.Sectors)
	if err != nil {
		t.Fatal(err)
	}
	if err := lay(d, side, text); err != nil {
		t.Fatal(err)
	}
	return d
}

// laidOut: texts of rows, each in a sector.
func laidOut(rows ...string) string {
	text := ""
	for _, s := range rows {
		text += s + strings.Repeat("\x00", api.Sector-len(s))
	}
	return text
}

func TestI1Forged(t *testing.T) {
	right := []string{"\x04\x00\x01ax", "\x05\x00\x02bby"}
	for side := range sides {
		s, err := Open(forged(t, side, laidOut(right...)))
		if err != nil || !slices.Equal(s.Rows(), []api.Change{{Key: "a", Val: "x"}, {Key: "bb", Val: "y"}}) || s.Room() != 34 {
			t.Errorf("Open: %v %v", s, err)
		}
	}
	var thirteen []string
	for i := range api.MaxRows + 1 {
		thirteen = append(thirteen, "\x03\x00\x01"+string(rune('a'+i)))
	}
	for why, rows := range map[string][]string{
		"no row":             {"\x01\x00"},
		"an empty one":       {"\x00"},
		"one behind it":      {right[0], ""},
		"one ahead of it":    {"", right[0]},
		"one that is longer": {right[0], "\x16\x00\x02bby"},
		"one without end":    {right[0], "\xff\x00\x02bby"},
		"bytes behind it":    {right[0], "\x04\x00\x02bby"},
		"and far behind it":  {right[0] + strings.Repeat("\x00", 34) + "z", right[1]},
		"no key":             {"\x03\x00\x00a"},
		"one that is gone":   {right[0], "\x03\x01\x01c"},
		"the same key twice": {"\x03\x00\x01a", "\x03\x00\x01a"},
		"they fall":          {"\x03\x00\x01b", "\x03\x00\x01a"},
		"too many":           thirteen,
		"too great a value":  {"\x14\x00\x01a" + strings.Repeat("v", api.MaxVal+1)},
		"such bytes":         slices.Repeat([]string{strings.Repeat("\xff", api.Sector)}, api.MaxRows),
	} {
		for side := range sides {
			if s, err := Open(forged(t, side, laidOut(rows...))); err != api.ErrText || s != nil {
				t.Errorf("%s: %v %v", why, s, err)
			}
		}
	}
}

func TestI1ForgedHead(t *testing.T) {
	right := laidOut("\x04\x00\x01ax")
	for side := range sides {
		good := head(side, right)
		for why, bad := range map[string]string{
			"another mark":   "Patchquilt" + good[len(mark):],
			"the other side": head(other(side), right),
			"no such side":   head(255, right),
			"other rows":     head(side, laidOut("\x04\x00\x01ay")),
			"more rows":      head(side, right+laidOut("")),
			"fewer rows":     good[:countAt] + "\x00" + good[countAt+1:],
			"far too many":   head(side, strings.Repeat(right, api.MaxRows+1)),
			"as many as can": head(side, strings.Repeat(right, 255)),
			"no sum":         good[:countAt+1],
			"cut off":        good[:len(good)-1],
		} {
			d := forged(t, side, right)
			if err := settle(d, side, bad); err != nil {
				t.Fatal(err)
			}
			if s, err := Open(d); err != api.ErrText || s != nil {
				t.Errorf("%s: %v %v", why, s, err)
			}
		}
	}
}

// Of two sides that are whole the stronger one counts, and what isn't whole doesn't: not even where the other one is.
func TestI1BothSides(t *testing.T) {
	texts := [sides]string{laidOut("\x04\x00\x01ax"), laidOut("\x04\x00\x01ay")}
	var d *disk.Disk
	opens := func(val string) {
		t.Helper()
		s, err := Open(d)
		if err != nil || !slices.Equal(s.Rows(), []api.Change{{Key: "a", Val: val}}) || s.Room() != 34 {
			t.Errorf("Open: %v %v, want %q", s, err, val)
		}
	}
	d = forged(t, 0, texts[0])
	opens("x")
	// The other side is whole but for its head, then it is whole.
	_ = d.Write(sideAt(1), texts[1])
	opens("x")
	_ = d.Write(1, head(1, texts[1]))
	opens("y")
	_ = d.Write(sideAt(1), texts[0])
	opens("x")
	_ = d.Write(sideAt(1), texts[1])
	_ = d.Write(0, head(1, texts[1]))
	opens("y")
	_ = d.Write(1, "")
	if s, err := Open(d); err != api.ErrText || s != nil {
		t.Errorf("Open: %v %v", s, err)
	}
}
