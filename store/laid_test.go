package store

import (
	"slices"
	"strings"
	"testing"

	"patchquilt/api"
	"patchquilt/disk"
)

// forged: a disk whose head is right, of whatever text.
func forged(t *testing.T, side int, text string) *disk.Disk {
	t.Helper()
	d, err := disk.New(api.Sectors)
	if err != nil {
		t.Fatal(err)
	}
	if err := lay(d, side, text); err != nil {
		t.Fatal(err)
	}
	return d
}

func TestI1Forged(t *testing.T) {
	right := "\x04\x00\x01ax\x05\x00\x02bby"
	for side := range 2 {
		s, err := Open(forged(t, side, right))
		if err != nil || !slices.Equal(s.Rows(), []api.Change{{Key: "a", Val: "x"}, {Key: "bb", Val: "y"}}) || s.Room() != 34 {
			t.Errorf("Open: %v %v", s, err)
		}
	}
	if s, err := Open(forged(t, 2, right)); err != api.ErrText || s != nil {
		t.Errorf("Open of a third side: %v %v", s, err)
	}
	thirteen := ""
	for i := range api.MaxRows + 1 {
		thirteen += "\x03\x00\x01" + string(rune('a'+i))
	}
	for why, text := range map[string]string{
		"no row":               "\x01\x00",
		"an empty one":         "\x00",
		"one that is cut off":  right[:len(right)-1],
		"no length":            right + "\x03",
		"no key":               "\x03\x00\x00a",
		"one that is gone":     right + "\x03\x01\x01c",
		"the same key twice":   "\x03\x00\x01a\x03\x00\x01a",
		"they fall":            "\x03\x00\x01b\x03\x00\x01a",
		"too many":             thirteen,
		"too great a value":    "\x14\x00\x01a" + strings.Repeat("v", api.MaxVal+1),
		"noughts":              strings.Repeat("\x00", 80),
		"a side of such bytes": strings.Repeat("\xff", sideSectors*api.Sector),
	} {
		for side := range 2 {
			if s, err := Open(forged(t, side, text)); err != api.ErrText || s != nil {
				t.Errorf("%s: %v %v", why, s, err)
			}
		}
	}
}

func TestI1ForgedHead(t *testing.T) {
	right := "\x04\x00\x01ax"
	good := head(0, right)
	for why, bad := range map[string]string{
		"another mark":   "Patchquilt" + good[len(mark):],
		"the other side": head(1, right),
		"no side":        head(2, right),
		"no such side":   head(255, right),
		"other rows":     head(0, "\x04\x00\x01ay"),
		"more bytes":     head(0, right+"\x00"),
		"fewer bytes":    head(0, right[1:]),
		"far too many":   head(0, strings.Repeat("\x00", sideSectors*api.Sector+1)),
		"no sum":         good[:sumAt],
		"cut off":        good[:len(good)-1],
	} {
		d := forged(t, 0, right)
		if err := settle(d, headAt, bad); err != nil {
			t.Fatal(err)
		}
		if s, err := Open(d); err != api.ErrText || s != nil {
			t.Errorf("%s: %v %v", why, s, err)
		}
	}
}
