package file_test

import (
	"math"
	"strings"
	"testing"

	"patchquilt/api"
	"patchquilt/file"
)

// TestA1Bytes: each byte, alone and in each place of a longer name.
func TestA1Bytes(t *testing.T) {
	for c := range 256 {
		var want error = api.ErrShape
		if strings.IndexByte("abcdefghijklmnopqrstuvwxyz0123456789", byte(c)) >= 0 {
			want = nil
		}
		for n := 1; n <= api.MaxName; n++ {
			for at := range n {
				b := []byte("q7xq7x")[:n]
				b[at] = byte(c)
				if err := file.Name(string(b)); err != want {
					t.Errorf("Name(%q): %v, want %v", b, err, want)
				}
			}
		}
	}
}

func TestA1(t *testing.T) {
	for _, c := range []struct {
		name string
		want error
	}{
		{"", api.ErrShape},
		{"a", nil},
		{"0", nil},
		{"z9", nil},
		{"abcdef", nil},
		{"000000", nil},
		{"abcdefg", api.ErrMany},
		{strings.Repeat("9", 1000), api.ErrMany},
		{"A", api.ErrShape},
		{"a b", api.ErrShape},
		{"-", api.ErrShape},
		{"a\x00", api.ErrShape},
		{"é", api.ErrShape},
		{"\xff\xfe", api.ErrShape},
		// What is wrong in both ways is told as ErrShape, which is named first.
		{"abcdefG", api.ErrShape},
		{"ABCDEFGH", api.ErrShape},
		{strings.Repeat("a", 1000) + ".", api.ErrShape},
	} {
		if err := file.Name(c.name); err != c.want {
			t.Errorf("Name(%q): %v, want %v", c.name, err, c.want)
		}
	}
}

func TestA2(t *testing.T) {
	long := strings.Repeat("x", api.MaxText+1)
	for _, c := range []struct {
		f    api.File
		want error
	}{
		{api.File{Name: "a", Text: "hay", Times: 1}, nil},
		{api.File{Name: "abcdef", Text: "", Times: api.MaxTurn}, nil},
		{api.File{Name: "a", Text: long[1:], Times: 2}, nil},
		{api.File{Name: "a", Text: "\x00\xff =\n-", Times: 2}, nil},
		{api.File{Name: "a", Text: long, Times: 1}, api.ErrMany},
		{api.File{Name: "a", Text: strings.Repeat("é", 7), Times: 1}, api.ErrMany},
		{api.File{Name: "a", Text: strings.Repeat("é", 6), Times: 1}, nil},
		{api.File{Name: "a", Times: 0}, api.ErrBound},
		{api.File{Name: "a", Times: -1}, api.ErrBound},
		{api.File{Name: "a", Times: api.MaxTurn + 1}, api.ErrBound},
		{api.File{Name: "a", Times: math.MaxInt}, api.ErrBound},
		{api.File{Name: "a", Times: math.MinInt}, api.ErrBound},
		{api.File{}, api.ErrShape},
		{api.File{Name: "A", Text: "x", Times: 1}, api.ErrShape},
		{api.File{Name: "abcdefg", Text: "x", Times: 1}, api.ErrMany},
		// The name's error is told ahead of the text's, and that ahead of ErrBound.
		{api.File{Name: "A", Text: long, Times: 0}, api.ErrShape},
		{api.File{Name: "abcdefg", Text: "x", Times: 0}, api.ErrMany},
		{api.File{Name: "a", Text: long, Times: 0}, api.ErrMany},
	} {
		if err := file.Check(c.f); err != c.want {
			t.Errorf("Check(%+v): %v, want %v", c.f, err, c.want)
		}
	}
}
