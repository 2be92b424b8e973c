package number_test

import (
	"math"
	"testing"

	"patchquilt/number"
)

func TestBytes(t *testing.T) {
	for _, c := range []struct {
		n    uint64
		many int
		want string
	}{
		{0, 0, ""},
		{0, 1, "\x00"},
		{255, 1, "\xff"},
		{256, 1, "\x00"},
		{0x0201, 2, "\x01\x02"},
		{0x04030201, 4, "\x01\x02\x03\x04"},
		{1<<32 + 7, 4, "\x07\x00\x00\x00"},
		{math.MaxUint64, 8, "\xff\xff\xff\xff\xff\xff\xff\xff"},
		{0x0807060504030201, 8, "\x01\x02\x03\x04\x05\x06\x07\x08"},
	} {
		if got := number.Bytes(c.n, c.many); got != c.want {
			t.Errorf("Bytes(%x, %d): %q, want %q", c.n, c.many, got, c.want)
		}
	}
}

func TestOf(t *testing.T) {
	for _, n := range []uint64{0, 1, 255, 256, 0x0201, 1 << 31, 1<<32 + 7, math.MaxUint64} {
		if got := number.Of(number.Bytes(n, 8)); got != n {
			t.Errorf("Of Bytes of %x: %x", n, got)
		}
	}
	if got := number.Of("\x01\x02"); got != 0x0201 {
		t.Errorf("Of: %x", got)
	}
	if got := number.Of(""); got != 0 {
		t.Errorf("Of nothing: %x", got)
	}
}
