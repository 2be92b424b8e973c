package log_test

import (
	"fmt"
	"math"
	"math/rand"
	"slices"
	"strings"
	"testing"

	"patchquilt/api"
	"patchquilt/disk"
	"patchquilt/log"
	"patchquilt/row"
)

func r(key, val string) api.Change { return api.Change{Key: key, Val: val} }

func gone(key string) api.Change { return api.Change{Key: key, Gone: true} }

func l(changes ...api.Change) []api.Change { return changes }

// low: a number's bytes, the lowest first, by hand.
func low(n uint64, many int) string {
	s := ""
	for range many {
		s += string([]byte{byte(n % 256)})
		n /= 256
	}
	return s
}

func sector(kind string, n uint64, data string) string {
	return kind + low(n, 4) + low(uint64(len(data)), 2) + data
}

// o and c: sectors by hand.
func o(n uint64, c api.Change) string {
	s, _ := row.Bytes(c)
	return sector("o", n, s)
}

func c(n uint64, count int) string { return sector("c", n, low(uint64(count), 4)) }

// diskOf sectors, from one on, for good.
func diskOf(n, from int, sectors ...string) *disk.Disk {
	d, _ := disk.New(n)
	for i, s := range sectors {
		if d.Write(from+i, s) != nil {
			panic("a sector that can't be written: " + s)
		}
	}
	_ = d.Flush()
	return d
}

func same(a, b [][]api.Change) bool {
	return slices.EqualFunc(a, b, func(a, b []api.Change) bool { return slices.Equal(a, b) })
}

// opens: the log has these deeds, and so much room.
func opens(t *testing.T, d *disk.Disk, from, many, first, room int, want ...[]api.Change) *log.Log {
	t.Helper()
	g, deeds, err := log.Open(d, from, many, first)
	if err != nil || !same(deeds, want) || g.Room() != room || g.Next() != first+many {
		t.Fatalf("Open(%d, %d, %d): %v %v, room %d, next %d, want %v, room %d", from, many, first, deeds, err, g.Room(), g.Next(), want, room)
	}
	return g
}

func added(t *testing.T, g *log.Log, changes ...api.Change) {
	t.Helper()
	if err := g.Add(changes); err != nil {
		t.Fatalf("Add(%v): %v", changes, err)
	}
}

var a, b, x = r("a", "1"), r("b", ""), gone("x")

func TestH1Bounds(t *testing.T) {
	d := diskOf(10, 0)
	for _, n := range [][3]int{
		{-1, 1, 1}, {0, 0, 1}, {0, 1, 0}, {0, -1, 1}, {0, 1, -1}, {0, 11, 1}, {1, 10, 1}, {9, 2, 1}, {10, 1, 1}, {11, 1, 1},
		{math.MinInt, 1, 1}, {0, math.MinInt, 1}, {0, 1, math.MinInt}, {math.MaxInt, 1, 1}, {0, math.MaxInt, 1}, {math.MaxInt, math.MaxInt, 1}, {1, math.MaxInt, 1},
	} {
		if g, deeds, err := log.Open(d, n[0], n[1], n[2]); err != api.ErrBound || g != nil || deeds != nil {
			t.Errorf("Open%v: %v %v %v", n, g, deeds, err)
		}
	}
	opens(t, d, 0, 10, 1, 10)
	opens(t, d, 9, 1, 1, 1)
	opens(t, d, 0, 1, 5, 1)
	opens(t, d, 3, 7, 1, 7)
	if _, _, err := log.Open(d, 0, 10, math.MaxInt); err != nil {
		t.Errorf("Open, from the greatest number on: %v", err)
	}
}

// A disk that is down is told behind the bounds.
func TestH1Down(t *testing.T) {
	d := diskOf(10, 0)
	g := opens(t, d, 0, 10, 1, 10)
	d.Arm(0)
	if err := g.Add(l(a)); err != api.ErrDown {
		t.Errorf("Add: %v", err)
	}
	if g, deeds, err := log.Open(d, 0, 10, 1); err != api.ErrDown || g != nil || deeds != nil {
		t.Errorf("Open: %v %v %v", g, deeds, err)
	}
	for _, n := range [][3]int{{0, 11, 1}, {-1, 1, 1}, {0, 0, 1}, {0, 1, 0}} {
		if _, _, err := log.Open(d, n[0], n[1], n[2]); err != api.ErrBound {
			t.Errorf("Open%v of a disk that is down: %v", n, err)
		}
	}
}

// What is written by hand is read.
func TestH1Read(t *testing.T) {
	whole := []string{o(5, a), o(6, x), c(7, 2), c(8, 0), o(9, b), c(10, 1)}
	deeds := [][]api.Change{l(a, x), nil, l(b)}
	opens(t, diskOf(12, 3, whole...), 3, 9, 5, 3, deeds...)
	opens(t, diskOf(12, 3, whole...), 3, 6, 5, 0, deeds...)
	opens(t, diskOf(12, 3, whole...), 3, 5, 5, 1, deeds[:2]...) // a deed that the log cuts off is none
	opens(t, diskOf(12, 3, whole...), 3, 1, 5, 1)
	opens(t, diskOf(12, 3, whole...), 3, 9, 4, 9)
	opens(t, diskOf(12, 3, whole...), 3, 9, 6, 9)
	opens(t, diskOf(12, 3, whole...), 4, 8, 6, 8)
	opens(t, diskOf(12, 3, whole...), 6, 6, 8, 3, deeds[1:]...)
	// Behind what is held anything may stand.
	opens(t, diskOf(12, 3, o(5, a)+"any", c(6, 1)+"thing"), 3, 9, 5, 7, l(a))
	// As many as one likes may stand there: MaxChanges is Add's alone.
	var many []api.Change
	var sectors []string
	for i := range api.MaxChanges + 6 {
		many = append(many, r(fmt.Sprint(i), "v"))
		sectors = append(sectors, o(uint64(1+i), many[i]))
	}
	sectors = append(sectors, c(uint64(1+len(many)), len(many)))
	opens(t, diskOf(30, 0, sectors...), 0, 30, 1, 30-len(sectors), many)
}

func TestH1Numbers(t *testing.T) {
	// Modulo 2 to the power 32, also where the log goes beyond.
	opens(t, diskOf(4, 0, o(1<<32-1, a), c(0, 1), c(1, 0)), 0, 4, 1<<32-1, 1, l(a), nil)
	opens(t, diskOf(4, 0, o(7, a), c(8, 1)), 0, 4, 1<<40+7, 2, l(a))
	opens(t, diskOf(4, 0, o(0x01020304, a), c(0x01020305, 1)), 0, 4, 0x01020304, 2, l(a))
	d := diskOf(4, 0)
	g, _, _ := log.Open(d, 0, 4, math.MaxInt)
	added(t, g, a)
	if _, deeds, err := log.Open(d, 0, 4, math.MaxInt); err != nil || !same(deeds, [][]api.Change{l(a)}) {
		t.Errorf("a log from the greatest number on: %v %v", deeds, err)
	}
}

// Whatever ends the deeds, those ahead of it stand.
func TestH1Ends(t *testing.T) {
	good, _ := row.Bytes(b)
	for why, ends := range map[string][][]string{
		"not written": {
			{""}, {"spoilt"}, {"x" + low(7, 4)}, {o(7, b)}, {o(7, b), ""}, {o(7, b), "spoilt"},
			{sector("O", 7, good), c(8, 1)}, {sector("\x00", 7, good), c(8, 1)},
		},
		"another number": {
			{o(6, b), c(8, 1)}, {o(8, b), c(8, 1)}, {o(7+1<<8, b), c(8, 1)}, {o(7+1<<24, b), c(8, 1)}, {o(7, b), c(9, 1)},
		},
		"more bytes than a sector has": {
			{"o" + low(7, 4) + low(34, 2) + good, c(8, 1)},
			{"o" + low(7, 4) + low(256+uint64(len(good)), 2) + good, c(8, 1)},
			{"o" + low(7, 4) + low(65535, 2) + good, c(8, 1)},
		},
		"another count": {
			{o(7, b), c(8, 0)}, {o(7, b), c(8, 2)}, {o(7, b), c(8, 1+1<<8)}, {o(7, b), c(8, 1+1<<24)}, {c(7, 1)}, {o(7, b), o(8, b), c(9, 1)},
		},
		"no count's bytes": {
			{o(7, b), sector("c", 8, "")}, {o(7, b), sector("c", 8, "\x01")}, {o(7, b), sector("c", 8, "\x01\x00\x00\x00\x00")},
		},
		"no change's bytes": {
			{sector("o", 7, ""), c(8, 1)}, {sector("o", 7, "\x02\x01a"), c(8, 1)}, {sector("o", 7, "\x01\x01ax"), c(8, 1)}, {sector("o", 7, "\x00\x00x"), c(8, 1)},
			{sector("o", 7, "\x00\x01a"+strings.Repeat("v", api.MaxVal+1)), c(8, 1)},
			{sector("o", 7, "\x00\x01"+strings.Repeat("v", api.Sector-9)), c(8, 1)},
		},
	} {
		t.Run(why, func(t *testing.T) {
			for _, bad := range ends {
				sectors := append([]string{o(5, a), c(6, 1)}, bad...)
				d := diskOf(12, 1, append(sectors, c(uint64(5+len(sectors)), 0))...)
				opens(t, d, 1, 10, 5, 8, l(a))
			}
		})
	}
}

// Each bit of a deed counts, up to what is held.
func TestH1EachBit(t *testing.T) {
	for i, s := range []string{o(5, a), c(6, 1)} {
		for at := range len(s) {
			for bit := range 8 {
				spoilt := []byte(s)
				spoilt[at] ^= 1 << bit
				d := diskOf(4, 0, o(5, a), c(6, 1))
				_ = d.Write(i, string(spoilt))
				_, deeds, err := log.Open(d, 0, 4, 5)
				if err != nil || same(deeds, [][]api.Change{l(a)}) {
					t.Errorf("bit %d of byte %d of sector %d: %v %v", bit, at, i, deeds, err)
				}
			}
		}
	}
}

func TestH2Add(t *testing.T) {
	d := diskOf(12, 0)
	g := opens(t, d, 2, 9, 300, 9)
	added(t, g, a, x)
	added(t, g)
	added(t, g, b)
	if g.Room() != 3 || g.Next() != 309 {
		t.Errorf("room %d, next %d", g.Room(), g.Next())
	}
	want := []string{"", "", o(300, a), o(301, x), c(302, 2), c(303, 0), o(304, b), c(305, 1), "", "", "", ""}
	d.Restart(0) // for good
	for at, s := range want {
		got, _ := d.Read(at)
		if got != s+strings.Repeat("\x00", api.Sector-len(s)) {
			t.Errorf("sector %d: %q, want %q", at, got, s)
		}
	}
	g = opens(t, d, 2, 9, 300, 3, l(a, x), nil, l(b))
	added(t, g, a, b)
	opens(t, d, 2, 9, 300, 0, l(a, x), nil, l(b), l(a, b))
	if s, _ := d.Read(11); s != strings.Repeat("\x00", api.Sector) {
		t.Errorf("the sector behind the log: %q", s)
	}
	if err := g.Add(nil); err != api.ErrFull {
		t.Errorf("Add to a full log: %v", err)
	}
}

func TestH2Greatest(t *testing.T) {
	d := diskOf(20, 0)
	g := opens(t, d, 0, 20, 1, 20)
	var most []api.Change
	for i := range api.MaxChanges {
		most = append(most, r(strings.Repeat("k", api.MaxKey-1)+string(rune('a'+i)), strings.Repeat("\xff", api.MaxVal)))
	}
	added(t, g, most...)
	opens(t, d, 0, 20, 1, 20-len(most)-1, most)
}

func TestH2Wrong(t *testing.T) {
	shape, many := r("", "x"), r("a", strings.Repeat("v", api.MaxVal+1))
	fifteen := make([]api.Change, api.MaxChanges+1)
	for _, n := range []struct {
		room int
		c    []api.Change
		want error
	}{
		{20, fifteen, api.ErrMany},
		{20, append(slices.Clone(fifteen), fifteen...), api.ErrMany},
		{20, l(a, shape), api.ErrShape},
		{20, l(a, many), api.ErrMany},
		{20, l(a, many, shape), api.ErrMany},
		{20, l(shape, many), api.ErrShape},
		{20, l(api.Change{Key: "a", Val: "v", Gone: true}), api.ErrShape},
		{3, l(a, b, x), api.ErrFull},
		{3, l(a, b), nil},
		{2, l(a, b), api.ErrFull},
		{1, l(a), api.ErrFull},
		{1, nil, nil},
		// In the order in which they are named.
		{3, fifteen, api.ErrMany},
		{3, l(shape, shape, shape), api.ErrFull},
		{1, l(many), api.ErrFull},
		{2, l(many), api.ErrMany},
	} {
		d := diskOf(21, 0, "ahead")
		for at := 1; at < 21; at++ {
			_ = d.Write(at, "spoilt")
		}
		_ = d.Flush()
		g := opens(t, d, 1, n.room, 1, n.room)
		if err := g.Add(n.c); err != n.want {
			t.Errorf("Add(%v), room for %d: %v, want %v", n.c, n.room, err, n.want)
		}
		if n.want == nil {
			continue
		}
		if g.Room() != n.room {
			t.Errorf("Add(%v) that went wrong has taken room", n.c)
		}
		for at := 1; at < 21; at++ {
			if s, _ := d.Read(at); !strings.HasPrefix(s, "spoilt") {
				t.Errorf("Add(%v) that went wrong has written: %q", n.c, s)
			}
		}
		// It goes on.
		added(t, g)
		opens(t, d, 1, n.room, 1, n.room-1, nil)
	}
}

// Errors are told ahead of the fall.
func TestH2WrongOfADiskThatFell(t *testing.T) {
	d := diskOf(3, 0)
	g := opens(t, d, 0, 3, 1, 3)
	d.Arm(0)
	_ = d.Flush()
	for _, n := range []struct {
		c    []api.Change
		want error
	}{{make([]api.Change, api.MaxChanges+1), api.ErrMany}, {l(a, a, a), api.ErrFull}, {l(r("", "")), api.ErrShape}, {l(a), api.ErrDown}, {nil, api.ErrDown}} {
		if err := g.Add(n.c); err != n.want {
			t.Errorf("Add(%v): %v, want %v", n.c, err, n.want)
		}
	}
}

// stood: what may stand behind a first deed: nothing, deeds that would go on behind a new one, or that some of its sectors would make whole.
func stood() map[string][]string {
	return map[string][]string{
		"nothing":             nil,
		"noise":               {"spoilt", "o", "c", "x", "\xff\xff", "o", "c"},
		"deeds behind":        {"", c(4, 0), c(5, 0), c(6, 0), c(7, 0), c(8, 0)},
		"a deed behind":       {"", "", "", o(6, x), c(7, 1), c(8, 0)},
		"the rest of a deed":  {"", o(4, x), c(5, 2), c(6, 0), c(7, 0)},
		"the rest of another": {"", o(4, x), o(5, x), c(6, 3), c(7, 0)},
		"and of one more":     {"", "", o(5, x), c(6, 3), c(7, 0)},
		"the first of a deed": {o(3, x), "", "", c(6, 3)},
		"an end is missing":   {o(3, x), o(4, x), "", c(6, 0), c(7, 0)},
		"a wrong end":         {o(3, x), c(4, 3), c(5, 1), c(6, 2), c(7, 3)},
		"wrong ends":          {o(3, x), o(4, x), o(5, x), c(6, 2), c(7, 3), c(8, 4)},
	}
}

func TestH2NoneBehind(t *testing.T) {
	for name, sectors := range stood() {
		t.Run(name, func(t *testing.T) {
			for k := range 5 {
				d := diskOf(9, 0, append([]string{o(1, a), c(2, 1)}, sectors...)...)
				g := opens(t, d, 0, 9, 1, 7, l(a))
				deed := l(a, b, x, b)[:k]
				added(t, g, deed...)
				d.Restart(0)
				g = opens(t, d, 0, 9, 1, 6-k, l(a), deed)
				added(t, g)
				opens(t, d, 0, 9, 1, 5-k, l(a), deed, nil)
			}
		})
	}
}

// Behind a fall at any step, whatever is kept, and whatever stood there: the deed is there as a whole, or not at all.
func TestH2Falls(t *testing.T) {
	for name, sectors := range stood() {
		for k := range 6 {
			deed := l(a, b, x, b, a)[:k]
			for step := 0; fallsAt(t, name, sectors, deed, step); step++ {
				if step > 100 {
					t.Fatalf("%s: Add never ends", name)
				}
			}
		}
	}
}

// fallsAt a step of Add? If so, all that may be kept is tried.
func fallsAt(t *testing.T, name string, sectors []string, deed []api.Change, step int) bool {
	// A deed of five changes, and the sector behind it: that many are open at a time.
	for keep := range uint64(1 << 7) {
		d := diskOf(9, 0, append([]string{o(1, a), c(2, 1)}, sectors...)...)
		g := opens(t, d, 0, 9, 1, 7, l(a))
		d.Arm(step)
		err := g.Add(deed)
		if err == nil {
			return false
		}
		if err != api.ErrDown {
			t.Fatalf("%s: Add(%v) falls at step %d: %v", name, deed, step, err)
		}
		d.Restart(keep)
		g, deeds, err := log.Open(d, 0, 9, 1)
		whole := same(deeds, [][]api.Change{l(a), deed})
		if err != nil || !whole && !same(deeds, [][]api.Change{l(a)}) {
			t.Fatalf("%s: Add(%v) falls at step %d, %b is kept: %v %v", name, deed, step, keep, deeds, err)
		}
		// It goes on behind it, whatever was left there.
		deeds = append(deeds, l(b))
		if g.Room() >= 2 {
			added(t, g, b)
			d.Restart(0)
			opens(t, d, 0, 9, 1, g.Room(), deeds...)
		}
	}
	return true
}

// A long life with many falls: all that was added is there, and at most what was being added besides.
func TestH2Drawn(t *testing.T) {
	q := rand.New(rand.NewSource(81))
	for range 300 {
		d := diskOf(60, 0)
		for at := range 60 {
			_ = d.Write(at, []string{"", c(uint64(1+at), q.Intn(3)), o(uint64(1+at), x)}[q.Intn(3)])
		}
		_ = d.Flush()
		g, deeds, err := log.Open(d, 0, 60, 1)
		for err == nil {
			var deed []api.Change
			for range q.Intn(api.MaxChanges + 1) {
				deed = append(deed, l(a, b, x)[q.Intn(3)])
			}
			d.Arm(q.Intn(60))
			err = g.Add(deed)
			if err == api.ErrFull {
				break
			}
			down := err == api.ErrDown
			d.Restart(q.Uint64() | uint64(q.Intn(2))*math.MaxUint64)
			var now [][]api.Change
			g, now, err = log.Open(d, 0, 60, 1)
			with := append(slices.Clone(deeds), deed)
			if err != nil || !same(now, with) && !(down && same(now, deeds)) {
				t.Fatalf("%v, then %v (down: %v): %v %v", deeds, deed, down, now, err)
			}
			deeds = now
		}
	}
}

func TestNew(t *testing.T) {
	d := diskOf(9, 0, o(1, a), c(2, 1), c(3, 0), c(4, 0))
	g := log.New(d, 0, 9, 1)
	if g.Room() != 9 || g.Next() != 10 {
		t.Errorf("New: room %d, next %d", g.Room(), g.Next())
	}
	added(t, g, b)
	opens(t, d, 0, 9, 1, 7, l(b))
}

func TestZ2(t *testing.T) {
	d := diskOf(9, 0)
	g := opens(t, d, 0, 9, 1, 9)
	changes := l(a, b, x)
	if err := g.Add(changes[:2]); err != nil || !slices.Equal(changes, l(a, b, x)) {
		t.Errorf("Add: %v, the list is %v", err, changes)
	}
	changes[0].Val = "mine"
	_, one, _ := log.Open(d, 0, 9, 1)
	one[0][0].Val = "mine"
	opens(t, d, 0, 9, 1, 6, l(a, b))
}
