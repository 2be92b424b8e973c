package disk_test

import (
	"math"
	"math/rand"
	"strings"
	"testing"

	"patchquilt/api"
	"patchquilt/disk"
)

// made: a new disk of so many sectors.
func made(t *testing.T, n int) *disk.Disk {
	t.Helper()
	d, err := disk.New(n)
	if err != nil || d == nil {
		t.Fatalf("New(%d): %v", n, err)
	}
	return d
}

// padded: what a sector has behind a Write of these bytes.
func padded(s string) string { return s + strings.Repeat("\x00", api.Sector-len(s)) }

// reads: a sector has these bytes, and noughts behind them.
func reads(t *testing.T, d *disk.Disk, at int, want string) {
	t.Helper()
	if s, err := d.Read(at); err != nil || s != padded(want) {
		t.Errorf("Read(%d): %q %v, want %q", at, s, err, want)
	}
}

// wrote: a Write went well.
func wrote(t *testing.T, d *disk.Disk, at int, data string) {
	t.Helper()
	if err := d.Write(at, data); err != nil {
		t.Errorf("Write(%d, %q): %v", at, data, err)
	}
}

func flushed(t *testing.T, d *disk.Disk) {
	t.Helper()
	if err := d.Flush(); err != nil {
		t.Errorf("Flush: %v", err)
	}
}

func TestF1New(t *testing.T) {
	for _, n := range []int{math.MinInt, -1, 0, api.Sectors + 1, math.MaxInt} {
		if d, err := disk.New(n); err != api.ErrBound || d != nil {
			t.Errorf("New(%d): %v %v", n, d, err)
		}
	}
	for n := 1; n <= api.Sectors; n++ {
		d := made(t, n)
		if d.Sectors() != n || d.Down() {
			t.Errorf("New(%d): %d sectors, down: %v", n, d.Sectors(), d.Down())
		}
		for at := range n {
			reads(t, d, at, "")
		}
	}
}

func TestF1ReadAndWrite(t *testing.T) {
	d := made(t, 3)
	all := strings.Repeat("x", api.Sector)
	for _, s := range []string{all, "ab", "", "\x00\xff", all[1:] + "y", "c"} {
		wrote(t, d, 1, s)
		reads(t, d, 0, "")
		reads(t, d, 1, s)
		reads(t, d, 2, "")
	}
	wrote(t, d, 0, "first")
	wrote(t, d, 2, "last")
	reads(t, d, 0, "first")
	reads(t, d, 1, "c")
	reads(t, d, 2, "last")
}

func TestF1Wrong(t *testing.T) {
	d := made(t, 3)
	wrote(t, d, 0, "a")
	long := strings.Repeat("x", api.Sector+1)
	for _, at := range []int{math.MinInt, -1, 3, 4, api.Sectors, math.MaxInt} {
		if s, err := d.Read(at); err != api.ErrBound || s != "" {
			t.Errorf("Read(%d): %q %v", at, s, err)
		}
		for _, s := range []string{"", "a", long} {
			if err := d.Write(at, s); err != api.ErrBound {
				t.Errorf("Write(%d): %v", at, err)
			}
		}
	}
	if err := d.Write(0, long); err != api.ErrBound {
		t.Errorf("Write of too many bytes: %v", err)
	}
	reads(t, d, 0, "a")
}

// A Write out of bounds is told so ahead of the fall, and is no step; a Read tells the fall first.
func TestF1Order(t *testing.T) {
	long := strings.Repeat("x", api.Sector+1)
	d := made(t, 2)
	d.Arm(0)
	if d.Write(2, "a") != api.ErrBound || d.Write(0, long) != api.ErrBound || d.Down() {
		t.Errorf("a Write out of bounds is a step")
	}
	if err := d.Flush(); err != api.ErrDown || !d.Down() {
		t.Errorf("Flush without steps left: %v, down: %v", err, d.Down())
	}
	if d.Write(2, "a") != api.ErrBound || d.Write(-1, "a") != api.ErrBound || d.Write(0, long) != api.ErrBound {
		t.Errorf("a Write out of bounds, of a disk that is down, is something else")
	}
	for _, at := range []int{-1, 0, 1, 2} {
		if s, err := d.Read(at); err != api.ErrDown || s != "" {
			t.Errorf("Read(%d) of a disk that is down: %q %v", at, s, err)
		}
	}
	if d.Write(0, "a") != api.ErrDown || d.Flush() != api.ErrDown {
		t.Errorf("a disk that is down does something")
	}
}

func TestF2Steps(t *testing.T) {
	for n := range 8 {
		d := made(t, 2)
		d.Arm(n)
		for i := range n {
			if i%2 == 0 {
				wrote(t, d, 0, "abcdefgh"[:i])
			} else {
				flushed(t, d)
			}
			if d.Down() {
				t.Fatalf("Arm(%d): down behind step %d", n, i)
			}
			// Reads are no steps.
			reads(t, d, 0, "abcdefgh"[:i/2*2])
		}
		for range 3 {
			if err := d.Write(1, "x"); err != api.ErrDown || !d.Down() {
				t.Fatalf("Arm(%d): %v, down: %v", n, err, d.Down())
			}
		}
	}
}

func TestF2Arm(t *testing.T) {
	d := made(t, 1)
	// Below 0 it isn't armed, also if it was.
	for _, n := range []int{-1, -7, math.MinInt} {
		d.Arm(1)
		d.Arm(n)
		for range 5 {
			flushed(t, d)
		}
	}
	// The last Arm counts.
	d.Arm(0)
	d.Arm(2)
	flushed(t, d)
	d.Arm(1)
	flushed(t, d)
	if d.Flush() != api.ErrDown {
		t.Errorf("a step more than are left")
	}
	// Nothing but a Restart brings it up again.
	for _, n := range []int{5, -1} {
		d.Arm(n)
		if _, err := d.Read(0); !d.Down() || d.Flush() != api.ErrDown || d.Write(0, "x") != api.ErrDown || err != api.ErrDown {
			t.Errorf("Arm(%d) brought it up", n)
		}
	}
	d.Arm(0)
	d.Restart(0)
	if d.Down() {
		t.Errorf("down behind a Restart")
	}
	for range 5 {
		flushed(t, d)
	}
	d.Arm(math.MaxInt)
	flushed(t, d)
}

func TestF2FlushKeeps(t *testing.T) {
	d := made(t, 3)
	wrote(t, d, 0, "a")
	wrote(t, d, 1, "b")
	flushed(t, d)
	wrote(t, d, 1, "c")
	wrote(t, d, 2, "d")
	d.Restart(0)
	reads(t, d, 0, "a")
	reads(t, d, 1, "b")
	reads(t, d, 2, "")
}

// A Flush at which the disk falls keeps nothing, a Write at which it falls has no number.
func TestF2Fall(t *testing.T) {
	d := made(t, 2)
	wrote(t, d, 0, "a")
	d.Arm(0)
	if d.Flush() != api.ErrDown {
		t.Errorf("Flush went well")
	}
	d.Restart(0)
	reads(t, d, 0, "")
	wrote(t, d, 0, "a")
	d.Arm(0)
	if d.Write(1, "b") != api.ErrDown {
		t.Errorf("Write went well")
	}
	d.Restart(math.MaxUint64)
	reads(t, d, 0, "a")
	reads(t, d, 1, "")
	// It didn't come to be open either.
	d.Restart(math.MaxUint64)
	reads(t, d, 1, "")
}

func TestF3(t *testing.T) {
	// Five writes to two sectors: the last one that is kept is read.
	writes := []struct {
		at   int
		data string
	}{{0, "a"}, {1, "b"}, {0, "c"}, {0, ""}, {1, "e"}}
	for keep := range uint64(1 << 6) {
		d := made(t, 2)
		wrote(t, d, 0, "x")
		wrote(t, d, 1, "y")
		flushed(t, d)
		want := []string{"x", "y"}
		for i, w := range writes {
			wrote(t, d, w.at, w.data)
			if keep>>i&1 == 1 {
				want[w.at] = w.data
			}
		}
		d.Restart(keep)
		reads(t, d, 0, want[0])
		reads(t, d, 1, want[1])
		// What is lost is lost, what is kept is kept, and numbers begin anew.
		d.Restart(math.MaxUint64)
		d.Restart(0)
		reads(t, d, 0, want[0])
		reads(t, d, 1, want[1])
		wrote(t, d, 0, "first")
		wrote(t, d, 1, "second")
		d.Restart(1)
		reads(t, d, 0, "first")
		reads(t, d, 1, want[1])
	}
}

func TestF3NumbersBehindAFlush(t *testing.T) {
	d := made(t, 4)
	wrote(t, d, 0, "a")
	flushed(t, d)
	wrote(t, d, 1, "b")
	wrote(t, d, 2, "c")
	wrote(t, d, 3, "d")
	d.Restart(0b101)
	for at, want := range []string{"a", "b", "", "d"} {
		reads(t, d, at, want)
	}
}

func TestF3Modulo(t *testing.T) {
	for bit := range 64 {
		d := made(t, api.Sectors)
		var want [api.Sectors]string
		for i := range 150 {
			at, data := i%api.Sectors, strings.Repeat("w", 1+i%39)
			wrote(t, d, at, data)
			if i%64 == bit {
				want[at] = data
			}
		}
		d.Restart(1 << bit)
		for at := range want {
			reads(t, d, at, want[at])
		}
	}
}

// model: a disk that has every Write since the last Flush.
type model struct {
	kept, now []string
	at        []int
	data      []string
}

func (m *model) write(at int, data string) {
	m.now[at] = data
	m.at, m.data = append(m.at, at), append(m.data, data)
}

func (m *model) flush() {
	copy(m.kept, m.now)
	m.at, m.data = nil, nil
}

func (m *model) restart(keep uint64) {
	for i, at := range m.at {
		if keep>>(i%64)&1 == 1 {
			m.kept[at] = m.data[i]
		}
	}
	copy(m.now, m.kept)
	m.at, m.data = nil, nil
}

// Disks that are flushed often, seldom, and hardly ever: however many Writes are open, all that a Restart may keep are there.
func TestF3Drawn(t *testing.T) {
	r := rand.New(rand.NewSource(61))
	for _, seldom := range []int{5, 300, 20000} {
		for _, n := range []int{1, 2, 7, api.Sectors} {
			d, m := made(t, n), &model{kept: make([]string, n), now: make([]string, n)}
			for range 40000 {
				at := r.Intn(n)
				switch k := r.Intn(2 * seldom); k {
				case 0:
					flushed(t, d)
					m.flush()
				case 1:
					keep := r.Uint64() & r.Uint64()
					d.Restart(keep)
					m.restart(keep)
				default:
					data := strings.Repeat(string(rune('a'+k%26)), 1+k%api.Sector)
					wrote(t, d, at, data)
					m.write(at, data)
				}
				reads(t, d, at, m.now[at])
			}
			d.Restart(1 << 9)
			m.restart(1 << 9)
			for at := range n {
				reads(t, d, at, m.now[at])
			}
			if t.Failed() {
				t.Fatalf("a disk of %d sectors", n)
			}
		}
	}
}
