package store_test

import (
	"fmt"
	"math"
	"math/rand"
	"slices"
	"strings"
	"testing"

	"patchquilt/api"
	"patchquilt/disk"
	"patchquilt/log"
	"patchquilt/number"
	"patchquilt/row"
	"patchquilt/store"
)

const logAt = 26

func r(key, val string) api.Change { return api.Change{Key: key, Val: val} }

func gone(key string) api.Change { return api.Change{Key: key, Gone: true} }

func l(changes ...api.Change) []api.Change { return changes }

// rows: so many, of some value, as great as they may be.
func rows(n int, val string) []api.Change {
	var rows []api.Change
	for i := range n {
		rows = append(rows, r("key-of-"+string(rune('a'+i)), strings.Repeat(val, api.MaxVal/len(val))))
	}
	return rows
}

func newDisk(n int) *disk.Disk {
	d, _ := disk.New(n)
	return d
}

// formatted: an empty store, opened.
func formatted(t *testing.T, n int) (*disk.Disk, *store.Store) {
	t.Helper()
	d := newDisk(n)
	if err := store.Format(d); err != nil {
		t.Fatalf("Format: %v", err)
	}
	return d, opened(t, d, n-logAt)
}

// opened: a store with these rows, and so much room.
func opened(t *testing.T, d *disk.Disk, room int, want ...api.Change) *store.Store {
	t.Helper()
	s, err := store.Open(d)
	if err != nil {
		t.Fatalf("Open: %v", err)
	}
	has(t, s, room, want...)
	return s
}

func has(t *testing.T, s *store.Store, room int, want ...api.Change) {
	t.Helper()
	if got := s.Rows(); !slices.Equal(got, want) || s.Room() != room {
		t.Fatalf("rows %v, room %d, want %v, %d", got, s.Room(), want, room)
	}
}

func committed(t *testing.T, s *store.Store, changes ...api.Change) {
	t.Helper()
	if err := s.Commit(changes); err != nil {
		t.Fatalf("Commit(%v): %v", changes, err)
	}
}

func checkpointed(t *testing.T, s *store.Store) {
	t.Helper()
	if err := s.Checkpoint(); err != nil {
		t.Fatalf("Checkpoint: %v", err)
	}
}

var a, b, x = r("a", "1"), r("b", ""), gone("x")

func TestI1Format(t *testing.T) {
	for n := 1; n <= api.Sectors; n++ {
		d := newDisk(n)
		_ = d.Write(0, "as it was")
		err := store.Format(d)
		if n < 42 {
			s, _ := d.Read(0)
			if err != api.ErrFull || !strings.HasPrefix(s, "as it was") {
				t.Errorf("Format of %d sectors: %v %q", n, err, s)
			}
			continue
		}
		if err != nil {
			t.Errorf("Format of %d sectors: %v", n, err)
		}
		d.Restart(0) // for good
		opened(t, d, n-logAt)
	}
}

func TestI1Down(t *testing.T) {
	for _, n := range []int{1, 41, 42, 60} {
		d := newDisk(n)
		d.Arm(0)
		_ = d.Flush()
		want := error(api.ErrDown)
		if s, err := store.Open(d); err != want || s != nil {
			t.Errorf("Open of %d sectors that are down: %v %v", n, s, err)
		}
		if n < 42 {
			want = api.ErrFull
		}
		if err := store.Format(d); err != want {
			t.Errorf("Format of %d sectors that are down: %v", n, err)
		}
	}
}

func TestI1None(t *testing.T) {
	for n := 1; n <= api.Sectors; n++ {
		if s, err := store.Open(newDisk(n)); err != api.ErrText || s != nil {
			t.Errorf("Open of %d sectors of noughts: %v %v", n, s, err)
		}
	}
	for _, noise := range []string{"spoilt", "\xff\xff\xff\xff", strings.Repeat("\xff", api.Sector), strings.Repeat("\x01", api.Sector), "patchquilt"} {
		for n := 1; n <= api.Sectors; n++ {
			d := newDisk(n)
			for at := range n {
				_ = d.Write(at, noise)
			}
			if s, err := store.Open(d); err != api.ErrText || s != nil {
				t.Errorf("Open of %d sectors of %q: %v %v", n, noise, s, err)
			}
		}
	}
}

// A disk that is too small has no store, though it has all the sectors of one that it has room for.
func TestI1TooSmall(t *testing.T) {
	from, s := formatted(t, 60)
	committed(t, s, rows(12, "v")...)
	checkpointed(t, s)
	for n := 27; n < 42; n++ {
		to := newDisk(n)
		for at := range n {
			s, _ := from.Read(at)
			_ = to.Write(at, s)
		}
		if s, err := store.Open(to); err != api.ErrText || s != nil {
			t.Errorf("Open of %d sectors: %v %v", n, s, err)
		}
	}
}

// Without its first two sectors there is no store.
func TestI1WithoutHead(t *testing.T) {
	d, s := formatted(t, 60)
	committed(t, s, a, b)
	checkpointed(t, s)
	committed(t, s, r("c", "3"))
	_ = d.Write(0, "spoilt")
	_ = d.Write(1, "spoilt")
	if s, err := store.Open(d); err != api.ErrText || s != nil {
		t.Errorf("Open: %v %v", s, err)
	}
}

// Just the sectors that are in use count: one of the two heads, those of the side's rows, and the log's.
func TestI1InUse(t *testing.T) {
	d, s := formatted(t, 60)
	committed(t, s, rows(5, "v")...)
	for i := range 4 {
		side := 1 - i%2
		laid := 5
		if i == 0 {
			laid = 0
		}
		for at := range logAt {
			good, _ := d.Read(at)
			_ = d.Write(at, "spoilt")
			_, err := store.Open(d)
			inUse := at == side || at >= 2+12*side && at < 2+12*side+laid
			if inUse != (err == api.ErrText) {
				t.Errorf("behind %d checkpoints, sector %d is spoilt: %v", i, at, err)
			}
			_ = d.Write(at, good)
		}
		checkpointed(t, s)
		committed(t, s)
	}
}

// sector of a log, by hand.
func sector(kind string, n int, data string) string {
	return kind + number.Bytes(uint64(n), 4) + number.Bytes(uint64(len(data)), 2) + data
}

func end(n, count int) string { return sector("c", n, number.Bytes(uint64(count), 4)) }

func one(n int, c api.Change) string {
	s, _ := row.Bytes(c)
	return sector("o", n, s)
}

// Whatever was on a disk, also deeds of all numbers that may be its log's, is no more.
func TestI1FormatWhatever(t *testing.T) {
	for first := range 140 {
		for k := range 3 {
			d := newDisk(60)
			for at := range 60 {
				n := first + at - logAt
				_ = d.Write(at, []string{end(n, 0), one(n, a), end(n, (at-logAt)%2)}[(k+k*at)%3])
			}
			if err := store.Format(d); err != nil {
				t.Fatal(err)
			}
			s := opened(t, d, 34)
			committed(t, s, b)
			s = opened(t, d, 32, b)
			committed(t, s)
			s = opened(t, d, 31, b)
			checkpointed(t, s)
			s = opened(t, d, 34, b)
			checkpointed(t, s)
			s = opened(t, d, 34, b)
			committed(t, s, gone("b"))
			opened(t, d, 32)
		}
	}
}

func TestI1FormatAStore(t *testing.T) {
	d, s := formatted(t, 60)
	for i := range 9 {
		committed(t, s, rows(12, "v")...)
		if i%3 == 0 {
			checkpointed(t, s)
		}
		if err := store.Format(d); err != nil {
			t.Fatal(err)
		}
		d.Restart(0)
		s = opened(t, d, 34)
	}
}

// The log stands from the sector 26 on, as a log that anybody may open.
func TestI1Log(t *testing.T) {
	d, s := formatted(t, 50)
	for range 3 {
		deeds := [][]api.Change{l(a, b), nil, l(gone("a"), x, r("c", "3"))}
		for _, deed := range deeds {
			committed(t, s, deed...)
		}
		first, _ := d.Read(logAt)
		g, got, err := log.Open(d, logAt, 50-logAt, int(number.Of(first[1:5])))
		if err != nil || g.Room() != s.Room() || !slices.EqualFunc(got, deeds, func(a, b []api.Change) bool { return slices.Equal(a, b) }) {
			t.Errorf("the log: %v %v", got, err)
		}
		checkpointed(t, s)
	}
}

// A log that has more rows than there may be is no store's.
func TestI1TooManyRows(t *testing.T) {
	d, s := formatted(t, 60)
	committed(t, s, rows(12, "v")...)
	first, _ := d.Read(logAt)
	g, _, _ := log.Open(d, logAt, 34, int(number.Of(first[1:5])))
	if err := g.Add(l(a)); err != nil {
		t.Fatal(err)
	}
	if s, err := store.Open(d); err != api.ErrText || s != nil {
		t.Errorf("Open: %v %v", s, err)
	}
}

// Whatever stands on some of its sectors, Open ends; what it has then is a store that goes on.
func TestI1Spoilt(t *testing.T) {
	q := rand.New(rand.NewSource(91))
	errs := 0
	for range 4000 {
		d, s := formatted(t, 42+q.Intn(19))
		for range q.Intn(12) {
			_ = s.Commit(drawn(q))
		}
		for range 1 + q.Intn(3) {
			spoil(q, d, q.Intn(d.Sectors()))
		}
		s, err := store.Open(d)
		if err != nil {
			errs++
			if err != api.ErrText || s != nil {
				t.Fatalf("Open: %v %v", s, err)
			}
			continue
		}
		goesOn(t, d, s)
	}
	if errs == 0 {
		t.Errorf("none is spoilt")
	}
}

// spoil a sector: other bytes, those of another sector, or one bit.
func spoil(q *rand.Rand, d *disk.Disk, at int) {
	s, _ := d.Read(at)
	other, _ := d.Read(q.Intn(d.Sectors()))
	bit := []byte(s)
	bit[q.Intn(len(bit))] ^= 1 << q.Intn(8)
	_ = d.Write(at, []string{"spoilt", other, string(bit)}[q.Intn(3)])
	_ = d.Flush()
}

// goesOn: a store takes what is committed, and lays it.
func goesOn(t *testing.T, d *disk.Disk, s *store.Store) {
	t.Helper()
	had := s.Rows()
	if len(had) > api.MaxRows {
		t.Fatalf("%d rows", len(had))
	}
	for i := range 6 {
		room := s.Room()
		if i%2 == 0 {
			checkpointed(t, s)
			room = d.Sectors() - logAt
		}
		s = opened(t, d, room, had...)
		had = slices.DeleteFunc(had, func(c api.Change) bool { return i == 3 && c.Key == "b" })
		if i == 3 {
			committed(t, s, gone("b"))
		} else {
			committed(t, s)
		}
	}
}

// A spoilt row isn't told as one that was committed: there is no store then.
func TestI1EachBit(t *testing.T) {
	d, s := formatted(t, 60)
	committed(t, s, rows(12, "v")...)
	eachBit(t, d, rows(12, "v"))
	checkpointed(t, s)
	eachBit(t, d, rows(12, "v"))
	committed(t, s, rows(12, "w")...)
	eachBit(t, d, rows(12, "w"))
}

// eachBit ahead of the log is spoilt, and mended.
func eachBit(t *testing.T, d *disk.Disk, want []api.Change) {
	t.Helper()
	for at := range logAt {
		good, _ := d.Read(at)
		for i := range 8 * api.Sector {
			bad := []byte(good)
			bad[i/8] ^= 1 << (i % 8)
			_ = d.Write(at, string(bad))
			s, err := store.Open(d)
			if err != api.ErrText && (err != nil || !slices.Equal(s.Rows(), want)) {
				t.Fatalf("bit %d of sector %d: %v %v", i, at, s, err)
			}
		}
		_ = d.Write(at, good)
	}
	if s, err := store.Open(d); err != nil || !slices.Equal(s.Rows(), want) {
		t.Fatalf("mended: %v %v", s, err)
	}
}

func TestI2(t *testing.T) {
	d, s := formatted(t, 60)
	committed(t, s, r("b", "2"), r("a", "1"))
	has(t, s, 31, r("a", "1"), r("b", "2"))
	committed(t, s, gone("a"), r("c", "3"), r("b", "x"))
	has(t, s, 27, r("b", "x"), r("c", "3"))
	committed(t, s)
	has(t, s, 26, r("b", "x"), r("c", "3"))
	committed(t, s, gone("nobody"))
	has(t, s, 24, r("b", "x"), r("c", "3"))
	committed(t, s, r("a", "1"), gone("a"), r("a", "2"), gone("b"), gone("c"))
	has(t, s, 18, r("a", "2"))
	d.Restart(0) // for good
	s = opened(t, d, 18, r("a", "2"))
	committed(t, s, gone("a"))
	has(t, s, 16)
	opened(t, d, 16)
}

func TestI2Wrong(t *testing.T) {
	shape, many := r("", "v"), r("a", strings.Repeat("v", api.MaxVal+1))
	twelve := rows(api.MaxRows, "v")
	fifteen := slices.Repeat(l(a), api.MaxChanges+1)
	for _, n := range []struct {
		rows []api.Change
		l    []api.Change
		want error
	}{
		{nil, fifteen, api.ErrMany},
		{nil, slices.Repeat(l(shape), api.MaxChanges+1), api.ErrMany},
		{nil, l(a, shape), api.ErrShape},
		{nil, l(a, many, shape), api.ErrMany},
		{nil, l(a, shape, many), api.ErrShape},
		{nil, l(api.Change{Key: "a", Val: "v", Gone: true}), api.ErrShape},
		{nil, rows(api.MaxRows+1, "v"), api.ErrFull},
		{nil, append(rows(api.MaxRows+1, "v"), shape), api.ErrShape},
		{nil, append(rows(api.MaxRows+1, "v"), many), api.ErrMany},
		{twelve, l(a), api.ErrFull},
		{twelve, l(twelve[0], a), api.ErrFull},
		{twelve, l(gone("a"), a), api.ErrFull},
		{twelve, l(gone(twelve[3].Key), a, b), api.ErrFull},
		{twelve, l(a, gone("a"), a), api.ErrFull},
		{twelve, l(a, shape), api.ErrShape},
		{twelve[:11], l(a, b), api.ErrFull},
	} {
		d, s := formatted(t, 60)
		committed(t, s, n.rows...)
		room := s.Room()
		if err := s.Commit(n.l); err != n.want {
			t.Errorf("Commit(%v): %v, want %v", n.l, err, n.want)
		}
		// Nothing is changed by it.
		has(t, s, room, n.rows...)
		d.Restart(0)
		opened(t, d, room, n.rows...)
		// And it goes on.
		committed(t, s, gone("a"))
		has(t, s, room-2, n.rows...)
	}
}

// Too many rows are those that would be there in the end.
func TestI2AsManyAsThereMayBe(t *testing.T) {
	twelve := rows(api.MaxRows, "v")
	for _, changes := range [][]api.Change{
		l(a, gone("a")),
		l(r(twelve[0].Key, "other")),
		l(a, gone(twelve[0].Key)),
		l(a, b, gone(twelve[11].Key), gone(twelve[0].Key)),
		rows(api.MaxRows, "w"),
		append(rows(api.MaxRows+1, "w"), gone("key-of-a")),
		append(rows(api.MaxRows, "w"), a, gone("a")),
	} {
		d, s := formatted(t, 60)
		committed(t, s, twelve...)
		committed(t, s, changes...)
		want := row.Apply(twelve, changes)
		if len(want) != api.MaxRows {
			t.Fatalf("%v make %v", changes, want)
		}
		opened(t, d, s.Room(), want...)
		checkpointed(t, s)
		opened(t, d, 34, want...)
	}
}

// A log that is full to the last sector; the next one that has no room lays all ahead of it.
func TestI2Checkpoint(t *testing.T) {
	for n := 42; n <= 60; n++ {
		d, s := formatted(t, n)
		var want []api.Change
		for i := range 60 {
			changes := l(r("a", fmt.Sprint(i)), r("k"+fmt.Sprint(i%9), fmt.Sprint(i)), gone("k"+fmt.Sprint(i%7)))
			changes = append(changes, slices.Repeat(l(gone("z")), i%12)...)
			room := s.Room()
			if room < len(changes)+1 {
				room = n - logAt
			}
			committed(t, s, changes...)
			want = row.Apply(want, changes)
			has(t, s, room-len(changes)-1, want...)
			if i%2 == 0 {
				d.Restart(0)
				s = opened(t, d, room-len(changes)-1, want...)
			}
		}
	}
	d, s := formatted(t, 42)
	committed(t, s, slices.Repeat(l(a), 14)...)
	has(t, s, 1, a)
	committed(t, s)
	has(t, s, 0, a)
	opened(t, d, 0, a)
	committed(t, s)
	has(t, s, 15, a)
	opened(t, d, 15, a)
	// What goes wrong lays nothing.
	committed(t, s, slices.Repeat(l(b), 14)...)
	has(t, s, 0, a, b)
	if s.Commit(l(r("", ""))) != api.ErrShape || s.Commit(rows(13, "v")) != api.ErrFull {
		t.Errorf("Commit of what may not be went well")
	}
	opened(t, d, 0, a, b)
}

func TestI2Down(t *testing.T) {
	d, s := formatted(t, 60)
	d.Arm(0)
	if s.Commit(l(r("", ""))) != api.ErrShape || s.Commit(rows(13, "v")) != api.ErrFull || d.Down() {
		t.Errorf("what may not be is told ahead of the fall, and is no step")
	}
	if err := s.Commit(nil); err != api.ErrDown || !d.Down() {
		t.Errorf("Commit: %v", err)
	}
	if err := s.Checkpoint(); err != api.ErrDown {
		t.Errorf("Checkpoint: %v", err)
	}
	if s.Commit(slices.Repeat(l(a), 15)) != api.ErrMany {
		t.Errorf("Commit of too many")
	}
}

func TestI3(t *testing.T) {
	d, s := formatted(t, 60)
	checkpointed(t, s)
	has(t, s, 34)
	var want []api.Change
	for i := range 12 {
		committed(t, s, rows(12, "v")[i])
		want = rows(i+1, "v")
		if i%3 == 0 {
			s = opened(t, d, 32, want...)
		}
		for range 1 + i%4 {
			checkpointed(t, s)
			has(t, s, 34, want...)
			d.Restart(0) // for good
			opened(t, d, 34, want...)
			if i%2 == 0 {
				s = opened(t, d, 34, want...)
			}
		}
	}
	// Also with an idle deed, and when all are gone.
	committed(t, s)
	checkpointed(t, s)
	opened(t, d, 34, want...)
	for _, c := range want {
		committed(t, s, gone(c.Key))
	}
	checkpointed(t, s)
	checkpointed(t, s)
	opened(t, d, 34)
}

// drawn: some changes, most of which may be.
func drawn(q *rand.Rand) []api.Change {
	var changes []api.Change
	for range q.Intn(q.Intn(api.MaxChanges) + 1) {
		c := r(fmt.Sprint("k", q.Intn(14)), strings.Repeat("v", q.Intn(api.MaxVal+1)))
		if q.Intn(3) == 0 {
			c = gone(c.Key)
		}
		changes = append(changes, c)
	}
	return changes
}

// fallen: something is done that falls at a step; a store is there then with one of two lists of rows, whatever is kept. It tells whether it fell at all.
func fallen(t *testing.T, keep uint64, step int, was, become []api.Change, lived func(*testing.T) (*disk.Disk, *store.Store), what func(*store.Store) error) bool {
	t.Helper()
	d, s := lived(t)
	d.Arm(step)
	err := what(s)
	if err == nil {
		d.Restart(keep)
		opened(t, d, s.Room(), become...)
		return false
	}
	if err != api.ErrDown {
		t.Fatalf("it falls at step %d: %v", step, err)
	}
	d.Restart(keep)
	s, err = store.Open(d)
	if err != nil {
		t.Fatalf("it falls at step %d, %b is kept: %v", step, keep, err)
	}
	got := s.Rows()
	if !slices.Equal(got, was) && !slices.Equal(got, become) {
		t.Fatalf("it falls at step %d, %b is kept: %v, it was %v, and would have become %v", step, keep, got, was, become)
	}
	// What is left of it is in nobody's way.
	committed(t, s, gone("nobody"))
	d.Restart(0)
	s = opened(t, d, s.Room(), got...)
	checkpointed(t, s)
	d.Restart(0)
	opened(t, d, d.Sectors()-logAt, got...)
	return true
}

// keeps: all that so many open Writes may leave, or some of them if these are too many to be tried.
func keeps(open int) []uint64 {
	var all []uint64
	if open <= 10 {
		for keep := range uint64(1 << open) {
			all = append(all, keep)
		}
		return all
	}
	q := rand.New(rand.NewSource(92))
	all = []uint64{0, math.MaxUint64}
	for i := range open {
		all = append(all, 1<<i, math.MaxUint64^1<<i, 1<<i-1, math.MaxUint64<<i)
	}
	for range 200 {
		all = append(all, q.Uint64())
	}
	return all
}

// Every step at which the disk can fall, and all that is kept then.
func TestI4(t *testing.T) {
	six, twelve, other := rows(6, "v"), rows(12, "v"), rows(12, "w")
	checkpoint := (*store.Store).Checkpoint
	commit := func(l []api.Change) func(*store.Store) error {
		return func(s *store.Store) error { return s.Commit(l) }
	}
	// life: commits, with a checkpoint where a list is nil.
	life := func(n int, lives ...[]api.Change) func(*testing.T) (*disk.Disk, *store.Store) {
		return func(t *testing.T) (*disk.Disk, *store.Store) {
			d, s := formatted(t, n)
			for _, changes := range lives {
				if changes == nil {
					checkpointed(t, s)
				} else {
					committed(t, s, changes...)
				}
			}
			return d, s
		}
	}
	for _, x := range []struct {
		name   string
		lived  func(*testing.T) (*disk.Disk, *store.Store)
		what   func(*store.Store) error
		open   int // Writes at a time
		become []api.Change
	}{
		{"the first commit", life(60), commit(l(a, b)), 4, l(a, b)},
		{"an idle commit", life(60, six), commit(nil), 2, six},
		{"a commit", life(60, six), commit(l(a, gone(six[2].Key), b)), 5, slices.Concat(l(a, b), six[:2], six[3:])},
		{"a greater commit", life(60, twelve[4:]), commit(other[:8]), 10, row.Apply(twelve[4:], other[:8])},
		{"the greatest commit", life(60, twelve), commit(slices.Concat(other, l(a, gone("a")))), 16, other},
		{"a commit behind a checkpoint", life(60, twelve, nil), commit(other[:3]), 5, row.Apply(twelve, other[:3])},
		{"a commit behind two", life(60, six, nil, twelve[6:], nil), commit(l(gone(six[0].Key))), 3, twelve[1:]},
		{"a commit that lays all ahead of it", life(42, twelve), commit(other[:7]), 12, row.Apply(twelve, other[:7])},
		{"and back", life(42, six, nil, twelve), commit(other[:7]), 12, row.Apply(twelve, other[:7])},
		{"and on", life(42, six, nil, six, nil, twelve), commit(other), 14, other},
		{"a commit to the last sector", life(42, six), commit(other[:8]), 10, row.Apply(six, other[:8])},
		{"a checkpoint", life(60, six), checkpoint, 6, six},
		{"the second checkpoint", life(60, twelve, nil, l(gone(twelve[9].Key), gone(twelve[6].Key), gone(twelve[3].Key), gone(twelve[0].Key))), checkpoint, 8, slices.Concat(twelve[1:3], twelve[4:6], twelve[7:9], twelve[10:])},
		{"the third checkpoint", life(60, six[:3], nil, six[3:], nil, other[:2]), checkpoint, 6, row.Apply(six, other[:2])},
		{"a great checkpoint", life(60, twelve), checkpoint, 12, twelve},
		{"the second great one", life(60, six, nil, twelve), checkpoint, 12, twelve},
		{"the third great one", life(60, six, nil, twelve, nil, l(gone(six[0].Key))), checkpoint, 11, twelve[1:]},
		{"a checkpoint behind one", life(60, twelve, nil), checkpoint, 12, twelve},
		{"a checkpoint behind two", life(60, six, nil, twelve, nil), checkpoint, 12, twelve},
		{"a checkpoint of nothing", life(60), checkpoint, 1, nil},
		{"a checkpoint of what is no more", life(60, l(a), nil, l(gone("a"))), checkpoint, 1, nil},
	} {
		t.Run(x.name, func(t *testing.T) {
			t.Parallel()
			_, s := x.lived(t)
			was := s.Rows()
			all := keeps(x.open)
			steps := 0
			for fallen(t, 0, steps, was, x.become, x.lived, x.what) {
				for _, keep := range all {
					fallen(t, keep, steps, was, x.become, x.lived, x.what)
				}
				steps++
			}
			if steps < 2 {
				t.Errorf("%d steps", steps)
			}
		})
	}
}

// A fall in Format: the old store as it was, or none, or an empty one, at whichever step, whatever is kept; also if it fell ahead of it, when it was laid as a whole.
func TestI4Format(t *testing.T) {
	for checkpoints := range 4 {
		for fall := -1; fall < 20; fall++ {
			for step := 0; formatFalls(t, checkpoints, fall, step); step++ {
			}
		}
	}
}

// formatFalls at a step, behind so many checkpoints, the last of which fell; it tells whether it did.
func formatFalls(t *testing.T, checkpoints, fall, step int) bool {
	t.Helper()
	for keep := range uint64(2) {
		d, s := formatted(t, 60)
		for i := range checkpoints {
			committed(t, s, rows(3+i, "v")...)
			if i == checkpoints-1 {
				d.Arm(fall)
			}
			_ = s.Checkpoint()
		}
		d.Restart(math.MaxUint64)
		s, err := store.Open(d)
		if err != nil {
			t.Fatal(err)
		}
		committed(t, s, a)
		was := s.Rows()
		d.Arm(step)
		fell := store.Format(d) != nil
		d.Restart(keep)
		if s, err := store.Open(d); err != nil && err != api.ErrText || err == nil && len(s.Rows()) > 0 && !slices.Equal(s.Rows(), was) {
			t.Fatalf("Format falls at step %d, %b is kept: %v %v, it was %v", step, keep, s, err, was)
		}
		if !fell {
			opened(t, d, 34)
			return false
		}
		if err := store.Format(d); err != nil {
			t.Fatal(err)
		}
		opened(t, d, 34)
	}
	return true
}

// A long life with many falls.
func TestI4Drawn(t *testing.T) {
	for seed := range 24 {
		t.Run(fmt.Sprint(seed), func(t *testing.T) {
			t.Parallel()
			q := rand.New(rand.NewSource(int64(seed)))
			d, s := formatted(t, 42+q.Intn(19))
			var was []api.Change
			for range 1500 {
				changes := drawn(q)
				become := row.Apply(was, changes)
				if q.Intn(2) == 0 {
					d.Arm(q.Intn(60))
				}
				var err error
				if q.Intn(6) == 0 {
					become = was
					err = s.Checkpoint()
				} else {
					err = s.Commit(changes)
				}
				if len(become) > api.MaxRows {
					if err != api.ErrFull {
						t.Fatalf("Commit(%v): %v", changes, err)
					}
					become, err = was, nil
				}
				if err == nil {
					was = become
				} else if err != api.ErrDown {
					t.Fatalf("Commit(%v): %v", changes, err)
				}
				if d.Down() || q.Intn(4) == 0 {
					d.Restart(q.Uint64())
					s, err = store.Open(d)
					if err != nil || !slices.Equal(s.Rows(), was) && !slices.Equal(s.Rows(), become) {
						t.Fatalf("%v %v, it was %v, and would have become %v", s, err, was, become)
					}
					was = s.Rows()
				}
				d.Arm(-1)
			}
		})
	}
}

// Of a disk that others write to a store that is open goes on, with what it has.
func TestOthersWrite(t *testing.T) {
	d, s := formatted(t, 42)
	q := rand.New(rand.NewSource(93))
	var want []api.Change
	for i := range 300 {
		if i%3 == 0 {
			_ = store.Format(d)
			other, _ := store.Open(d)
			for range q.Intn(12) {
				_ = other.Commit(drawn(q))
			}
		} else {
			_ = d.Write(q.Intn(42), "spoilt")
		}
		changes := l(r(fmt.Sprint(i%9), fmt.Sprint(i)), gone(fmt.Sprint(i%7)))
		committed(t, s, append(changes, slices.Repeat(l(gone("z")), i%13)...)...)
		want = row.Apply(want, changes)
		if !slices.Equal(s.Rows(), want) {
			t.Fatalf("rows %v, want %v", s.Rows(), want)
		}
	}
}

func TestZ2(t *testing.T) {
	d, s := formatted(t, 60)
	changes := l(r("b", "2"), r("a", "1"), r("c", "behind"))
	before := slices.Clone(changes)
	committed(t, s, changes[:2]...)
	if !slices.Equal(changes, before) {
		t.Errorf("Commit wrote into a list: %v", changes)
	}
	changes[0].Val = "mine"
	got := s.Rows()
	got[0].Val = "mine"
	_ = append(got[:1], r("z", "mine"))
	has(t, s, 31, r("a", "1"), r("b", "2"))
	checkpointed(t, s)
	got = s.Rows()
	got[1].Key = "mine"
	opened(t, d, 34, r("a", "1"), r("b", "2"))
}
