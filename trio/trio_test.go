package trio_test

import (
	"errors"
	"fmt"
	"math/rand"
	"slices"
	"strings"
	"testing"

	"patchquilt/api"
	"patchquilt/disk"
	"patchquilt/image"
	"patchquilt/quilt"
	"patchquilt/store"
	"patchquilt/trio"
	"patchquilt/vote"
)

const logAt = 26

type disks = [api.Disks]*disk.Disk

func newDisks(sizes ...int) disks {
	var d disks
	for i := range d {
		d[i], _ = disk.New(sizes[i%len(sizes)])
	}
	return d
}

// down: a disk that fell.
func down(d *disk.Disk) {
	d.Arm(0)
	_ = d.Flush()
}

func formatted(t *testing.T, sizes ...int) disks {
	t.Helper()
	d := newDisks(sizes...)
	if err := trio.Format(d); err != nil {
		t.Fatalf("Format: %v", err)
	}
	return d
}

// have: do all disks have a quilt, for good?
func have(t *testing.T, d disks, want api.Quilt) {
	t.Helper()
	for i, one := range d {
		one.Restart(0)
		if c := trio.Copies(d)[i]; !c.Is || !quilt.Same(c.Quilt, want) {
			t.Fatalf("disk %d has %v, want %v", i, c, want)
		}
	}
}

// opened: a trio with a quilt, that so many disks had not.
func opened(t *testing.T, d disks, wrong int, want api.Quilt) *trio.Trio {
	t.Helper()
	o, n, err := trio.Open(d)
	if err != nil || n != wrong || !quilt.Same(o.Quilt(), want) {
		t.Fatalf("Open: %v %d %v, want %v %d", o, n, err, want, wrong)
	}
	have(t, d, want)
	return o
}

func scrubbed(t *testing.T, o *trio.Trio, wrong int) {
	t.Helper()
	if n, err := o.Scrub(); n != wrong || err != nil {
		t.Fatalf("Scrub: %d %v, want %d", n, err, wrong)
	}
}

// laid: a quilt on a disk, by the store alone.
func laid(t *testing.T, d *disk.Disk, q api.Quilt) {
	t.Helper()
	rows(t, d, image.Rows(q)...)
}

// rows on a disk, whether they are a quilt or not.
func rows(t *testing.T, d *disk.Disk, rows ...api.Change) {
	t.Helper()
	if err := store.Format(d); err != nil {
		t.Fatal(err)
	}
	s, err := store.Open(d)
	if err != nil {
		t.Fatal(err)
	}
	if err := s.Commit(rows); err != nil {
		t.Fatal(err)
	}
}

type what = func(api.Quilt) (api.Quilt, error)

func write(name, text string) what {
	return func(q api.Quilt) (api.Quilt, error) { return quilt.Write(q, name, text) }
}

// be: whatever it was, it is this.
func be(q api.Quilt) what {
	return func(api.Quilt) (api.Quilt, error) { return q, nil }
}

func done(t *testing.T, o *trio.Trio, w what) {
	t.Helper()
	want, err := w(o.Quilt())
	if err != nil {
		t.Fatal(err)
	}
	if err := o.Do(w); err != nil || !quilt.Same(o.Quilt(), want) {
		t.Fatalf("Do: %v, it is %v, want %v", err, o.Quilt(), want)
	}
}

// filled: a quilt of so many files, at some turn, with some text.
func filled(files, turn int, text string) api.Quilt {
	q := api.Quilt{Turn: turn}
	for i := range files {
		q.Files = append(q.Files, api.File{Name: "abcde" + string(rune('a'+i)), Text: text, Times: i + 1})
	}
	return q
}

// sectors of all disks.
func sectors(d disks) []string {
	var all []string
	for _, one := range d {
		for at := range one.Sectors() {
			s, _ := one.Read(at)
			all = append(all, s)
		}
	}
	return all
}

// cloned: other disks with the same sectors.
func cloned(d disks) disks {
	var c disks
	for i, one := range d {
		c[i], _ = disk.New(one.Sectors())
		for at := range one.Sectors() {
			s, _ := one.Read(at)
			_ = c[i].Write(at, s)
		}
		_ = c[i].Flush()
	}
	return c
}

// lives: disks that all have a quilt, behind much or little.
func lives(t *testing.T) map[string]disks {
	t.Helper()
	all := map[string]disks{}
	for name, turns := range map[string]int{"new": 0, "young": 3, "grown": 11, "old": 26, "aged": 41} {
		d := formatted(t, 60, 50, 42)
		o := opened(t, d, 0, quilt.New())
		for i := range turns {
			done(t, o, write(string(rune('a'+i%8)), fmt.Sprint("turn ", i)))
		}
		all[name] = d
	}
	return all
}

// has: the quilt that all disks have.
func has(d disks) api.Quilt { return trio.Copies(d)[0].Quilt }

func TestK1Format(t *testing.T) {
	d := formatted(t, 42, 60, 51)
	have(t, d, quilt.New())
	opened(t, d, 0, quilt.New())
	// Whatever was there.
	for _, noise := range noises {
		for _, one := range d {
			for at := range one.Sectors() {
				_ = one.Write(at, noise)
			}
		}
		if err := trio.Format(d); err != nil {
			t.Fatal(err)
		}
		have(t, d, quilt.New())
	}
	for name, d := range lives(t) {
		if err := trio.Format(d); err != nil {
			t.Fatal(err)
		}
		have(t, d, quilt.New())
		o := opened(t, d, 0, quilt.New())
		done(t, o, write("a", name))
		have(t, d, o.Quilt())
	}
}

// To lay is to format, and one commit of the rows: their sectors, and one more.
func TestK1Lay(t *testing.T) {
	d := formatted(t, 60)
	for i, one := range d {
		s, err := store.Open(one)
		if err != nil || s.Room() != 60-logAt-2 || !slices.Equal(s.Rows(), image.Rows(quilt.New())) {
			t.Errorf("disk %d: %v %v", i, s, err)
		}
	}
	q := filled(8, 77, "hay")
	laid(t, d[0], q)
	laid(t, d[2], q)
	opened(t, d, 1, q)
	s, err := store.Open(d[1])
	if err != nil || s.Room() != 60-logAt-10 || !slices.Equal(s.Rows(), image.Rows(q)) {
		t.Errorf("%v %v", s, err)
	}
}

func TestK1FormatWrong(t *testing.T) {
	q := filled(2, 5, "was")
	for _, x := range []struct {
		sizes  [api.Disks]int
		down   []int
		want   error
		become int // so many are laid
	}{
		{[api.Disks]int{41, 60, 60}, nil, api.ErrFull, 0},
		{[api.Disks]int{60, 41, 60}, nil, api.ErrFull, 1},
		{[api.Disks]int{60, 60, 1}, nil, api.ErrFull, 2},
		{[api.Disks]int{60, 60, 60}, []int{0}, api.ErrDown, 0},
		{[api.Disks]int{60, 60, 60}, []int{1}, api.ErrDown, 1},
		{[api.Disks]int{60, 60, 60}, []int{2, 1}, api.ErrDown, 1},
		{[api.Disks]int{60, 60, 60}, []int{2}, api.ErrDown, 2},
		// The first one's error; of one disk that it is too small.
		{[api.Disks]int{41, 60, 60}, []int{0}, api.ErrFull, 0},
		{[api.Disks]int{41, 60, 60}, []int{1}, api.ErrFull, 0},
		{[api.Disks]int{60, 41, 60}, []int{0}, api.ErrDown, 0},
		{[api.Disks]int{60, 41, 60}, []int{2}, api.ErrFull, 1},
		{[api.Disks]int{60, 60, 41}, []int{1}, api.ErrDown, 1},
	} {
		d := newDisks(x.sizes[:]...)
		for _, one := range d {
			if one.Sectors() >= 42 {
				laid(t, one, q)
			}
		}
		for _, i := range x.down {
			down(d[i])
		}
		if err := trio.Format(d); err != x.want {
			t.Errorf("Format of %v: %v, want %v", x, err, x.want)
		}
		for i, one := range d {
			one.Restart(0)
			want := q
			if i < x.become {
				want = quilt.New()
			}
			if c := trio.Copies(d)[i]; c.Is != (one.Sectors() >= 42) || c.Is && !quilt.Same(c.Quilt, want) {
				t.Errorf("Format of %v: disk %d has %v", x, i, c)
			}
		}
	}
}

func TestK1Copies(t *testing.T) {
	d := newDisks(60)
	if got := trio.Copies(d); got[0].Is || got[1].Is || got[2].Is {
		t.Errorf("Copies of nothing: %v", got)
	}
	a, b := filled(8, 9999, strings.Repeat("z", 12)), filled(0, 1, "")
	laid(t, d[0], a)
	laid(t, d[1], b)
	before := sectors(d)
	copies := func(want [api.Disks]api.Copy) {
		t.Helper()
		for i, c := range trio.Copies(d) {
			if !vote.Same(c, want[i]) || !c.Is && (c.Quilt.Files != nil || c.Quilt.Turn != 0) {
				t.Errorf("disk %d: %v, want %v", i, c, want[i])
			}
		}
	}
	copies([api.Disks]api.Copy{{Is: true, Quilt: a}, {Is: true, Quilt: b}, {}})
	if !slices.Equal(sectors(d), before) {
		t.Errorf("Copies writes")
	}
	down(d[0])
	copies([api.Disks]api.Copy{{}, {Is: true, Quilt: b}, {}})
	// A store whose rows are no quilt.
	for _, l := range [][]api.Change{
		nil,
		{{Key: "fa", Val: "0001hay"}},
		{{Key: "turn", Val: "0000"}},
		{{Key: "turn", Val: "1"}},
		{{Key: "fA", Val: "0001"}, {Key: "turn", Val: "0002"}},
		{{Key: "fabcdefg", Val: "0001"}, {Key: "turn", Val: "0002"}},
		append(image.Rows(a), api.Change{Key: "fi", Val: "0001"}),
		append(image.Rows(a), api.Change{Key: "z"}),
	} {
		rows(t, d[2], l...)
		copies([api.Disks]api.Copy{{}, {Is: true, Quilt: b}, {}})
	}
	laid(t, d[2], a)
	copies([api.Disks]api.Copy{{}, {Is: true, Quilt: b}, {Is: true, Quilt: a}})
	// On whichever disk, and of whichever size.
	d = newDisks(41, 42, 60)
	laid(t, d[1], a)
	copies([api.Disks]api.Copy{{}, {Is: true, Quilt: a}, {}})
}

// All that three disks may have: the vote says what is opened, and how many are laid.
func TestK1Open(t *testing.T) {
	quilts := []api.Quilt{filled(2, 5, "hay"), filled(2, 5, "oats"), filled(3, 7, "hay"), quilt.New()}
	for n := range 6 * 6 * 6 {
		d := newDisks(60, 42, 50)
		for i, kind := range []int{n % 6, n / 6 % 6, n / 36} {
			switch {
			case kind < len(quilts):
				laid(t, d[i], quilts[kind])
			case kind == len(quilts):
				rows(t, d[i], api.Change{Key: "z"})
			}
		}
		copies := trio.Copies(d)
		want, err := vote.Of(copies)
		before := sectors(d)
		if err != nil {
			if o, n, err := trio.Open(d); err != api.ErrText || n != 0 || o != nil {
				t.Fatalf("Open of %v: %v %d %v", copies, o, n, err)
			}
			if !slices.Equal(sectors(d), before) {
				t.Fatalf("Open writes, though there is none")
			}
			continue
		}
		wrong := len(vote.Wrong(copies, want))
		o := opened(t, d, wrong, want)
		if wrong == 0 && !slices.Equal(sectors(d), before) {
			t.Fatalf("Open writes to disks that are right")
		}
		opened(t, d, 0, want)
		scrubbed(t, o, 0)
		done(t, o, write("z", "q"))
		have(t, d, o.Quilt())
	}
}

func TestK1OpenWrong(t *testing.T) {
	q := filled(2, 5, "hay")
	for _, x := range []struct {
		sizes [api.Disks]int
		down  []int
		want  error
	}{
		{[api.Disks]int{41, 60, 60}, nil, api.ErrFull},
		{[api.Disks]int{60, 1, 60}, nil, api.ErrFull},
		{[api.Disks]int{60, 60, 41}, nil, api.ErrFull},
		{[api.Disks]int{60, 60, 60}, []int{1}, api.ErrDown},
		{[api.Disks]int{60, 60, 60}, []int{0, 2}, api.ErrDown},
		{[api.Disks]int{60, 60, 60}, []int{0, 1, 2}, api.ErrText},
		{[api.Disks]int{41, 41, 41}, nil, api.ErrText},
		{[api.Disks]int{41, 60, 60}, []int{1, 2}, api.ErrText},
		{[api.Disks]int{41, 60, 60}, []int{1}, api.ErrFull},
		{[api.Disks]int{60, 41, 60}, []int{0}, api.ErrDown},
	} {
		d := newDisks(x.sizes[:]...)
		for _, one := range d {
			if one.Sectors() >= 42 {
				laid(t, one, q)
			}
		}
		for _, i := range x.down {
			down(d[i])
		}
		if o, n, err := trio.Open(d); err != x.want || n != 0 || o != nil {
			t.Errorf("Open of %v: %v %d %v", x, o, n, err)
		}
		for i, one := range d {
			one.Restart(0)
			if c := trio.Copies(d)[i]; c.Is != (one.Sectors() >= 42) || c.Is && !quilt.Same(c.Quilt, q) {
				t.Errorf("Open of %v: disk %d has %v", x, i, c)
			}
		}
	}
}

// Disks are laid in order: those ahead of one that falls are, those behind it aren't.
func TestK1OpenInOrder(t *testing.T) {
	q, older, old := filled(2, 5, "hay"), filled(2, 3, "oats"), filled(1, 4, "oats")
	for right := range api.Disks {
		first, second := (right+1)%3, (right+2)%3
		if first > second {
			first, second = second, first
		}
		for k, i := range []int{first, second} {
			d := newDisks(60)
			laid(t, d[right], q)
			laid(t, d[first], older)
			laid(t, d[second], old)
			d[i].Arm(0)
			if o, n, err := trio.Open(d); err != api.ErrDown || n != 0 || o != nil {
				t.Fatalf("Open: %v %d %v", o, n, err)
			}
			d[i].Restart(0)
			copies := trio.Copies(d)
			if k == 0 && !quilt.Same(copies[first].Quilt, older) || k == 1 && !quilt.Same(copies[first].Quilt, q) || !quilt.Same(copies[second].Quilt, old) {
				t.Errorf("disk %d is right, disk %d falls: %v", right, i, copies)
			}
			opened(t, d, 2-k, q)
		}
	}
}

var noises = []string{"", "spoilt", "H", "o", "patchquilt", strings.Repeat("\xff", api.Sector), strings.Repeat("\x01", api.Sector)}

// Whatever stands on one disk, in whichever of its sectors.
func TestW1EachSector(t *testing.T) {
	foreign := formatted(t, 60)
	o := opened(t, foreign, 0, quilt.New())
	for i := range 40 {
		done(t, o, write(string(rune('a'+i%8)), fmt.Sprint("other ", i)))
	}
	for name, life := range lives(t) {
		t.Run(name, func(t *testing.T) {
			t.Parallel()
			q, foreign := has(life), cloned(foreign)
			before := cloned(life)
			for k := range api.Disks {
				for at := range life[k].Sectors() {
					theirs, _ := foreign[k].Read(at)
					next, _ := before[k].Read((at + 1) % life[k].Sectors())
					for _, noise := range append(noises, theirs, next) {
						d := cloned(before)
						_ = d[k].Write(at, noise)
						_ = d[k].Flush()
						wrong := len(vote.Wrong(trio.Copies(d), q))
						if wrong > 1 {
							t.Fatalf("%d are wrong", wrong)
						}
						o := opened(t, d, wrong, q)
						done(t, o, write("a", "on"))
						opened(t, d, 0, o.Quilt())
					}
				}
			}
		})
	}
}

// spoil some sectors of a disk, or all: noise, those of another one, or of the disk itself; some bits.
func spoil(r *rand.Rand, d, other *disk.Disk) {
	most := 1 + r.Intn(3)
	for at := range d.Sectors() {
		if r.Intn(3) >= most {
			continue
		}
		s, _ := d.Read(r.Intn(d.Sectors()))
		if r.Intn(2) == 0 {
			s, _ = other.Read(at)
		}
		if r.Intn(3) == 0 {
			s = noises[r.Intn(len(noises))]
		}
		if r.Intn(9) == 0 {
			b := make([]byte, r.Intn(api.Sector+1))
			_, _ = r.Read(b)
			s = string(b)
		}
		_ = d.Write(at, s)
	}
	_ = d.Flush()
}

// foul: something that may stand on a disk: spoilt sectors, or a whole store of another quilt, or of none.
func foul(t *testing.T, r *rand.Rand, d, other *disk.Disk, q api.Quilt) {
	t.Helper()
	q = quilt.Clone(q)
	switch r.Intn(8) {
	case 0:
		laid(t, d, filled(r.Intn(9), api.MaxTurn, "foreign"))
	case 1:
		laid(t, d, filled(r.Intn(9), q.Turn, "foreign"))
	case 2:
		q.Turn = 1 + r.Intn(q.Turn)
		laid(t, d, q)
	case 3:
		rows(t, d)
	default:
		spoil(r, d, other)
	}
}

// drawn: a source of numbers, disks of some sizes, and a foreign one.
func drawn(t *testing.T, seed int) (*rand.Rand, disks, *disk.Disk) {
	t.Helper()
	r := rand.New(rand.NewSource(int64(seed)))
	other := newDisks(60)[0]
	laid(t, other, filled(8, 5000, "foreign"))
	return r, formatted(t, 42+r.Intn(19), 42+r.Intn(19), 42+r.Intn(19)), other
}

// One disk behind the other, again and again.
func TestW1Again(t *testing.T) {
	for seed := range 12 {
		t.Run(fmt.Sprint(seed), func(t *testing.T) {
			t.Parallel()
			r, d, other := drawn(t, seed)
			want := quilt.New()
			for range 300 {
				k := r.Intn(api.Disks)
				foul(t, r, d[k], other, want)
				wrong := vote.Wrong(trio.Copies(d), want)
				if len(wrong) > 1 {
					t.Fatalf("%v are wrong", wrong)
				}
				o := opened(t, d, len(wrong), want)
				for range r.Intn(4) {
					done(t, o, write(string(rune('a'+r.Intn(8))), fmt.Sprint(r.Intn(99))))
				}
				want = o.Quilt()
				have(t, d, want)
			}
		})
	}
}

// Two outvote one, wherever it stands, whatever it has.
func TestW4(t *testing.T) {
	q := filled(4, 50, "hay")
	for k := range api.Disks {
		for _, bad := range []api.Quilt{quilt.New(), filled(4, 50, "oats"), filled(4, 51, "hay"), filled(4, 49, "hay"), filled(8, api.MaxTurn, "foreign"), filled(3, 50, "hay")} {
			for _, wide := range []int{60, 42} {
				d := newDisks(wide)
				for i := range d {
					laid(t, d[i], q)
				}
				laid(t, d[k], bad)
				opened(t, d, 1, q)
			}
		}
	}
}

func TestK2Do(t *testing.T) {
	d := formatted(t, 60)
	o := opened(t, d, 0, quilt.New())
	for i, x := range []struct {
		w       what
		want    api.Quilt
		changes int
	}{
		{write("b", "hay"), api.Quilt{Files: []api.File{{Name: "b", Text: "hay", Times: 1}}, Turn: 2}, 2},
		{write("a", ""), api.Quilt{Files: []api.File{{Name: "a", Times: 1}, {Name: "b", Text: "hay", Times: 1}}, Turn: 3}, 2},
		{func(q api.Quilt) (api.Quilt, error) { return quilt.Swap(q, "a", "b") }, api.Quilt{Files: []api.File{{Name: "a", Text: "hay", Times: 2}, {Name: "b", Times: 2}}, Turn: 4}, 3},
		{func(q api.Quilt) (api.Quilt, error) { return quilt.Rename(q, "b", "c") }, api.Quilt{Files: []api.File{{Name: "a", Text: "hay", Times: 2}, {Name: "c", Times: 2}}, Turn: 5}, 3},
		{func(q api.Quilt) (api.Quilt, error) { return quilt.Drop(q, "a") }, api.Quilt{Files: []api.File{{Name: "c", Times: 2}}, Turn: 6}, 2},
		// Nothing, and what was long ago, may be done as well.
		{func(q api.Quilt) (api.Quilt, error) { return q, nil }, api.Quilt{Files: []api.File{{Name: "c", Times: 2}}, Turn: 6}, 0},
		{be(quilt.New()), quilt.New(), 2},
		{be(filled(8, api.MaxTurn, strings.Repeat("z", 12))), filled(8, api.MaxTurn, strings.Repeat("z", 12)), 9},
	} {
		var room [api.Disks]int
		for i, one := range d {
			s, _ := store.Open(one)
			room[i] = s.Room()
		}
		if err := o.Do(x.w); err != nil || !quilt.Same(o.Quilt(), x.want) {
			t.Fatalf("Do %d: %v %v, want %v", i, o.Quilt(), err, x.want)
		}
		have(t, d, x.want)
		for i, one := range d {
			if s, _ := store.Open(one); s.Room() != room[i]-x.changes-1 && room[i] > x.changes {
				t.Errorf("disk %d has room %d, it had %d", i, s.Room(), room[i])
			}
		}
	}
	opened(t, d, 0, o.Quilt())
}

// What goes wrong is told as it is, and changes nothing.
func TestK2Wrong(t *testing.T) {
	mine := errors.New("mine")
	d := formatted(t, 60)
	o := opened(t, d, 0, quilt.New())
	done(t, o, be(filled(8, 40, "hay")))
	was, before := o.Quilt(), sectors(d)
	others := filled(8, 41, "oats")
	for i := range others.Files {
		others.Files[i].Name = string(rune('a' + i))
	}
	nine := filled(9, 41, "hay")
	unsorted := filled(2, 41, "hay")
	slices.Reverse(unsorted.Files)
	twice := filled(2, 41, "hay")
	twice.Files[1].Name = twice.Files[0].Name
	never := filled(2, 41, "hay")
	never.Files[1].Times = 0
	for why, x := range map[string]struct {
		w    what
		want error
	}{
		"an error":                      {write("abcdefg", ""), api.ErrMany},
		"another one":                   {write("x", ""), api.ErrFull},
		"one of its own":                {func(api.Quilt) (api.Quilt, error) { return quilt.New(), mine }, mine},
		"too many changes":              {be(others), api.ErrMany},
		"a quilt of nothing":            {be(api.Quilt{}), api.ErrBound},
		"too many turns":                {be(api.Quilt{Turn: api.MaxTurn + 1}), api.ErrBound},
		"too many files":                {be(nine), api.ErrMany},
		"files that fall":               {be(unsorted), api.ErrShape},
		"a file twice":                  {be(twice), api.ErrShape},
		"one that was never written":    {be(never), api.ErrBound},
		"a name that may not be":        {be(api.Quilt{Files: []api.File{{Name: "A", Times: 1}}, Turn: 41}), api.ErrShape},
		"no name":                       {be(api.Quilt{Files: []api.File{{Times: 1}}, Turn: 41}), api.ErrShape},
		"a text that is too long":       {be(filled(1, 41, strings.Repeat("z", 13))), api.ErrMany},
		"a panic":                       {func(api.Quilt) (api.Quilt, error) { panic("mine") }, api.ErrShape},
		"a panic behind what is done":   {func(q api.Quilt) (api.Quilt, error) { q.Files[0].Text = "no"; return q, []error{}[q.Turn] }, api.ErrShape},
		"nothing that could be done":    {nil, api.ErrShape},
		"what it has, but an error too": {func(q api.Quilt) (api.Quilt, error) { q.Turn++; return q, api.ErrNone }, api.ErrNone},
	} {
		if err := o.Do(x.w); err != x.want {
			t.Errorf("%s: %v, want %v", why, err, x.want)
		}
		if !quilt.Same(o.Quilt(), was) || !slices.Equal(sectors(d), before) {
			t.Fatalf("%s: it was %v, it is %v", why, was, o.Quilt())
		}
	}
	// What is done is told ahead of a disk that is down.
	for _, one := range d {
		one.Arm(0)
	}
	if err := o.Do(write("abcdefg", "")); err != api.ErrMany || d[0].Down() {
		t.Errorf("%v", err)
	}
	if err := o.Do(be(others)); err != api.ErrMany || d[0].Down() {
		t.Errorf("%v", err)
	}
	for _, one := range d {
		one.Restart(0)
	}
	done(t, o, write("abcdea", "on"))
	opened(t, d, 0, o.Quilt())
}

// inOrder: the disks ahead of one that fell have a quilt, it and those behind it another one.
func inOrder(t *testing.T, d disks, k int, ahead, behind api.Quilt) {
	t.Helper()
	for i, c := range trio.Copies(d) {
		want := behind
		if i < k {
			want = ahead
		}
		if !quilt.Same(c.Quilt, want) {
			t.Errorf("disk %d falls: disk %d has %v", k, i, c)
		}
	}
}

// Each disk has it ahead of the next one.
func TestK2InOrder(t *testing.T) {
	for k := range api.Disks {
		d := formatted(t, 60)
		o := opened(t, d, 0, quilt.New())
		done(t, o, write("a", "hay"))
		was := o.Quilt()
		become, _ := quilt.Write(was, "b", "oats")
		d[k].Arm(0)
		if err := o.Do(write("b", "oats")); err != api.ErrDown {
			t.Fatalf("Do: %v", err)
		}
		d[k].Restart(0)
		inOrder(t, d, k, become, was)
		want := was
		if k == 2 {
			want = become
		}
		opened(t, d, min(k, 1), want)
	}
}

// What is done may do something itself.
func TestK2Inside(t *testing.T) {
	d := formatted(t, 60)
	o := opened(t, d, 0, quilt.New())
	err := o.Do(func(q api.Quilt) (api.Quilt, error) {
		done(t, o, write("in", "side"))
		scrubbed(t, o, 0)
		laid(t, d[1], o.Quilt())
		return quilt.Write(q, "out", "side")
	})
	want := api.Quilt{Files: []api.File{{Name: "out", Text: "side", Times: 1}}, Turn: 2}
	if err != nil || !quilt.Same(o.Quilt(), want) {
		t.Errorf("%v %v", o.Quilt(), err)
	}
	opened(t, d, 0, want)
}

func TestK3Scrub(t *testing.T) {
	for n := range 8 {
		d := formatted(t, 60, 42, 50)
		o := opened(t, d, 0, quilt.New())
		done(t, o, write("a", "hay"))
		wrong := 0
		for i, one := range d {
			if n>>i&1 == 1 {
				wrong++
				laid(t, one, filled(i, 9+i, "foreign"))
			}
		}
		before := sectors(d)
		scrubbed(t, o, wrong)
		have(t, d, o.Quilt())
		if n == 0 && !slices.Equal(sectors(d), before) {
			t.Errorf("Scrub writes to disks that are right")
		}
		scrubbed(t, o, 0)
		done(t, o, write("b", "oats"))
		opened(t, d, 0, o.Quilt())
	}
}

func TestK3ScrubWrong(t *testing.T) {
	for k := range api.Disks {
		d := formatted(t, 60)
		o := opened(t, d, 0, quilt.New())
		done(t, o, write("a", "hay"))
		for _, one := range d {
			laid(t, one, filled(1, 2, "foreign"))
		}
		d[k].Arm(0)
		if n, err := o.Scrub(); err != api.ErrDown || n != 0 {
			t.Errorf("Scrub: %d %v", n, err)
		}
		d[k].Restart(0)
		inOrder(t, d, k, o.Quilt(), filled(1, 2, "foreign"))
	}
}

// While one disk is wrong what is done goes on, and it is laid anew by nothing but a scrub.
func TestK3GoesOn(t *testing.T) {
	for k := range api.Disks {
		d := formatted(t, 60)
		o := opened(t, d, 0, quilt.New())
		done(t, o, write("a", "hay"))
		_ = d[k].Write(0, "spoilt")
		_ = d[k].Write(1, "spoilt")
		_ = d[k].Flush()
		for i := range 5 {
			done(t, o, write("b", fmt.Sprint(i)))
			for i, c := range trio.Copies(d) {
				if c.Is != (i != k) || c.Is && !quilt.Same(c.Quilt, o.Quilt()) {
					t.Fatalf("disk %d has %v", i, c)
				}
			}
		}
		opened(t, cloned(d), 1, o.Quilt())
		scrubbed(t, o, 1)
		have(t, d, o.Quilt())
		done(t, o, write("c", "on"))
		opened(t, d, 0, o.Quilt())
	}
}

// Others have one of the disks too, and lay there what they have.
func TestK3Others(t *testing.T) {
	for k := range api.Disks {
		for m := range api.Disks {
			d, theirs := formatted(t, 60), formatted(t, 50)
			theirs[m] = d[k]
			o := opened(t, d, 0, quilt.New())
			p := opened(t, theirs, 0, quilt.New())
			for i := range 60 {
				switch i % 7 {
				case 3:
					if _, err := o.Scrub(); err != nil {
						t.Fatal(err)
					}
					have(t, d, o.Quilt())
				case 5:
					if _, err := p.Scrub(); err != nil {
						t.Fatal(err)
					}
					have(t, theirs, p.Quilt())
				}
				done(t, o, write("mine", fmt.Sprint(i)))
				done(t, p, write("their", fmt.Sprint(i%10)))
				done(t, p, write("their"+string(rune('a'+i%7)), fmt.Sprint(i)))
				for i, c := range trio.Copies(d) {
					if i != k && (!c.Is || !quilt.Same(c.Quilt, o.Quilt())) {
						t.Fatalf("disk %d has %v", i, c)
					}
				}
				c := cloned(d)
				opened(t, c, len(vote.Wrong(trio.Copies(c), o.Quilt())), o.Quilt())
			}
		}
	}
}

// Others lay the same quilt anew, on one disk behind the other: all have it all the while, and have what is done then.
func TestK3SameLaidAnew(t *testing.T) {
	for _, scrub := range []bool{false, true} {
		for n := range 27 {
			d := formatted(t, 60, 50, 42)
			o := opened(t, d, 0, quilt.New())
			for i := range 1 + n {
				done(t, o, write(string(rune('a'+i%4)), fmt.Sprint(i)))
			}
			for _, k := range []int{n % 3, n / 3 % 3, n / 9} {
				laid(t, d[k], o.Quilt())
				if scrub {
					scrubbed(t, o, 0)
				}
			}
			for i := range 20 {
				done(t, o, write("b", fmt.Sprint(i)))
				have(t, d, o.Quilt())
			}
			opened(t, d, 0, o.Quilt())
		}
	}
}

// What is scrubbed is right, while all goes on: whatever stands on one disk, or is laid there, and then on another one.
func TestW2(t *testing.T) {
	for seed := range 16 {
		t.Run(fmt.Sprint(seed), func(t *testing.T) {
			t.Parallel()
			r, d, other := drawn(t, seed)
			o := opened(t, d, 0, quilt.New())
			k := r.Intn(api.Disks)
			for range 600 {
				switch r.Intn(9) {
				case 0:
					foul(t, r, d[k], other, o.Quilt())
				case 1:
					laid(t, d[k], o.Quilt())
				case 2, 3:
					wrong := len(vote.Wrong(trio.Copies(d), o.Quilt()))
					if r.Intn(3) == 0 {
						o = opened(t, d, wrong, o.Quilt())
					} else {
						scrubbed(t, o, wrong)
					}
					have(t, d, o.Quilt())
					k = r.Intn(api.Disks)
				default:
					done(t, o, write(string(rune('a'+r.Intn(8))), fmt.Sprint(r.Intn(99))))
				}
				if wrong := vote.Wrong(trio.Copies(d), o.Quilt()); len(wrong) > 1 || len(wrong) == 1 && wrong[0] != k {
					t.Fatalf("%v are wrong, not %d", wrong, k)
				}
			}
			want := o.Quilt()
			opened(t, d, len(vote.Wrong(trio.Copies(d), want)), want)
		})
	}
}

// What comes out, and what is handed to what is done, is the caller's, also later; so is what is answered there.
func TestZ2(t *testing.T) {
	d := formatted(t, 60)
	o := opened(t, d, 0, quilt.New())
	done(t, o, be(filled(2, 5, "hay")))
	want := o.Quilt()
	unchanged := func(why string) {
		t.Helper()
		if !quilt.Same(o.Quilt(), want) {
			t.Fatalf("%s: %v", why, o.Quilt())
		}
		scrubbed(t, o, 0)
	}
	got := o.Quilt()
	got.Files[0].Text = "mine"
	_ = append(got.Files[:1], api.File{Name: "mine"})
	unchanged("Quilt")
	c := trio.Copies(d)
	c[1].Quilt.Files[0].Text = "mine"
	unchanged("Copies")
	var handed api.Quilt
	_ = o.Do(func(q api.Quilt) (api.Quilt, error) {
		q.Files[0].Text = "mine"
		handed = q
		return q, api.ErrNone
	})
	handed.Files[1].Text = "mine"
	unchanged("what is handed in")
	done(t, o, func(q api.Quilt) (api.Quilt, error) { return q, nil })
	unchanged("nothing is done")
	behind := []api.File{{Name: "a", Text: "hay", Times: 1}, {Name: "b", Text: "behind", Times: 1}}
	want = api.Quilt{Files: behind[:1:1], Turn: 6}
	want = quilt.Clone(want)
	done(t, o, be(api.Quilt{Files: behind[:1], Turn: 6}))
	unchanged("what stands behind is nothing")
	behind[0].Text = "mine"
	unchanged("what is answered")
	// And a trio is one of its disks alone, however many there are.
	other := opened(t, formatted(t, 60), 0, quilt.New())
	done(t, other, write("x", "y"))
	unchanged("another trio")
	opened(t, d, 0, want)
}
