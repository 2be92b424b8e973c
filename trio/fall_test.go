package trio_test

import (
	"fmt"
	"math"
	"math/rand"
	"strings"
	"testing"

	"patchquilt/api"
	"patchquilt/disk"
	"patchquilt/quilt"
	"patchquilt/trio"
)

// keeps: all that so many open Writes may leave, or some of them if these are too many to be tried.
func keeps(open int) []uint64 {
	var all []uint64
	if open <= 6 {
		for keep := range uint64(1 << open) {
			all = append(all, keep)
		}
		return all
	}
	r := rand.New(rand.NewSource(94))
	all = []uint64{0, math.MaxUint64}
	for i := range open {
		all = append(all, 1<<i, math.MaxUint64^1<<i, 1<<i-1)
	}
	for range 20 {
		all = append(all, r.Uint64())
	}
	return all
}

// falls: something is done, and falls at every step at which one of the disks can, with all that is kept then; what is there behind it is asked. It tells how many steps there were.
func falls(t *testing.T, life disks, k, open int, something func(disks) func() error, ask func(string, disks)) int {
	t.Helper()
	asked := map[string]bool{} // what is the same on all disks is asked once
	for step := 0; ; step++ {
		for _, keep := range keeps(open) {
			d := cloned(life)
			do := something(d)
			d[k].Arm(step)
			err := do()
			if err == nil {
				return step
			}
			if err != api.ErrDown || !d[k].Down() {
				t.Fatalf("disk %d falls at step %d: %v", k, step, err)
			}
			d[k].Restart(keep)
			if all := strings.Join(sectors(d), ""); !asked[all] {
				asked[all] = true
				ask(fmt.Sprintf("disk %d falls at step %d, %b is kept", k, step, keep), d)
			}
		}
	}
}

// either: what is opened is one of two quilts, and not more than so many disks have to be laid anew; all is well then.
func either(t *testing.T, why string, d disks, most int, was, become api.Quilt) {
	t.Helper()
	o, n, err := trio.Open(d)
	if err != nil || n > most || !quilt.Same(o.Quilt(), was) && !quilt.Same(o.Quilt(), become) {
		t.Fatalf("%s: %v %d %v, it was %v, and would have become %v", why, o, n, err, was, become)
	}
	have(t, d, o.Quilt())
	done(t, o, func(q api.Quilt) (api.Quilt, error) {
		q.Turn--
		return q, nil
	})
	opened(t, d, 0, o.Quilt())
}

// grown: disks that have a quilt of four files, behind so many turns.
func grown(t *testing.T, turns, size int) (disks, api.Quilt) {
	t.Helper()
	d := formatted(t, size)
	o := opened(t, d, 0, quilt.New())
	for i := range turns {
		done(t, o, write(string(rune('a'+i%4)), fmt.Sprint("turn ", i)))
	}
	return d, o.Quilt()
}

// A fall in Do: of every disk, at every step, with all that is kept.
func TestW3Do(t *testing.T) {
	swap := func(q api.Quilt) (api.Quilt, error) { return quilt.Swap(q, "b", "a") }
	for name, x := range map[string]struct {
		turns, size, open int
		w                 what
		steps             int // at least; a write alone has fewer than one that lays all ahead of it
	}{
		"the first write":            {1, 60, 4, write("a", "hay"), 9},
		"a write":                    {5, 60, 4, write("a", "hay"), 9},
		"a drop":                     {5, 50, 4, func(q api.Quilt) (api.Quilt, error) { return quilt.Drop(q, "b") }, 9},
		"a new name":                 {5, 60, 5, func(q api.Quilt) (api.Quilt, error) { return quilt.Rename(q, "b", "z") }, 11},
		"a swap":                     {5, 60, 5, swap, 11},
		"nothing":                    {5, 60, 2, func(q api.Quilt) (api.Quilt, error) { return q, nil }, 5},
		"much":                       {5, 60, 15, be(filled(8, 77, "hay")), 29},
		"what was long ago":          {5, 60, 7, be(api.Quilt{Turn: 2}), 15},
		"a write to the last sector": {4, 43, 3, write("a", "hay"), 8},
		"a write that lays all":      {5, 43, 5, write("a", "hay"), 19},
		"a write that lays it back":  {10, 43, 5, write("a", "hay"), 19},
		"a write that lays it again": {15, 43, 5, write("a", "hay"), 19},
		"a swap that lays all":       {10, 60, 5, swap, 21},
	} {
		t.Run(name, func(t *testing.T) {
			t.Parallel()
			life, was := grown(t, x.turns, x.size)
			become, err := x.w(quilt.Clone(was))
			if err != nil {
				t.Fatal(err)
			}
			for k := range api.Disks {
				steps := falls(t, life, k, x.open, func(d disks) func() error {
					o, _, err := trio.Open(d)
					if err != nil {
						t.Fatal(err)
					}
					return func() error { return o.Do(x.w) }
				}, func(why string, d disks) {
					for i, c := range trio.Copies(d) {
						if !c.Is || i < k && !quilt.Same(c.Quilt, become) || i > k && !quilt.Same(c.Quilt, was) {
							t.Fatalf("%s: disk %d has %v", why, i, c)
						}
					}
					either(t, why, d, 1, was, become)
				})
				if steps < x.steps {
					t.Errorf("disk %d: %d steps", k, steps)
				}
			}
		})
	}
}

// overwrite a disk with what is on another one.
func overwrite(d, other *disk.Disk) {
	for at := range d.Sectors() {
		s, _ := other.Read(at)
		_ = d.Write(at, s)
	}
	_ = d.Flush()
}

// wrongs: what may stand on a disk that is laid anew.
func wrongs(t *testing.T, turn int) map[string]*disk.Disk {
	t.Helper()
	all := map[string]*disk.Disk{"noughts": newDisks(60)[0], "noise": newDisks(60)[0], "an empty store": newDisks(60)[0]}
	for at := range 60 {
		_ = all["noise"].Write(at, "spoilt")
	}
	rows(t, all["an empty store"])
	for name, q := range map[string]api.Quilt{
		"a foreign one":        filled(3, api.MaxTurn, "foreign"),
		"one of the same turn": filled(3, turn, "foreign"),
		"an older one":         filled(3, 2, "foreign"),
	} {
		all[name] = newDisks(60)[0]
		laid(t, all[name], q)
	}
	// Stores that had much laid, so that more is left there than what counts.
	for name, turns := range map[string]int{"a side": 14, "the other side": 25} {
		d, _ := grown(t, turns, 60)
		all[name] = d[0]
		all[name+", spoilt"] = cloned(d)[0]
		_ = all[name+", spoilt"].Write(27, "spoilt")
	}
	return all
}

// A fall while one disk is laid anew, by who opens them, and by who scrubs them.
func TestW3LaidAnew(t *testing.T) {
	for _, files := range []int{0, 2, api.MaxFiles} {
		q := filled(files, 5, "hay")
		for name, bad := range wrongs(t, q.Turn) {
			if files == api.MaxFiles && name != "a foreign one" {
				continue // there are too many steps to try all
			}
			t.Run(fmt.Sprint(name, ", ", files), func(t *testing.T) {
				t.Parallel()
				life := newDisks(60)
				for _, one := range life {
					laid(t, one, q)
				}
				ask := func(why string, d disks) { either(t, why, d, 1, q, q) }
				for k := range api.Disks {
					opens := falls(t, life, k, files+3, func(d disks) func() error {
						overwrite(d[k], bad)
						return func() error {
							_, _, err := trio.Open(d)
							return err
						}
					}, ask)
					scrubs := falls(t, life, k, files+3, func(d disks) func() error {
						o, _, err := trio.Open(d)
						if err != nil {
							t.Fatal(err)
						}
						overwrite(d[k], bad)
						return func() error {
							_, err := o.Scrub()
							return err
						}
					}, ask)
					if opens < 11+2*files || opens != scrubs {
						t.Errorf("disk %d: %d and %d steps", k, opens, scrubs)
					}
				}
			})
		}
	}
}

// A fall while two disks are laid anew, since no two have the same: the right one is the right one still.
func TestW3TwoLaidAnew(t *testing.T) {
	q := filled(1, 50, "hay")
	all := wrongs(t, 49)
	for _, names := range [][2]string{
		{"noughts", "an empty store"},
		{"an older one", "noise"},
		{"one of the same turn", "an older one"},
		{"a side", "the other side"},
		{"the other side, spoilt", "a side, spoilt"},
	} {
		t.Run(names[0]+", "+names[1], func(t *testing.T) {
			t.Parallel()
			for right := range api.Disks {
				life := newDisks(60)
				laid(t, life[right], q)
				overwrite(life[(right+1)%3], all[names[0]])
				overwrite(life[(right+2)%3], all[names[1]])
				for k := range api.Disks {
					if k == right {
						continue
					}
					falls(t, life, k, 4, func(d disks) func() error {
						return func() error {
							_, _, err := trio.Open(d)
							return err
						}
					}, func(why string, d disks) { either(t, why, d, 2, q, q) })
				}
			}
		})
	}
}

// A fall in Format: they have what they had, or a new quilt.
func TestW3Format(t *testing.T) {
	for _, turns := range []int{1, 5, 14, 25} {
		life, was := grown(t, turns, 60)
		for k := range api.Disks {
			steps := falls(t, life, k, 3, func(d disks) func() error {
				return func() error { return trio.Format(d) }
			}, func(why string, d disks) {
				c := cloned(d)
				o, _, err := trio.Open(c)
				if err != nil || !quilt.Same(o.Quilt(), was) && !quilt.Same(o.Quilt(), quilt.New()) {
					t.Fatalf("%s: %v %v", why, o, err)
				}
				have(t, c, o.Quilt())
				if err := trio.Format(d); err != nil {
					t.Fatal(err)
				}
				have(t, d, quilt.New())
			})
			if steps < 13 {
				t.Errorf("%d steps", steps)
			}
		}
	}
}

// A long life: disks fall, one at a time, in whatever is done, and are spoilt when all is well.
func TestW3Drawn(t *testing.T) {
	for seed := range 16 {
		t.Run(fmt.Sprint(seed), func(t *testing.T) {
			t.Parallel()
			r, d, other := drawn(t, seed)
			o := opened(t, d, 0, quilt.New())
			was := o.Quilt()
			for range 400 {
				w := write(string(rune('a'+r.Intn(8))), fmt.Sprint(r.Intn(99)))
				become := was
				k := r.Intn(api.Disks)
				if r.Intn(4) == 0 {
					foul(t, r, d[k], other, was)
				}
				d[k].Arm(r.Intn(40))
				var err error
				switch r.Intn(6) {
				case 0:
					_, err = o.Scrub()
				case 1:
					_, _, err = trio.Open(d)
				default:
					if _, err = o.Scrub(); err == nil {
						become, _ = w(quilt.Clone(was))
						err = o.Do(w)
					}
				}
				if err != nil && err != api.ErrDown {
					t.Fatal(err)
				}
				if err == nil {
					was = become
				}
				d[k].Restart(r.Uint64())
				o, _, err = trio.Open(d)
				if err != nil || !quilt.Same(o.Quilt(), was) && !quilt.Same(o.Quilt(), become) {
					t.Fatalf("%v %v, it was %v, and would have become %v", o, err, was, become)
				}
				was = o.Quilt()
				have(t, d, was)
			}
		})
	}
}
