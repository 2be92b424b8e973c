package shelf_test

import (
	"math"
	"slices"
	"strings"
	"testing"

	"patchquilt/api"
	"patchquilt/shelf"
)

func named(names ...string) []api.File {
	l := []api.File{}
	for i, n := range names {
		l = append(l, api.File{Name: n, Text: "t" + n, Times: i + 1})
	}
	return l
}

func full() []api.File { return named("b", "c", "d", "e", "f", "g", "h", "i") }

// someOf: all lists of files out of nine names, up to MaxFiles of them, rising.
func someOf() [][]api.File {
	var out [][]api.File
	for bits := range 1 << 9 {
		var names []string
		for i := range 9 {
			if bits>>i&1 == 1 {
				names = append(names, string(rune('b'+2*i)))
			}
		}
		if len(names) <= api.MaxFiles {
			out = append(out, named(names...))
		}
	}
	return out
}

// spared: the same files, with others behind them in memory.
func spared(l []api.File, behind string) []api.File {
	m := make([]api.File, 0, len(l)+3)
	m = append(m, l...)
	rest := m[len(l):cap(m)]
	for i := range rest {
		rest[i] = api.File{Name: behind, Text: behind, Times: 7}
	}
	return m
}

// unspoilt: is the list as it was, and what stands behind it too?
func unspoilt(t *testing.T, what string, l, was []api.File, behind string) {
	t.Helper()
	if !slices.Equal(l, was) {
		t.Errorf("%s: the list that was handed in is %v, it was %v", what, l, was)
	}
	for _, f := range l[len(l):cap(l)] {
		if f != (api.File{Name: behind, Text: behind, Times: 7}) {
			t.Errorf("%s: %v was written behind the list", what, f)
		}
	}
}

// byHand: what Put, or Drop (Times is 0), should make of files, by a map and sorting.
func byHand(l []api.File, f api.File) []api.File {
	m := map[string]api.File{}
	for _, g := range l {
		m[g.Name] = g
	}
	m[f.Name] = f
	if f.Times == 0 {
		delete(m, f.Name)
	}
	var out []api.File
	for _, g := range m {
		out = append(out, g)
	}
	slices.SortFunc(out, func(a, b api.File) int { return strings.Compare(a.Name, b.Name) })
	return out
}

func has(l []api.File, name string) bool {
	return slices.ContainsFunc(l, func(f api.File) bool { return f.Name == name })
}

func TestB1(t *testing.T) {
	for _, l := range someOf() {
		for _, f := range l {
			if g, is := shelf.Get(l, f.Name); !is || g != f {
				t.Errorf("Get(%v, %q): %v %v", l, f.Name, g, is)
			}
		}
		for _, name := range []string{"", "a", "b", "c", "bb", "r", "s", "zz", "B", "-", "abcdefg", "\xff"} {
			if has(l, name) {
				continue
			}
			if g, is := shelf.Get(l, name); is || g != (api.File{}) {
				t.Errorf("Get(%v, %q): %v %v, there is none", l, name, g, is)
			}
		}
	}
	if g, is := shelf.Get(nil, "a"); is || g != (api.File{}) {
		t.Errorf("Get(nil): %v %v", g, is)
	}
}

func TestB1Behind(t *testing.T) {
	for _, behind := range []string{"z", "a"} {
		l := spared(named("b", "c"), behind)
		if f, is := shelf.Get(l, behind); is {
			t.Errorf("Get: %v, that stands behind the list", f)
		}
	}
}

func TestB2Put(t *testing.T) {
	for _, l := range someOf() {
		for _, name := range []string{"a", "b", "c", "bb", "h", "i", "r", "s", "zz", "0", "abcdef"} {
			f := api.File{Name: name, Text: "new", Times: 9}
			got, err := shelf.Put(l, f)
			if len(l) == api.MaxFiles && !has(l, name) {
				if err != api.ErrFull || len(got) != 0 {
					t.Errorf("Put(%v, %v): %v %v, want ErrFull", l, f, got, err)
				}
				continue
			}
			if err != nil || !slices.Equal(got, byHand(l, f)) {
				t.Errorf("Put(%v, %v): %v %v", l, f, got, err)
			}
			if err := shelf.Check(got); err != nil {
				t.Errorf("Put(%v, %v): %v may not be: %v", l, f, got, err)
			}
		}
	}
}

func TestB2PutErrors(t *testing.T) {
	long := strings.Repeat("x", api.MaxText+1)
	for _, l := range [][]api.File{nil, named("b"), full()} { // Check's error is told also of a full list
		for _, c := range []struct {
			f    api.File
			want error
		}{
			{api.File{Name: "", Times: 1}, api.ErrShape},
			{api.File{Name: "B", Times: 1}, api.ErrShape},
			{api.File{Name: "bbbbbbb", Times: 1}, api.ErrMany},
			{api.File{Name: "b", Text: long, Times: 1}, api.ErrMany},
			{api.File{Name: "x", Text: long, Times: 1}, api.ErrMany},
			{api.File{Name: "b", Times: 0}, api.ErrBound},
			{api.File{Name: "x", Times: api.MaxTurn + 1}, api.ErrBound},
			{api.File{Name: "x", Times: math.MinInt}, api.ErrBound},
		} {
			was := slices.Clone(l)
			if got, err := shelf.Put(l, c.f); err != c.want || len(got) != 0 {
				t.Errorf("Put(%v, %v): %v %v, want %v", l, c.f, got, err, c.want)
			}
			if !slices.Equal(l, was) {
				t.Errorf("Put(%v, %v): an error changed the list", was, c.f)
			}
		}
	}
}

func TestB2Drop(t *testing.T) {
	for _, l := range someOf() {
		for _, name := range []string{"", "a", "b", "c", "d", "j", "r", "s", "B", "abcdefg"} {
			got, err := shelf.Drop(l, name)
			if !has(l, name) {
				if err != api.ErrNone || len(got) != 0 {
					t.Errorf("Drop(%v, %q): %v %v, want ErrNone", l, name, got, err)
				}
				continue
			}
			if err != nil || !slices.Equal(got, byHand(l, api.File{Name: name})) {
				t.Errorf("Drop(%v, %q): %v %v", l, name, got, err)
			}
		}
	}
}

func TestB3(t *testing.T) {
	long := strings.Repeat("x", api.MaxText+1)
	bad := func(l []api.File, at int, f api.File) []api.File { l[at] = f; return l }
	nine := named("b", "c", "d", "e", "f", "g", "h", "i", "j")
	for _, c := range []struct {
		l    []api.File
		want error
	}{
		{nil, nil},
		{[]api.File{}, nil},
		{named("a"), nil},
		{named("0", "9", "a", "aa", "ab", "b"), nil},
		{full(), nil},
		{nine, api.ErrMany},
		{slices.Repeat(nine, 100), api.ErrMany},
		{bad(slices.Clone(nine), 0, api.File{}), api.ErrMany}, // ahead of the first one's error
		{named("a", "a"), api.ErrShape},
		{named("b", "a"), api.ErrShape},
		{named("a", "c", "b"), api.ErrShape},
		{named("aa", "a"), api.ErrShape},
		{named("a", "0"), api.ErrShape},
		{named("", "a"), api.ErrShape},
		{named("a", "bbbbbbb"), api.ErrMany},
		{bad(full(), 7, api.File{Name: "i", Text: long, Times: 1}), api.ErrMany},
		{bad(full(), 7, api.File{Name: "i", Times: 0}), api.ErrBound},
		{bad(full(), 0, api.File{Name: "b", Times: api.MaxTurn + 1}), api.ErrBound},
		// Of one file its own error is told ahead of its order; of several the first one's.
		{bad(named("b", "c"), 1, api.File{Name: "a", Times: 0}), api.ErrBound},
		{bad(named("b", "c"), 1, api.File{Name: "a", Text: long, Times: 1}), api.ErrMany},
		{bad(named("b", "a", "c"), 2, api.File{Name: "c", Times: 0}), api.ErrShape},
		{bad(named("b", "c", "a"), 1, api.File{Name: "c", Times: 0}), api.ErrBound},
	} {
		if err := shelf.Check(c.l); err != c.want {
			t.Errorf("Check(%v): %v, want %v", c.l, err, c.want)
		}
	}
}

func TestB3Behind(t *testing.T) {
	for _, behind := range []string{"", "a", "z"} {
		if err := shelf.Check(spared(full(), behind)); err != nil {
			t.Errorf("Check: %v, of what stands behind the list", err)
		}
	}
}

// TestZ2: what is handed in stays, also behind its end, and what comes out shares nothing with it.
func TestZ2(t *testing.T) {
	for _, l := range someOf() {
		for _, behind := range []string{"a", "z"} {
			for _, name := range []string{"a", "b", "d", "e", "r", "t"} {
				m := spared(l, behind)
				put, errPut := shelf.Put(m, api.File{Name: name, Text: "new", Times: 9})
				drop, errDrop := shelf.Drop(m, name)
				again, _ := shelf.Put(l, api.File{Name: name, Text: "new", Times: 9})
				if !slices.Equal(put, again) {
					t.Errorf("Put(%v, %q): %v, or %v, as something stands behind", l, name, put, again)
				}
				shelf.Get(m, name)
				shelf.Check(m)
				unspoilt(t, "calls", m, l, behind)
				for i := range put {
					put[i] = api.File{Name: "mine"}
				}
				for i := range drop {
					drop[i] = api.File{Name: "mine"}
				}
				_ = append(put, api.File{Name: "mine"})
				_ = append(drop, api.File{Name: "mine"})
				unspoilt(t, "writing into what came out", m, l, behind)
				if (errPut != nil && put != nil) || (errDrop != nil && drop != nil) {
					t.Errorf("a list beside an error: %v %v", put, drop)
				}
			}
		}
	}
}
