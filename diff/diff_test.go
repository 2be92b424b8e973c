package diff_test

import (
	"fmt"
	"math/rand"
	"slices"
	"strings"
	"testing"

	"patchquilt/api"
	"patchquilt/diff"
	"patchquilt/quilt"
)

func f(name, text string, times int) api.File {
	return api.File{Name: name, Text: text, Times: times}
}

func of(turn int, l ...api.File) api.Quilt { return api.Quilt{Files: l, Turn: turn} }

// drawn: some quilt of nine names; many of two are the same in some files.
func drawn(r *rand.Rand) api.Quilt {
	q := of(1 + r.Intn(api.MaxTurn))
	for i := range 9 {
		if len(q.Files) < api.MaxFiles && r.Intn(3) > 0 {
			q.Files = append(q.Files, f(string(rune('a'+i)), []string{"", "hay"}[r.Intn(2)], 1+r.Intn(2)))
		}
	}
	return q
}

// byHand: files by their names, and back.
func byHand(q api.Quilt) map[string]api.File {
	m := map[string]api.File{}
	for _, f := range q.Files {
		m[f.Name] = f
	}
	return m
}

func rising(m map[string]api.File) []api.File {
	var l []api.File
	for _, f := range m {
		l = append(l, f)
	}
	slices.SortFunc(l, func(a, b api.File) int { return strings.Compare(a.Name, b.Name) })
	return l
}

func TestD1(t *testing.T) {
	a, b, c := f("a", "hay", 1), f("b", "oats", 2), f("c", "", 3)
	for _, x := range []struct {
		a, b api.Quilt
		want []string
	}{
		{of(1), of(1), nil},
		{of(1), of(2), nil}, // turns are no files
		{of(1, a, b, c), of(9, a, b, c), nil},
		{of(1, a, b, c), of(1), []string{"a", "b", "c"}},
		{of(1), of(1, a, b, c), []string{"a", "b", "c"}},
		{of(1, a, c), of(1, b), []string{"a", "b", "c"}},
		{of(1, b), of(1, a, c), []string{"a", "b", "c"}},
		{of(1, a, b), of(1, b, c), []string{"a", "c"}},
		{of(1, b, c), of(1, a, b), []string{"a", "c"}},
		{of(1, a, b), of(1, f("a", "hax", 1), b), []string{"a"}},
		{of(1, a, b), of(1, a, f("b", "oats", 3)), []string{"b"}},
		{of(1, a, b), of(1, f("aa", "hay", 1), b), []string{"a", "aa"}},
		{of(1, f("b", "", 1), f("d", "", 1)), of(1, f("a", "", 1), f("c", "", 1), f("d", "x", 1), f("e", "", 1)), []string{"a", "b", "c", "d", "e"}},
	} {
		if got := diff.Of(x.a, x.b); !slices.Equal(got, x.want) {
			t.Errorf("Of(%v, %v): %v, want %v", x.a, x.b, got, x.want)
		}
	}
}

func TestD1Drawn(t *testing.T) {
	r := rand.New(rand.NewSource(4))
	for range 3000 {
		a, b := drawn(r), drawn(r)
		ma, mb := byHand(a), byHand(b)
		var want []string
		for i := range 9 {
			name := string(rune('a' + i))
			if ma[name] != mb[name] {
				want = append(want, name)
			}
		}
		if got := diff.Of(a, b); !slices.Equal(got, want) {
			t.Fatalf("Of(%v, %v): %v, want %v", a, b, got, want)
		}
	}
}

func eight(first byte, text string) []api.File {
	var l []api.File
	for i := range api.MaxFiles {
		l = append(l, f(string(first+byte(i)), text, 1))
	}
	return l
}

func TestD2(t *testing.T) {
	a, b, c := f("a", "hay", 1), f("b", "oats", 2), f("c", "", 3)
	b2 := f("b", "rye", 5)
	low, high := of(3, eight('a', "low")...), of(9, eight('m', "high")...)
	for _, x := range []struct {
		a, b  api.Quilt
		names []string
		want  api.Quilt
		err   error
	}{
		{of(1, a, b), of(7, c), nil, of(7, a, b), nil},
		{of(1, a, b), of(7, c), []string{"c"}, of(7, a, b, c), nil},
		{of(1, a, b), of(7, c), []string{"a"}, of(7, b), nil},
		{of(1, a, b), of(7, b2), []string{"b"}, of(7, a, b2), nil},
		{of(1, b), of(7, a, b2, c), []string{"c", "a"}, of(7, a, b, c), nil},
		{of(1, b), of(7, a, b2, c), []string{"c", "a", "b", "c", "b"}, of(7, a, b2, c), nil},
		{of(1, a, b, c), of(7), []string{"c", "a", "b", "a"}, of(7), nil},
		// Names that neither has, or that no file may have, are nothing.
		{of(1, a), of(7, b), []string{"", "A", "x", "abcdefg", "\xff"}, of(7, a), nil},
		{low, high, []string{"m"}, api.Quilt{}, api.ErrFull},
		{low, high, []string{"m", "n", "o"}, api.Quilt{}, api.ErrFull},
		{low, high, []string{"m", "a", "n"}, api.Quilt{}, api.ErrFull},
		// All go first, wherever in names they stand: there is room.
		{low, high, []string{"m", "a"}, of(9, append(low.Files[1:len(low.Files):len(low.Files)], high.Files[0])...), nil},
		{low, high, []string{"m", "n", "o", "p", "q", "r", "s", "t", "a", "b", "c", "d", "e", "f", "g", "h"}, high, nil},
	} {
		got, err := diff.Patch(x.a, x.b, x.names)
		if err != x.err || got.Turn != x.want.Turn || !slices.Equal(got.Files, x.want.Files) {
			t.Errorf("Patch(%v, %v, %q): %v %v, want %v %v", x.a, x.b, x.names, got, err, x.want, x.err)
		}
		if err != nil && got.Files != nil {
			t.Errorf("Patch(%v, %v, %q): a list beside an error", x.a, x.b, x.names)
		}
	}
}

func TestD2Drawn(t *testing.T) {
	r := rand.New(rand.NewSource(44))
	fulls := 0
	for range 3000 {
		a, b := drawn(r), drawn(r)
		var names []string
		for range r.Intn(7) {
			names = append(names, string(rune('a'+r.Intn(10))))
		}
		m, mb := byHand(a), byHand(b)
		for _, n := range names {
			delete(m, n)
		}
		for _, n := range names {
			if f, is := mb[n]; is {
				m[n] = f
			}
		}
		got, err := diff.Patch(a, b, names)
		if len(m) > api.MaxFiles {
			fulls++
			if err != api.ErrFull || got.Files != nil || got.Turn != 0 {
				t.Fatalf("Patch(%v, %v, %v): %v %v, want ErrFull", a, b, names, got, err)
			}
			continue
		}
		if err != nil || got.Turn != b.Turn || !slices.Equal(got.Files, rising(m)) {
			t.Fatalf("Patch(%v, %v, %v): %v %v, want %v", a, b, names, got, err, rising(m))
		}
	}
	if fulls == 0 {
		t.Error("no quilt was full: draw others")
	}
}

// TestW6: patched in what differs a quilt is the other one.
func TestW6(t *testing.T) {
	r := rand.New(rand.NewSource(6))
	low, high := of(3, eight('a', "low")...), of(9, eight('m', "high")...)
	pairs := [][2]api.Quilt{{low, high}, {high, low}, {low, quilt.New()}, {quilt.New(), low}, {low, low}}
	for range 3000 {
		pairs = append(pairs, [2]api.Quilt{drawn(r), drawn(r)})
	}
	for _, p := range pairs {
		names := diff.Of(p[0], p[1])
		for range 3 {
			got, err := diff.Patch(p[0], p[1], names)
			if err != nil || !quilt.Same(got, p[1]) || len(diff.Of(got, p[1])) != 0 {
				t.Fatalf("Patch(%v, %v, %v): %v %v", p[0], p[1], names, got, err)
			}
			r.Shuffle(len(names), func(i, j int) { names[i], names[j] = names[j], names[i] })
		}
	}
}

// roomy: the same list with something else behind it in memory.
func roomy[T any](l []T, behind T) []T {
	m := append(make([]T, 0, len(l)+2), l...)
	for i := len(l); i < cap(m); i++ {
		m[:cap(m)][i] = behind
	}
	return m
}

// TestZ2: what is handed in stays, also behind its end, and what comes out shares nothing with it.
func TestZ2(t *testing.T) {
	r := rand.New(rand.NewSource(2))
	for range 500 {
		a, b := drawn(r), drawn(r)
		names := []string{"b", "d", "a", "h"}[:r.Intn(5)]
		plain, err := diff.Patch(a, b, names)
		x := of(a.Turn, roomy(a.Files, f("z", "z", 7))...)
		y := of(b.Turn, roomy(b.Files, f("z", "z", 7))...)
		l := roomy(names, "c")
		said := func() string {
			return fmt.Sprint(x, x.Files[:cap(x.Files)], y, y.Files[:cap(y.Files)], l, l[:cap(l)])
		}
		was := said()
		got, err2 := diff.Patch(x, y, l)
		if err != err2 || !quilt.Same(got, plain) {
			t.Fatalf("Patch(%v, %v, %v): %v %v, or %v %v, as something stands behind", a, b, names, plain, err, got, err2)
		}
		differ := diff.Of(x, y)
		if !slices.Equal(differ, diff.Of(a, b)) {
			t.Fatalf("Of(%v, %v): %v, as something stands behind", a, b, differ)
		}
		for i := range got.Files {
			got.Files[i] = f("mine", "", 1)
		}
		for i := range differ {
			differ[i] = "mine"
		}
		_, _ = append(got.Files, f("mine", "", 1)), append(differ, "mine")
		if said() != was {
			t.Fatalf("what was handed in is %s, it was %s", said(), was)
		}
	}
}
