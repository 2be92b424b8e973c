package vote_test

import (
	"math"
	"slices"
	"testing"

	"patchquilt/api"
	"patchquilt/quilt"
	"patchquilt/vote"
)

func q(turn int, files ...api.File) api.Quilt { return api.Quilt{Files: files, Turn: turn} }

func is(q api.Quilt) api.Copy { return api.Copy{Is: true, Quilt: q} }

func isNot(q api.Quilt) api.Copy { return api.Copy{Quilt: q} }

var hay, oats = api.File{Name: "a", Text: "hay", Times: 1}, api.File{Name: "b", Text: "oats", Times: 2}

// copies of all kinds; the quilts of no two of these are the same, but of those that aren't there.
func copies() []api.Copy {
	return []api.Copy{
		{},
		isNot(q(5, hay)),
		is(q(0)),
		is(q(1)),
		is(q(5)),
		is(q(5, hay)),
		is(q(5, oats)),
		is(q(5, hay, oats)),
		is(q(5, api.File{Name: "a", Text: "hay", Times: 2})),
		is(q(5, api.File{Name: "a", Text: "hat", Times: 1})),
		is(q(5, api.File{Name: "c", Text: "hay", Times: 1})),
		is(q(6, hay)),
		is(q(api.MaxTurn)),
		// Quilts that may not be.
		is(q(5, oats, hay)),
		is(q(-1, api.File{})),
		is(q(math.MinInt)),
		is(q(math.MaxInt, hay, hay)),
	}
}

func TestJ1Same(t *testing.T) {
	for i, a := range copies() {
		for k, b := range copies() {
			want := i == k || !a.Is && !b.Is
			if got := vote.Same(a, b); got != want {
				t.Errorf("Same(%v, %v): %v", a, b, got)
			}
		}
	}
	if !vote.Same(is(api.Quilt{Turn: 1}), is(api.Quilt{Files: []api.File{}, Turn: 1})) {
		t.Errorf("an empty list is the same as none")
	}
	// What a copy that isn't there has is nothing.
	if vote.Same(isNot(q(5, hay)), is(q(5, hay))) || vote.Same(is(q(0)), isNot(q(0))) || vote.Same(is(q(0)), api.Copy{}) {
		t.Errorf("one that is there is the same as one that isn't")
	}
}

func TestJ1Of(t *testing.T) {
	none, a, b, c := api.Copy{}, is(q(5, hay)), is(q(5, oats)), is(q(7))
	for _, x := range []struct {
		l    [api.Disks]api.Copy
		want api.Copy
	}{
		// Two outvote one, wherever it stands, whatever its turn is.
		{[api.Disks]api.Copy{a, a, a}, a},
		{[api.Disks]api.Copy{c, a, a}, a},
		{[api.Disks]api.Copy{a, c, a}, a},
		{[api.Disks]api.Copy{a, a, c}, a},
		{[api.Disks]api.Copy{b, a, a}, a},
		{[api.Disks]api.Copy{none, a, a}, a},
		{[api.Disks]api.Copy{a, none, a}, a},
		{[api.Disks]api.Copy{a, a, none}, a},
		// Two that aren't there are the same, and have no vote.
		{[api.Disks]api.Copy{none, none, a}, a},
		{[api.Disks]api.Copy{none, a, none}, a},
		{[api.Disks]api.Copy{a, none, none}, a},
		{[api.Disks]api.Copy{isNot(q(9)), isNot(q(9)), a}, a},
		{[api.Disks]api.Copy{isNot(c.Quilt), c, a}, c},
		{[api.Disks]api.Copy{isNot(a.Quilt), c, a}, c},
		// The greatest turn, and of several the first one.
		{[api.Disks]api.Copy{a, b, c}, c},
		{[api.Disks]api.Copy{c, a, b}, c},
		{[api.Disks]api.Copy{a, c, b}, c},
		{[api.Disks]api.Copy{none, a, c}, c},
		{[api.Disks]api.Copy{c, none, a}, c},
		{[api.Disks]api.Copy{none, a, b}, a},
		{[api.Disks]api.Copy{none, b, a}, b},
		{[api.Disks]api.Copy{b, none, a}, b},
		{[api.Disks]api.Copy{is(q(4)), b, a}, b},
		{[api.Disks]api.Copy{b, is(q(5)), a}, b},
		{[api.Disks]api.Copy{none, is(q(0)), none}, is(q(0))},
		{[api.Disks]api.Copy{none, none, is(q(-7))}, is(q(-7))},
		{[api.Disks]api.Copy{is(q(math.MinInt)), none, is(q(-7))}, is(q(-7))},
	} {
		got, err := vote.Of(x.l)
		if err != nil || !quilt.Same(got, x.want.Quilt) {
			t.Errorf("Of(%v): %v %v, want %v", x.l, got, err, x.want)
		}
	}
	for _, l := range [][api.Disks]api.Copy{{}, {isNot(a.Quilt), isNot(a.Quilt), isNot(a.Quilt)}, {isNot(c.Quilt), none, isNot(a.Quilt)}} {
		if got, err := vote.Of(l); err != api.ErrText || got.Files != nil || got.Turn != 0 {
			t.Errorf("Of(%v): %v %v", l, got, err)
		}
	}
}

// all of three copies.
func all(yield func([api.Disks]api.Copy) bool) {
	for _, a := range copies() {
		for _, b := range copies() {
			for _, c := range copies() {
				if !yield([api.Disks]api.Copy{a, b, c}) {
					return
				}
			}
		}
	}
}

// of: what Of should answer, by counting.
func of(l [api.Disks]api.Copy) (api.Quilt, error) {
	for _, a := range l {
		n := 0
		for _, b := range l {
			if a.Is && b.Is && quilt.Same(a.Quilt, b.Quilt) {
				n++
			}
		}
		if n >= 2 {
			return a.Quilt, nil
		}
	}
	there := slices.DeleteFunc(l[:], func(c api.Copy) bool { return !c.Is })
	slices.SortStableFunc(there, func(a, b api.Copy) int {
		if a.Quilt.Turn > b.Quilt.Turn {
			return -1
		}
		if a.Quilt.Turn < b.Quilt.Turn {
			return 1
		}
		return 0
	})
	if len(there) == 0 {
		return api.Quilt{}, api.ErrText
	}
	return there[0].Quilt, nil
}

func TestJ1OfAll(t *testing.T) {
	for l := range all {
		want, wantErr := of(l)
		got, err := vote.Of(l)
		if err != wantErr || !quilt.Same(got, want) {
			t.Fatalf("Of(%v): %v %v, want %v %v", l, got, err, want, wantErr)
		}
	}
}

func TestJ2(t *testing.T) {
	none, a, b := api.Copy{}, is(q(5, hay)), is(q(5, oats))
	for _, x := range []struct {
		l    [api.Disks]api.Copy
		q    api.Quilt
		want []int
	}{
		{[api.Disks]api.Copy{a, a, a}, a.Quilt, nil},
		{[api.Disks]api.Copy{b, a, a}, a.Quilt, []int{0}},
		{[api.Disks]api.Copy{a, none, a}, a.Quilt, []int{1}},
		{[api.Disks]api.Copy{a, a, isNot(a.Quilt)}, a.Quilt, []int{2}},
		{[api.Disks]api.Copy{b, a, none}, a.Quilt, []int{0, 2}},
		{[api.Disks]api.Copy{a, a, b}, b.Quilt, []int{0, 1}},
		{[api.Disks]api.Copy{a, b, b}, a.Quilt, []int{1, 2}},
		{[api.Disks]api.Copy{a, a, a}, b.Quilt, []int{0, 1, 2}},
		{[api.Disks]api.Copy{}, api.Quilt{}, []int{0, 1, 2}},
		{[api.Disks]api.Copy{is(q(0)), none, is(api.Quilt{Files: []api.File{}})}, api.Quilt{}, []int{1}},
		{[api.Disks]api.Copy{is(q(-1)), is(q(-2)), is(q(-1))}, q(-1), []int{1}},
		// Just that quilt: neither its turn nor its files alone.
		{[api.Disks]api.Copy{is(q(6, hay)), is(q(5)), is(q(5, hay, oats))}, q(5, hay), []int{0, 1, 2}},
	} {
		if got := vote.Wrong(x.l, x.q); !slices.Equal(got, x.want) {
			t.Errorf("Wrong(%v, %v): %v, want %v", x.l, x.q, got, x.want)
		}
	}
}

func TestJ2All(t *testing.T) {
	for l := range all {
		for _, c := range copies() {
			var want []int
			for i, x := range l {
				if !x.Is || !quilt.Same(x.Quilt, c.Quilt) {
					want = append(want, i)
				}
			}
			if got := vote.Wrong(l, c.Quilt); !slices.Equal(got, want) {
				t.Fatalf("Wrong(%v, %v): %v, want %v", l, c.Quilt, got, want)
			}
		}
	}
}

// What stands behind a list in memory is nothing to a vote, and no list is written into; what comes out is fresh.
func TestZ2(t *testing.T) {
	x := []api.File{hay, oats}
	y := []api.File{hay, {Name: "z"}}
	l := [api.Disks]api.Copy{is(api.Quilt{Files: x[:1], Turn: 5}), is(q(9)), is(api.Quilt{Files: y[:1], Turn: 5})}
	if !vote.Same(l[0], l[2]) || !slices.Equal(vote.Wrong(l, l[0].Quilt), []int{1}) {
		t.Errorf("what stands behind a list is read")
	}
	for range 2 {
		got, err := vote.Of(l)
		if err != nil || !quilt.Same(got, q(5, hay)) {
			t.Fatalf("Of: %v %v", got, err)
		}
		got.Files[0].Text = "mine"
		_ = append(got.Files, api.File{Name: "mine"})
		if !slices.Equal(x, []api.File{hay, oats}) || !slices.Equal(y, []api.File{hay, {Name: "z"}}) {
			t.Fatalf("what comes out is not the caller's alone: %v %v", x, y)
		}
		// And so it is without two.
		l[2] = api.Copy{}
		l[1] = is(q(4))
	}
	if got := vote.Wrong(l, q(3)); !slices.Equal(append(got[:1], 7), []int{0, 7}) || !slices.Equal(vote.Wrong(l, q(3)), []int{0, 1, 2}) {
		t.Errorf("places are not the caller's alone")
	}
}
