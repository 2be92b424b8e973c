package quilt_test

import (
	"math"
	"math/rand"
	"slices"
	"strings"
	"testing"

	"patchquilt/api"
	"patchquilt/quilt"
	"patchquilt/shelf"
)

var long = strings.Repeat("x", api.MaxText+1)

func sample() api.Quilt {
	return api.Quilt{Turn: 20, Files: []api.File{
		{Name: "b", Text: "hay", Times: 3},
		{Name: "d", Text: "", Times: 1},
		{Name: "f", Text: "oats", Times: api.MaxTurn},
	}}
}

func full() api.Quilt {
	q := api.Quilt{Turn: 50}
	for _, n := range []string{"b", "c", "d", "e", "f", "g", "h", "i"} {
		q.Files = append(q.Files, api.File{Name: n, Text: "t" + n, Times: 2})
	}
	return q
}

// last: the same quilt, at its last turn.
func last(q api.Quilt) api.Quilt {
	q.Turn = api.MaxTurn
	return q
}

// with: the quilt one turn on, with other files.
func with(q api.Quilt, files ...api.File) api.Quilt {
	return api.Quilt{Turn: q.Turn + 1, Files: files}
}

// equal holds two quilts against each other without the package's own Same.
func equal(a, b api.Quilt) bool {
	return a.Turn == b.Turn && slices.Equal(a.Files, b.Files)
}

func ask(t *testing.T, what string, got api.Quilt, err error, want api.Quilt, wantErr error) {
	t.Helper()
	if err != wantErr || !equal(got, want) {
		t.Errorf("%s: %v %v, want %v %v", what, got, err, want, wantErr)
	}
	if err != nil && got.Files != nil {
		t.Errorf("%s: a list beside an error", what)
	}
}

func TestC1New(t *testing.T) {
	q := quilt.New()
	if len(q.Files) != 0 || q.Turn != 1 || quilt.Check(q) != nil {
		t.Errorf("New: %v", q)
	}
}

func TestC1Check(t *testing.T) {
	files := sample().Files
	nine := append(full().Files, api.File{Name: "j", Times: 1})
	for _, c := range []struct {
		q    api.Quilt
		want error
	}{
		{sample(), nil},
		{full(), nil},
		{api.Quilt{Turn: 1}, nil},
		{api.Quilt{Turn: api.MaxTurn}, nil},
		{api.Quilt{}, api.ErrBound},
		{api.Quilt{Files: files, Turn: 0}, api.ErrBound},
		{api.Quilt{Files: files, Turn: -1}, api.ErrBound},
		{api.Quilt{Files: files, Turn: api.MaxTurn + 1}, api.ErrBound},
		{api.Quilt{Files: files, Turn: math.MaxInt}, api.ErrBound},
		{api.Quilt{Files: files, Turn: math.MinInt}, api.ErrBound},
		{api.Quilt{Files: nine, Turn: 1}, api.ErrMany},
		{api.Quilt{Files: []api.File{files[1], files[0]}, Turn: 1}, api.ErrShape},
		{api.Quilt{Files: []api.File{{Name: "a"}}, Turn: 1}, api.ErrBound},
		// The files' error is told ahead of the turn's.
		{api.Quilt{Files: nine, Turn: 0}, api.ErrMany},
		{api.Quilt{Files: []api.File{files[1], files[0]}, Turn: 0}, api.ErrShape},
	} {
		if err := quilt.Check(c.q); err != c.want {
			t.Errorf("Check(%v): %v, want %v", c.q, err, c.want)
		}
	}
}

func TestC1Same(t *testing.T) {
	others := []api.Quilt{
		{}, quilt.New(), sample(), full(), last(sample()),
		{Turn: 20, Files: sample().Files[:2]},
		{Turn: 20, Files: sample().Files[1:]},
		{Turn: 20, Files: []api.File{sample().Files[1], sample().Files[0], sample().Files[2]}},
		{Turn: -20, Files: sample().Files},
	}
	for _, f := range []api.File{{Name: "c", Text: "hay", Times: 3}, {Name: "b", Text: "hai", Times: 3}, {Name: "b", Text: "hay", Times: 4}} {
		q := sample()
		q.Files[0] = f
		others = append(others, q)
	}
	for i, a := range others {
		for j, b := range others {
			b.Files = slices.Clone(b.Files)
			if got := quilt.Same(a, b); got != (i == j) {
				t.Errorf("Same(%v, %v): %v", a, b, got)
			}
		}
	}
	if !quilt.Same(api.Quilt{Turn: 1, Files: []api.File{}}, quilt.New()) {
		t.Errorf("Same: no files are no files, nil or not")
	}
}

func TestC2Write(t *testing.T) {
	s := sample()
	b, d, f := s.Files[0], s.Files[1], s.Files[2]
	for _, c := range []struct {
		what, name, text string
		want             api.Quilt
	}{
		{"a new one ahead", "a", "x", with(s, api.File{Name: "a", Text: "x", Times: 1}, b, d, f)},
		{"a new one between", "c", "", with(s, b, api.File{Name: "c", Times: 1}, d, f)},
		{"a new one behind", "zzzzzz", long[1:], with(s, b, d, f, api.File{Name: "zzzzzz", Text: long[1:], Times: 1})},
		{"one that is there", "b", "x", with(s, api.File{Name: "b", Text: "x", Times: 4}, d, f)},
		{"the same text again", "b", "hay", with(s, api.File{Name: "b", Text: "hay", Times: 4}, d, f)},
		{"any bytes", "d", "\x00\xff", with(s, b, api.File{Name: "d", Text: "\x00\xff", Times: 2}, f)},
	} {
		got, err := quilt.Write(sample(), c.name, c.text)
		ask(t, c.what, got, err, c.want, nil)
	}
}

func TestC2WriteErrors(t *testing.T) {
	for _, c := range []struct {
		q          api.Quilt
		name, text string
		want       error
	}{
		{sample(), "", "x", api.ErrShape},
		{sample(), "B", "x", api.ErrShape},
		{sample(), "abcdefg", "x", api.ErrMany},
		{sample(), "b", long, api.ErrMany},
		{sample(), "a", long, api.ErrMany},
		{sample(), "f", "x", api.ErrBound}, // it was written MaxTurn times
		{sample(), "f", long, api.ErrMany},
		{full(), "a", "x", api.ErrFull},
		{full(), "A", "x", api.ErrShape},
		{last(sample()), "a", "x", api.ErrFull},
		{last(sample()), "b", "x", api.ErrFull},
		// That the turns are used up is told behind all others.
		{last(sample()), "", "x", api.ErrShape},
		{last(sample()), "abcdefg", "x", api.ErrMany},
		{last(sample()), "b", long, api.ErrMany},
		{last(sample()), "f", "x", api.ErrBound},
	} {
		got, err := quilt.Write(c.q, c.name, c.text)
		ask(t, "Write "+c.name+" "+c.text, got, err, api.Quilt{}, c.want)
	}
	if got, err := quilt.Write(full(), "i", "x"); err != nil || len(got.Files) != api.MaxFiles {
		t.Errorf("Write into a full quilt, of a file that is there: %v %v", got, err)
	}
}

func TestC2Drop(t *testing.T) {
	s := sample()
	got, err := quilt.Drop(s, "d")
	ask(t, "Drop d", got, err, with(s, s.Files[0], s.Files[2]), nil)
	got, err = quilt.Drop(s, "f")
	ask(t, "Drop f, written MaxTurn times", got, err, with(s, s.Files[0], s.Files[1]), nil)
	one := api.Quilt{Turn: 4, Files: s.Files[:1]}
	got, err = quilt.Drop(one, "b")
	ask(t, "Drop the only one", got, err, api.Quilt{Turn: 5}, nil)
	for _, name := range []string{"", "a", "e", "g", "B", "abcdefg"} {
		got, err = quilt.Drop(s, name)
		ask(t, "Drop "+name, got, err, api.Quilt{}, api.ErrNone)
		got, err = quilt.Drop(last(s), name)
		ask(t, "Drop at the last turn "+name, got, err, api.Quilt{}, api.ErrNone)
	}
	got, err = quilt.Drop(last(s), "b")
	ask(t, "Drop at the last turn", got, err, api.Quilt{}, api.ErrFull)
}

// TestC2LastTurn: the last turn but one is followed by MaxTurn, and that by none.
func TestC2LastTurn(t *testing.T) {
	q := sample()
	q.Turn = api.MaxTurn - 1
	for _, c := range doings() {
		got, err := c.do(q)
		if err != nil || got.Turn != api.MaxTurn || quilt.Check(got) != nil {
			t.Errorf("%s: %v %v", c.what, got, err)
		}
		got, err = c.do(last(q))
		ask(t, c.what+" at the last turn", got, err, api.Quilt{}, api.ErrFull)
	}
}

func TestC3Rename(t *testing.T) {
	s := sample()
	b, d, f := s.Files[0], s.Files[1], s.Files[2]
	called := func(f api.File, name string) api.File { f.Name = name; return f }
	for _, c := range []struct {
		name, to string
		want     api.Quilt
	}{
		{"b", "a", with(s, called(b, "a"), d, f)},
		{"b", "e", with(s, d, called(b, "e"), f)},
		{"b", "z", with(s, d, f, called(b, "z"))},
		{"f", "0", with(s, called(f, "0"), b, d)},
		{"f", "zzzzzz", with(s, b, d, called(f, "zzzzzz"))},
	} {
		got, err := quilt.Rename(sample(), c.name, c.to)
		ask(t, "Rename "+c.name+" "+c.to, got, err, c.want, nil)
	}
	if got, err := quilt.Rename(full(), "i", "a"); err != nil || got.Files[0].Text != "ti" || len(got.Files) != api.MaxFiles {
		t.Errorf("Rename in a full quilt: %v %v", got, err)
	}
}

func TestC3RenameErrors(t *testing.T) {
	for _, c := range []struct {
		name, to string
		want     error
	}{
		{"a", "x", api.ErrNone},
		{"", "x", api.ErrNone},
		{"A", "x", api.ErrNone},
		{"abcdefg", "x", api.ErrNone},
		{"a", "b", api.ErrNone},
		{"a", "", api.ErrNone}, // ahead of the other name's error
		{"b", "", api.ErrShape},
		{"b", "B", api.ErrShape},
		{"b", "abcdefg", api.ErrMany},
		{"b", "d", api.ErrExist},
		{"b", "b", api.ErrExist},
	} {
		got, err := quilt.Rename(sample(), c.name, c.to)
		ask(t, "Rename "+c.name+" "+c.to, got, err, api.Quilt{}, c.want)
		got, err = quilt.Rename(last(sample()), c.name, c.to)
		ask(t, "Rename at the last turn "+c.name+" "+c.to, got, err, api.Quilt{}, c.want)
	}
}

func TestC3Swap(t *testing.T) {
	s := sample()
	want := with(s, api.File{Name: "b", Text: "", Times: 4}, api.File{Name: "d", Text: "hay", Times: 2}, s.Files[2])
	got, err := quilt.Swap(sample(), "b", "d")
	ask(t, "Swap b d", got, err, want, nil)
	got, err = quilt.Swap(sample(), "d", "b")
	ask(t, "Swap d b", got, err, want, nil)
	got, err = quilt.Swap(sample(), "b", "b")
	ask(t, "Swap b b", got, err, with(s, s.Files...), nil)
	q := sample()
	q.Files[1].Times = api.MaxTurn - 1
	got, err = quilt.Swap(q, "b", "d")
	if err != nil || got.Files[1].Times != api.MaxTurn || quilt.Check(got) != nil {
		t.Errorf("Swap up to MaxTurn: %v %v", got, err)
	}
}

func TestC3SwapErrors(t *testing.T) {
	for _, c := range []struct {
		a, b string
		want error
	}{
		{"a", "b", api.ErrNone},
		{"b", "a", api.ErrNone},
		{"a", "a", api.ErrNone},
		{"", "", api.ErrNone},
		{"B", "b", api.ErrNone},
		{"f", "a", api.ErrNone}, // ahead of f's Times
		{"a", "f", api.ErrNone},
		{"f", "b", api.ErrFull},
		{"b", "f", api.ErrFull},
		{"f", "f", api.ErrFull},
	} {
		got, err := quilt.Swap(sample(), c.a, c.b)
		ask(t, "Swap "+c.a+" "+c.b, got, err, api.Quilt{}, c.want)
		got, err = quilt.Swap(last(sample()), c.a, c.b)
		ask(t, "Swap at the last turn "+c.a+" "+c.b, got, err, api.Quilt{}, c.want)
	}
}

type doing struct {
	what string
	do   func(q api.Quilt) (api.Quilt, error)
}

// doings: one of each kind, that the sample takes.
func doings() []doing {
	return []doing{
		{"write new", func(q api.Quilt) (api.Quilt, error) { return quilt.Write(q, "c", "x") }},
		{"write last", func(q api.Quilt) (api.Quilt, error) { return quilt.Write(q, "z", "x") }},
		{"write", func(q api.Quilt) (api.Quilt, error) { return quilt.Write(q, "b", "x") }},
		{"drop", func(q api.Quilt) (api.Quilt, error) { return quilt.Drop(q, "b") }},
		{"drop last", func(q api.Quilt) (api.Quilt, error) { return quilt.Drop(q, "f") }},
		{"rename", func(q api.Quilt) (api.Quilt, error) { return quilt.Rename(q, "b", "e") }},
		{"swap", func(q api.Quilt) (api.Quilt, error) { return quilt.Swap(q, "b", "d") }},
		{"swap one", func(q api.Quilt) (api.Quilt, error) { return quilt.Swap(q, "b", "b") }},
	}
}

// TestZ2: what is handed in stays, also behind its end, and what comes out shares nothing with it.
func TestZ2(t *testing.T) {
	behind := api.File{Name: "y", Text: "y", Times: 7}
	for _, c := range doings() {
		want, _ := c.do(sample())
		q := sample()
		q.Files = append(make([]api.File, 0, 6), q.Files...)
		rest := q.Files[3:6]
		for i := range rest {
			rest[i] = behind
		}
		got, err := c.do(q)
		if err != nil || !equal(got, want) {
			t.Errorf("%s: %v %v, want %v", c.what, got, err, want)
		}
		for i := range got.Files {
			got.Files[i] = api.File{Name: "mine"}
		}
		_ = append(got.Files, api.File{Name: "mine"})
		if !equal(q, sample()) || rest[0] != behind || rest[1] != behind || rest[2] != behind {
			t.Errorf("%s: what was handed in is %v, and behind it %v", c.what, q, rest)
		}
	}
}

// model: a quilt that is kept otherwise: by a map, with the promises' words one by one.
type model struct {
	files map[string]api.File
	turn  int
}

func (m *model) quilt() api.Quilt {
	q := api.Quilt{Turn: m.turn}
	for _, f := range m.files {
		q.Files = append(q.Files, f)
	}
	slices.SortFunc(q.Files, func(a, b api.File) int { return strings.Compare(a.Name, b.Name) })
	return q
}

func (m *model) turned(do func()) error {
	if m.turn == api.MaxTurn {
		return api.ErrFull
	}
	do()
	m.turn++
	return nil
}

func nameError(s string) error {
	if s == "" || strings.Trim(s, "abcdefghijklmnopqrstuvwxyz0123456789") != "" {
		return api.ErrShape
	}
	if len(s) > api.MaxName {
		return api.ErrMany
	}
	return nil
}

func (m *model) write(name, text string) error {
	f, is := m.files[name]
	switch {
	case nameError(name) != nil:
		return nameError(name)
	case len(text) > api.MaxText:
		return api.ErrMany
	case f.Times == api.MaxTurn:
		return api.ErrBound
	case !is && len(m.files) == api.MaxFiles:
		return api.ErrFull
	}
	return m.turned(func() { m.files[name] = api.File{Name: name, Text: text, Times: f.Times + 1} })
}

func (m *model) drop(name string) error {
	if _, is := m.files[name]; !is {
		return api.ErrNone
	}
	return m.turned(func() { delete(m.files, name) })
}

func (m *model) rename(name, to string) error {
	f, is := m.files[name]
	_, other := m.files[to]
	switch {
	case !is:
		return api.ErrNone
	case nameError(to) != nil:
		return nameError(to)
	case other:
		return api.ErrExist
	}
	return m.turned(func() {
		delete(m.files, name)
		m.files[to] = api.File{Name: to, Text: f.Text, Times: f.Times}
	})
}

func (m *model) swap(a, b string) error {
	f, isF := m.files[a]
	g, isG := m.files[b]
	switch {
	case !isF || !isG:
		return api.ErrNone
	case f.Times == api.MaxTurn || g.Times == api.MaxTurn:
		return api.ErrFull
	}
	return m.turned(func() {
		if a != b {
			m.files[a] = api.File{Name: a, Text: g.Text, Times: f.Times + 1}
			m.files[b] = api.File{Name: b, Text: f.Text, Times: g.Times + 1}
		}
	})
}

// TestW5Model: long runs of what may be done, held against the model step by step; they begin at turns and Times near their bounds, too.
func TestW5Model(t *testing.T) {
	r := rand.New(rand.NewSource(5))
	names := []string{"a", "b", "c", "d", "e", "f", "g", "h", "i", "j", "abcdef", "0", "", "A", "abcdefg"}
	texts := []string{"", "x", "hay", long[1:], long, "\xff\x00"}
	for run := range 300 {
		m := &model{files: map[string]api.File{}, turn: 1}
		if run%3 == 1 {
			m.turn = api.MaxTurn - 30
		}
		if run%3 == 2 {
			m.files["b"] = api.File{Name: "b", Times: api.MaxTurn - 3}
		}
		q := m.quilt()
		for range 100 {
			x, y, s := names[r.Intn(len(names))], names[r.Intn(len(names))], texts[r.Intn(len(texts))]
			var next api.Quilt
			var err, want error
			switch r.Intn(7) {
			case 0, 1, 2:
				next, err = quilt.Write(q, x, s)
				want = m.write(x, s)
			case 3:
				next, err = quilt.Drop(q, x)
				want = m.drop(x)
			case 4:
				next, err = quilt.Rename(q, x, y)
				want = m.rename(x, y)
			default:
				next, err = quilt.Swap(q, x, y)
				want = m.swap(x, y)
			}
			if want != nil {
				ask(t, "an error", next, err, api.Quilt{}, want)
				continue
			}
			ask(t, "a turn", next, err, m.quilt(), nil)
			if quilt.Check(next) != nil {
				t.Fatalf("%v may not be: %v", next, quilt.Check(next))
			}
			q = next
		}
	}
}

// TestW5: what is written is read; what isn't touched is as it was; each turn is one more; there are never too many files.
func TestW5(t *testing.T) {
	q := quilt.New()
	r := rand.New(rand.NewSource(55))
	for i := range 2000 {
		name := string(rune('a' + r.Intn(12)))
		next, err := quilt.Write(q, name, "n"+name)
		if err != nil {
			if len(q.Files) != api.MaxFiles || err != api.ErrFull {
				t.Fatalf("step %d: %v, of %d files", i, err, len(q.Files))
			}
			next, err = quilt.Drop(q, q.Files[r.Intn(len(q.Files))].Name)
			if err != nil {
				t.Fatal(err)
			}
		} else if f, is := shelf.Get(next.Files, name); !is || f.Text != "n"+name {
			t.Fatalf("step %d: %q was written, %v is read", i, "n"+name, f)
		}
		untouched := 0
		for _, f := range q.Files {
			if g, is := shelf.Get(next.Files, f.Name); is && f == g {
				untouched++
			}
		}
		if untouched < len(q.Files)-1 || len(next.Files) > api.MaxFiles || next.Turn != q.Turn+1 {
			t.Fatalf("step %d: from %v to %v", i, q, next)
		}
		q = next
	}
}

// A clone is the same quilt, and shares no memory with it.
func TestZ2Clone(t *testing.T) {
	for _, q := range []api.Quilt{{}, quilt.New(), sample(), full(), {Files: full().Files[:3], Turn: -1}} {
		before := api.Quilt{Files: append([]api.File(nil), q.Files...), Turn: q.Turn}
		c := quilt.Clone(q)
		if !equal(c, before) {
			t.Errorf("Clone(%v): %v", q, c)
		}
		for i := range c.Files {
			c.Files[i].Text = "mine"
		}
		_ = append(c.Files, api.File{Name: "mine"})
		if !equal(q, before) {
			t.Errorf("a clone shares memory: %v, it was %v", q, before)
		}
	}
}
