package image_test

import (
	"fmt"
	"math"
	"math/rand"
	"slices"
	"strings"
	"testing"

	"patchquilt/api"
	"patchquilt/image"
	"patchquilt/quilt"
	"patchquilt/row"
)

func r(key, val string) api.Change { return api.Change{Key: key, Val: val} }

func gone(key string) api.Change { return api.Change{Key: key, Gone: true} }

func l(rows ...api.Change) []api.Change { return rows }

var turn = r("turn", "0007")

// drawn: some quilt that may be.
func drawn(d *rand.Rand) api.Quilt {
	q := api.Quilt{Turn: 1 + d.Intn(api.MaxTurn)}
	for _, name := range []string{"0", "a", "aa", "abcdef", "b", "turn", "x9", "z", "zz"} {
		if len(q.Files) < api.MaxFiles && d.Intn(3) > 0 {
			text := []string{"", "hay", "0001", "\x00\xff =", strings.Repeat("z", api.MaxText)}[d.Intn(5)]
			q.Files = append(q.Files, api.File{Name: name, Text: text, Times: 1 + d.Intn(api.MaxTurn)})
		}
	}
	return q
}

func TestE1Rows(t *testing.T) {
	eight := api.Quilt{Turn: 9999}
	var rows []api.Change
	for i := range api.MaxFiles {
		name := "name" + string(rune('0'+i)) + "x"
		eight.Files = append(eight.Files, api.File{Name: name, Text: "twelve bytes", Times: 1000 + i})
		rows = append(rows, r("f"+name, fmt.Sprint(1000+i)+"twelve bytes"))
	}
	for _, c := range []struct {
		q    api.Quilt
		want []api.Change
	}{
		{quilt.New(), l(r("turn", "0001"))},
		{api.Quilt{Turn: 10}, l(r("turn", "0010"))},
		{api.Quilt{Turn: 999}, l(r("turn", "0999"))},
		{api.Quilt{Turn: 1000}, l(r("turn", "1000"))},
		{api.Quilt{Turn: 7, Files: []api.File{{Name: "a", Text: "hay", Times: 2}, {Name: "b", Times: 9999}}},
			l(r("fa", "0002hay"), r("fb", "9999"), turn)},
		{api.Quilt{Turn: 7, Files: []api.File{{Name: "turn", Text: "12", Times: 34}}},
			l(r("fturn", "003412"), turn)},
		{eight, append(rows, r("turn", "9999"))},
		// Rows rise also where the files don't.
		{api.Quilt{Turn: 7, Files: []api.File{{Name: "b", Times: 1}, {Name: "a", Times: 1}}},
			l(r("fa", "0001"), r("fb", "0001"), turn)},
	} {
		if got := image.Rows(c.q); !slices.Equal(got, c.want) {
			t.Errorf("Rows(%v): %v, want %v", c.q, got, c.want)
		}
	}
}

func TestE1RowsMayBeKept(t *testing.T) {
	d := rand.New(rand.NewSource(51))
	for range 500 {
		q := drawn(d)
		rows := image.Rows(q)
		if len(rows) != len(q.Files)+1 || len(rows) > api.MaxRows {
			t.Fatalf("Rows(%v): %v", q, rows)
		}
		for i, c := range rows {
			if row.Check(c) != nil || c.Gone || i > 0 && rows[i-1].Key >= c.Key {
				t.Fatalf("Rows(%v): %v", q, rows)
			}
		}
	}
}

func TestE2Parse(t *testing.T) {
	d := rand.New(rand.NewSource(52))
	for range 1000 {
		q := drawn(d)
		got, err := image.Parse(image.Rows(q))
		if err != nil || !quilt.Same(got, q) {
			t.Fatalf("Parse of the rows of %v: %v %v", q, got, err)
		}
	}
}

func TestE2ParseWrong(t *testing.T) {
	a, b := r("fa", "0001hay"), r("fb", "0002")
	var nine []api.Change
	for i := range api.MaxFiles + 1 {
		nine = append(nine, r("f"+string(rune('a'+i)), "0001"))
	}
	for _, rows := range [][]api.Change{
		nil, {}, l(a), l(a, b),
		l(turn, turn), l(a, turn, turn), l(turn, a), l(b, a, turn), l(a, a, turn), l(a, turn, b),
		l(r("fa", "0001"), r("fa", "0002"), turn),
		l(gone("turn")), l(gone("fa"), turn), l(api.Change{Key: "turn", Val: "0007", Gone: true}),
		l(api.Change{Key: "fa", Val: "0001hay", Gone: true}, turn),
		l(r("", ""), turn), l(r("", "0001"), turn), l(r("f", "0001"), turn), l(r("a", "0001"), turn), l(r("g", "0001"), turn),
		l(r("Fa", "0001"), turn), l(r("fA", "0001"), turn), l(r("fa ", "0001"), turn), l(r("fabcdefg", "0001"), turn),
		l(turn, r("u", "0001")), l(turn, r("turn0", "0001")), l(r("tur", "0001"), turn), l(r("Turn", "0001")),
		l(r("fa", ""), turn), l(r("fa", "1"), turn), l(r("fa", "001"), turn), l(r("fa", "0000"), turn), l(r("fa", "0000hay"), turn),
		l(r("fa", "00x1"), turn), l(r("fa", "+001"), turn), l(r("fa", "-001"), turn), l(r("fa", " 001"), turn), l(r("fa", "0x01"), turn), l(r("fa", "1e03"), turn), l(r("fa", "1_00"), turn),
		l(r("fa", "0001"+strings.Repeat("z", api.MaxText+1)), turn),
		l(r("turn", "")), l(r("turn", "1")), l(r("turn", "001")), l(r("turn", "0000")), l(r("turn", "00001")), l(r("turn", "10000")), l(r("turn", "0001hay")),
		l(r("turn", "+001")), l(r("turn", "-001")), l(r("turn", "000x")), l(r("turn", "0001 ")),
		append(nine, turn),
	} {
		if got, err := image.Parse(rows); err != api.ErrText || got.Files != nil || got.Turn != 0 {
			t.Errorf("Parse(%#v): %v %v", rows, got, err)
		}
	}
}

// Whatever is done to the rows of a quilt, they are those of another one, or of none.
func TestE2ParseChanged(t *testing.T) {
	d := rand.New(rand.NewSource(53))
	other := 0
	for range 20000 {
		rows := image.Rows(drawn(d))
		c := &rows[d.Intn(len(rows))]
		text := []*string{&c.Key, &c.Val}[d.Intn(2)]
		at := d.Intn(len(*text))
		*text = (*text)[:at] + []string{"", "0", "1", "a", "f", "+", "\x00"}[d.Intn(7)] + (*text)[at+d.Intn(2):]
		q, err := image.Parse(rows)
		if err != nil && err != api.ErrText || err == nil && (quilt.Check(q) != nil || !slices.Equal(image.Rows(q), rows)) {
			t.Fatalf("Parse(%#v): %v %v", rows, q, err)
		}
		if err == nil {
			other++
		}
	}
	if other == 0 {
		t.Errorf("none is another quilt's")
	}
}

func TestE3Changes(t *testing.T) {
	a, b, c := r("a", "1"), r("b", "2"), r("c", "3")
	for _, x := range []struct{ a, b, want []api.Change }{
		{nil, nil, nil},
		{l(a, b, c), l(a, b, c), nil},
		{nil, l(a, b), l(a, b)},
		{l(a, b), nil, l(gone("a"), gone("b"))},
		{l(a, c), l(b), l(gone("a"), b, gone("c"))},
		{l(b), l(a, c), l(a, gone("b"), c)},
		{l(a, b, c), l(a, r("b", "x"), c), l(r("b", "x"))},
		{l(a, b, c), l(r("a", ""), b, r("c", "30")), l(r("a", ""), r("c", "30"))},
		{l(a, b), l(r("aa", "1"), b), l(gone("a"), r("aa", "1"))},
		{l(a), l(a, b, c), l(b, c)},
		{l(a, b, c), l(c), l(gone("a"), gone("b"))},
	} {
		if got := image.Changes(x.a, x.b); !slices.Equal(got, x.want) {
			t.Errorf("Changes(%v, %v): %v, want %v", x.a, x.b, got, x.want)
		}
	}
}

// Applied to the one, the changes make the other; none of them is idle, and they rise.
func TestE3Drawn(t *testing.T) {
	d := rand.New(rand.NewSource(54))
	for range 2000 {
		a, b := image.Rows(drawn(d)), image.Rows(drawn(d))
		changes := image.Changes(a, b)
		if got := row.Apply(a, changes); !slices.Equal(got, b) {
			t.Fatalf("Changes(%v, %v): %v: they make %v", a, b, changes, got)
		}
		for i, c := range changes {
			if i > 0 && changes[i-1].Key >= c.Key || slices.Contains(a, c) || row.Check(c) != nil {
				t.Fatalf("Changes(%v, %v): %v", a, b, changes)
			}
		}
	}
}

// Wild inputs end, and are answered with the errors of package api alone.
func TestZ1(t *testing.T) {
	for _, n := range []int{math.MinInt, -1, 0, 10000, math.MaxInt} {
		q := api.Quilt{Turn: n, Files: []api.File{{Name: "\xff", Text: "x", Times: n}, {}, {}, {Name: "a", Times: n}}}
		rows := image.Rows(q)
		if len(rows) != 5 || !slices.IsSortedFunc(rows, func(a, b api.Change) int { return strings.Compare(a.Key, b.Key) }) {
			t.Errorf("Rows(%v): %v", q, rows)
		}
		if got, err := image.Parse(rows); err != api.ErrText || got.Files != nil || got.Turn != 0 {
			t.Errorf("Parse(%v): %v %v", rows, got, err)
		}
	}
	image.Changes(l(r("b", ""), r("a", ""), r("a", "")), l(r("c", ""), r("", ""), gone("c")))
}

func TestZ2(t *testing.T) {
	// What stands behind the lists is neither read nor written.
	a := l(r("a", "1"), r("b", "2"), r("zz", "behind"))
	b := l(r("b", "3"), r("c", "4"), r("zz", "behind"))
	before, beforeB := slices.Clone(a), slices.Clone(b)
	got := image.Changes(a[:2], b[:2])
	if !slices.Equal(got, l(gone("a"), r("b", "3"), r("c", "4"))) {
		t.Errorf("Changes: %v", got)
	}
	got[1].Val = "mine"
	if !slices.Equal(a, before) || !slices.Equal(b, beforeB) {
		t.Errorf("Changes wrote into a list: %v %v", a, b)
	}
	files := []api.File{{Name: "b", Times: 1}, {Name: "a", Times: 1}, {Name: "zz", Times: 1}}
	q := api.Quilt{Turn: 7, Files: files[:2]}
	if rows := image.Rows(q); len(rows) != 3 {
		t.Errorf("Rows: %v", rows)
	}
	if files[0].Name != "b" || files[1].Name != "a" || files[2].Name != "zz" {
		t.Errorf("Rows wrote into the quilt: %v", files)
	}
	rows := l(r("fa", "0001"), turn, r("u", "behind"))
	if _, err := image.Parse(rows[:2]); err != nil || rows[2].Key != "u" {
		t.Errorf("Parse: %v", err)
	}
}
