package row_test

import (
	"math/rand"
	"slices"
	"strings"
	"testing"

	"patchquilt/api"
	"patchquilt/row"
)

func r(key, val string) api.Change { return api.Change{Key: key, Val: val} }

func gone(key string) api.Change { return api.Change{Key: key, Gone: true} }

func l(rows ...api.Change) []api.Change { return rows }

var (
	key8  = strings.Repeat("k", api.MaxKey)
	key9  = strings.Repeat("k", api.MaxKey+1)
	val16 = strings.Repeat("v", api.MaxVal)
	val17 = strings.Repeat("v", api.MaxVal+1)
)

// wrong: changes that may not be, and why.
func wrong() map[error][]api.Change {
	return map[error][]api.Change{
		api.ErrShape: {
			{}, r("", "x"), r("", val17), gone(""),
			{Key: "a", Val: "x", Gone: true}, {Key: "a", Val: "\x00", Gone: true}, {Val: "x", Gone: true},
			// What may not be so is told ahead of what is too many.
			{Key: key9, Val: "x", Gone: true}, {Key: "a", Val: val17, Gone: true}, {Key: key9, Val: val17, Gone: true},
		},
		api.ErrMany: {r(key9, ""), r(key9, "x"), r("a", val17), r(key9, val17), gone(key9), r("a", strings.Repeat("v", 300)), r(strings.Repeat("k", 257), "")},
	}
}

func right() []api.Change {
	return l(r("a", ""), r("a", "x"), r("\x00", "\x00\xff"), r(key8, val16), r(key8, ""), r("a", val16), gone("a"), gone(key8), r("é", "ü"))
}

func TestG1(t *testing.T) {
	for _, c := range right() {
		if err := row.Check(c); err != nil {
			t.Errorf("Check(%#v): %v", c, err)
		}
	}
	for want, changes := range wrong() {
		for _, c := range changes {
			if err := row.Check(c); err != want {
				t.Errorf("Check(%#v): %v, want %v", c, err, want)
			}
		}
	}
}

func TestG2Bytes(t *testing.T) {
	for _, x := range []struct {
		c    api.Change
		want string
	}{
		{r("a", ""), "\x00\x01a"},
		{r("a", "x"), "\x00\x01ax"},
		{r("turn", "0001"), "\x00\x04turn0001"},
		{gone("fa"), "\x01\x02fa"},
		{r(key8, val16), "\x00\x08" + key8 + val16},
		{r("\x00", "\xff\x00"), "\x00\x01\x00\xff\x00"},
	} {
		if s, err := row.Bytes(x.c); err != nil || s != x.want {
			t.Errorf("Bytes(%#v): %q %v, want %q", x.c, s, err, x.want)
		}
	}
	for want, changes := range wrong() {
		for _, c := range changes {
			if s, err := row.Bytes(c); err != want || s != "" {
				t.Errorf("Bytes(%#v): %q %v, want %v", c, s, err, want)
			}
		}
	}
}

func TestG2Parse(t *testing.T) {
	for _, c := range right() {
		s, _ := row.Bytes(c)
		if got, err := row.Parse(s); err != nil || got != c {
			t.Errorf("Parse(%q): %#v %v, want %#v", s, got, err, c)
		}
	}
	for _, s := range []string{
		"", "\x00", "\x01", "\x00\x00", "\x01\x00", "\x00\x01", "\x00\x02a", "\x00\x00a", "\x00\x00ax",
		"\x02\x01a", "\xff\x01a", "o\x01a", "\x01\x01ax", "\x01\x02fax",
		"\x00\x09" + key9, "\x00\x09" + key9 + "x", "\x01\x09" + key9, "\x00\x01a" + val17, "\x00\x08" + key8 + val17,
		"\x00\xff" + strings.Repeat("k", 255), "\x00\xffk", "\x00\x01a" + strings.Repeat("v", 300),
	} {
		if got, err := row.Parse(s); err != api.ErrText || got != (api.Change{}) {
			t.Errorf("Parse(%q): %#v %v", s, got, err)
		}
	}
}

// All texts of few bytes: those that are a change's bytes are parsed, no other.
func TestG2ParseShort(t *testing.T) {
	alphabet := "\x00\x01\x02\x03\x08\x09ak\xff"
	texts, from := []string{""}, 0
	for range 4 {
		here := len(texts)
		for _, s := range texts[from:here] {
			for i := range len(alphabet) {
				texts = append(texts, s+alphabet[i:i+1])
			}
		}
		from = here
	}
	parsed := 0
	for _, s := range texts {
		c, err := row.Parse(s)
		if err == nil {
			parsed++
			if b, err := row.Bytes(c); err != nil || b != s {
				t.Fatalf("Parse(%q): %#v, whose Bytes are %q %v", s, c, b, err)
			}
		} else if err != api.ErrText || c != (api.Change{}) {
			t.Fatalf("Parse(%q): %#v %v", s, c, err)
		}
	}
	// A key of one byte with a value of up to one, or gone; and one of two bytes, or gone.
	n := len(alphabet)
	if want := n + n + n*n + 2*n*n; parsed != want {
		t.Errorf("%d of %d texts are parsed, want %d", parsed, len(texts), want)
	}
}

func TestG3(t *testing.T) {
	a, b, c := r("a", "1"), r("b", "2"), r("c", "3")
	for _, x := range []struct{ rows, l, want []api.Change }{
		{nil, nil, nil},
		{l(a, b), nil, l(a, b)},
		{nil, l(b, a), l(a, b)},
		{l(a, c), l(b), l(a, b, c)},
		{l(b, c), l(a), l(a, b, c)},
		{l(a, b), l(c), l(a, b, c)},
		{l(a, b, c), l(r("b", "")), l(a, r("b", ""), c)},
		{l(a, b, c), l(gone("b")), l(a, c)},
		{l(a, b, c), l(gone("a"), gone("b"), gone("c")), nil},
		{l(a, b), l(gone("c"), gone("")), l(a, b)},
		{nil, l(gone("a")), nil},
		// One behind the other: the last one of a key counts.
		{l(a), l(gone("a"), r("a", "9")), l(r("a", "9"))},
		{l(a), l(r("a", "9"), gone("a")), nil},
		{nil, l(r("a", "8"), r("b", "1"), r("a", "9")), l(r("a", "9"), r("b", "1"))},
		{l(b), l(gone("b"), gone("b"), b, gone("b"), r("b", "x")), l(r("b", "x"))},
		{l(r("a", "1"), r("aa", "2")), l(r("a\x00", "3")), l(r("a", "1"), r("a\x00", "3"), r("aa", "2"))},
	} {
		if got := row.Apply(x.rows, x.l); !slices.Equal(got, x.want) {
			t.Errorf("Apply(%v, %v): %v, want %v", x.rows, x.l, got, x.want)
		}
	}
}

// drawn: some changes of nine keys; many keys come more than once.
func drawn(d *rand.Rand, most int) []api.Change {
	var changes []api.Change
	for range d.Intn(most + 1) {
		c := r(string(rune('a'+d.Intn(9))), []string{"", "x", "y"}[d.Intn(3)])
		if d.Intn(3) == 0 {
			c = gone(c.Key)
		}
		changes = append(changes, c)
	}
	return changes
}

func TestG3Drawn(t *testing.T) {
	d := rand.New(rand.NewSource(71))
	for range 3000 {
		m := map[string]api.Change{}
		var rows []api.Change
		for range 4 {
			changes := drawn(d, 20)
			for _, c := range changes {
				if c.Gone {
					delete(m, c.Key)
				} else {
					m[c.Key] = c
				}
			}
			rows = row.Apply(rows, changes)
			if len(rows) != len(m) {
				t.Fatalf("Apply .. %v: %v, want %v", changes, rows, m)
			}
			for i, c := range rows {
				if m[c.Key] != c || i > 0 && rows[i-1].Key >= c.Key {
					t.Fatalf("Apply .. %v: %v, want %v", changes, rows, m)
				}
			}
		}
	}
}

func TestZ2(t *testing.T) {
	rows := l(r("b", "1"), r("d", "2"), r("e", "behind"), r("f", "behind"), r("g", "behind"))
	changes := l(r("c", "3"), gone("b"), r("a", "behind"))
	rowsBefore, changesBefore := slices.Clone(rows), slices.Clone(changes)
	got := row.Apply(rows[:2], changes[:2])
	if !slices.Equal(got, l(r("c", "3"), r("d", "2"))) {
		t.Errorf("Apply: %v", got)
	}
	got[0].Val, got[1].Val = "mine", "mine"
	same := row.Apply(rows[:2], nil)
	same[0].Val = "mine"
	_ = append(same, r("z", "mine"))
	new := row.Apply(nil, changes[:1])
	new[0].Val = "mine"
	if !slices.Equal(rows, rowsBefore) || !slices.Equal(changes, changesBefore) {
		t.Errorf("Apply wrote into a list: %v %v", rows, changes)
	}
}

// What no promise speaks of ends all the same.
func TestZ1(t *testing.T) {
	row.Apply(l(r("b", "1"), r("a", "2"), gone("c"), r("a", "3"), api.Change{}), l(api.Change{Val: "x", Gone: true}, r("", ""), r(key9, val17)))
}
