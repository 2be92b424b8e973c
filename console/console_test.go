package console_test

import (
	"errors"
	"fmt"
	"maps"
	"math/rand"
	"slices"
	"strconv"
	"strings"
	"testing"

	"patchquilt/api"
	"patchquilt/console"
)

// run lines that may be run: their answers.
func run(t *testing.T, lines ...string) []string {
	t.Helper()
	answers, err := console.Run(lines)
	if err != nil || len(answers) != len(lines) {
		t.Fatalf("Run: %d answers to %d lines, %v", len(answers), len(lines), err)
	}
	return answers
}

// told: is a session as it is written down, a line and its answer in each row?
func told(t *testing.T, text string) {
	t.Helper()
	var lines, want []string
	for row := range strings.Lines(text) {
		line, answer, is := strings.Cut(strings.TrimSuffix(row, "\n"), " => ")
		if !is {
			continue
		}
		lines, want = append(lines, line), append(want, answer)
	}
	if len(lines) == 0 {
		t.Fatal("no lines")
	}
	for i, answer := range run(t, lines...) {
		if answer != want[i] {
			t.Errorf("line %d: %q: %q, want %q", i, lines[i], answer, want[i])
		}
	}
}

// last answer of a session.
func last(t *testing.T, lines ...string) string {
	t.Helper()
	answers := run(t, lines...)
	return answers[len(answers)-1]
}

func TestL1Example(t *testing.T) {
	told(t, `
write a hay => ok
write b oats => ok
write c - => ok
all => a=hay b=oats c=-
turn => 4
name b d => ok
name a d => error 6
swap a d => ok
read a => oats 2
read d => hay 2
spoil 1 0 => ok
spoil 1 1 => ok
diff 1 => error 4
all => a=oats c=- d=hay
scrub => 1
diff 1 => -
scrub => 0
write e x => ok
spoil 2 30 => ok
diff 2 => a c d e
write f y => ok
open => 1
diff 2 => -
drop c => ok
drop c => error 5
all => a=oats d=hay e=x f=y
arm 2 1 => ok
write g z => error 8
restart 2 3 => ok
diff 2 => -
open => 1
all => a=oats d=hay e=x f=y g=z
arm 0 0 => ok
write h q => error 8
restart 0 0 => ok
open => 0
read h => error 5
restart 3 0 => error 5
diff 4 => error 5
write abcdefg x => error 2
write A x => error 3
write a zzzzzzzzzzzzz => error 2
swap a a => ok
turn => 11
read zz => error 5
fly high => error 4
`)
}

func TestL1HowMany(t *testing.T) {
	for _, n := range []int{0, 1, api.MaxLines - 1, api.MaxLines} {
		answers := run(t, slices.Repeat([]string{"turn"}, n)...)
		if slices.ContainsFunc(answers, func(s string) bool { return s != "1" }) {
			t.Errorf("%d lines: %q", n, answers)
		}
	}
	if _, err := console.Run(nil); err != nil {
		t.Errorf("no lines: %v", err)
	}
	for _, n := range []int{api.MaxLines + 1, 2 * api.MaxLines, 10000} {
		answers, err := console.Run(make([]string, n))
		if len(answers) != 0 || err != error(api.ErrMany) {
			t.Errorf("%d lines: %q %v, want ErrMany", n, answers, err)
		}
	}
}

func TestL1New(t *testing.T) {
	told(t, `
all => -
turn => 1
scrub => 0
open => 0
diff 0 => -
diff 1 => -
diff 2 => -
read a => error 5
drop a => error 5
`)
}

func TestL1Files(t *testing.T) {
	told(t, `
write b hay => ok
write a oats => ok
write b x => ok
read b => x 2
read a => oats 1
all => a=oats b=x
turn => 4
write c => error 4
write  hay => error 3
write B hay => error 3
write a_ hay => error 3
write abcdef hay => ok
write abcdefg hay => error 2
all => a=oats abcdef=hay b=x
drop abcdef => ok
drop abcdef => error 5
drop  => error 5
drop A => error 5
read  => error 5
read A => error 5
turn => 6
drop a => ok
drop b => ok
all => -
turn => 8
write a hay => ok
read a => hay 1
`)
}

func TestL1Full(t *testing.T) {
	told(t, `
write a 1 => ok
write b 2 => ok
write c 3 => ok
write d 4 => ok
write e 5 => ok
write f 6 => ok
write g 7 => ok
write h 8 => ok
write i 9 => error 7
write A 9 => error 3
turn => 9
write h 9 => ok
name h i => ok
write h 8 => error 7
all => a=1 b=2 c=3 d=4 e=5 f=6 g=7 i=9
drop a => ok
write h 8 => ok
all => b=2 c=3 d=4 e=5 f=6 g=7 h=8 i=9
turn => 13
scrub => 0
`)
}

func TestL1NameSwap(t *testing.T) {
	told(t, `
name a b => error 5
name a A => error 5
name   => error 5
swap a a => error 5
swap   => error 5
write a hay => ok
name a  => error 3
name a B => error 3
name a abcdefg => error 2
name a a => error 6
name  a => error 5
swap a b => error 5
swap b a => error 5
swap a  => error 5
swap  a => error 5
turn => 2
name a b => ok
read a => error 5
read b => hay 1
write a - => ok
swap a b => ok
all => a=hay b=-
read a => hay 2
read b => - 2
turn => 5
swap a a => ok
read a => hay 2
turn => 6
`)
}

func TestL1Text(t *testing.T) {
	texts := map[string]string{
		"-":            "- 1",
		"--":           "-- 1",
		"-a":           "-a 1",
		"=":            "= 1",
		"a=b":          "a=b 1",
		"A":            "A 1",
		"0":            "0 1",
		"ok":           "ok 1",
		"\x00":         "\x00 1",
		"\n":           "\n 1",
		"\t":           "\t 1",
		"\xff\xfe":     "\xff\xfe 1",
		"\u00e9\u00a0": "\u00e9\u00a0 1",
	}
	for text, want := range texts {
		if got := last(t, "write a "+text, "read a"); got != want {
			t.Errorf("%q: read as %q, want %q", text, got, want)
		}
		if got := last(t, "write a "+text, "all"); got != "a="+strings.TrimSuffix(want, " 1") {
			t.Errorf("%q: told as %q", text, got)
		}
	}
	for n, want := range map[int]string{0: "error 4", 1: "ok", api.MaxText: "ok", api.MaxText + 1: "error 2", 40: "error 2"} {
		if got := last(t, "write a "+strings.Repeat("z", n)); got != want {
			t.Errorf("a text of %d bytes: %q, want %q", n, got, want)
		}
	}
	if got := last(t, "write A ", "all"); got != "-" {
		t.Errorf("all: %q", got)
	}
}

func TestL1Disks(t *testing.T) {
	told(t, `
write a hay => ok
spoil 0 26 => ok
diff 0 => error 4
diff 1 => -
diff 2 => -
write b oats => ok
all => a=hay b=oats
read b => oats 1
scrub => 1
diff 0 => -
scrub => 0
spoil 2 26 => ok
diff 2 => error 4
open => 1
diff 2 => -
open => 0
all => a=hay b=oats
turn => 3
`)
}

func TestL1Diff(t *testing.T) {
	// The log begins at sector 26: a new quilt has two sectors there, each write three behind it.
	told(t, `
write a hay => ok
write b oats => ok
write a x => ok
spoil 1 34 => ok
diff 1 => a
diff 0 => -
spoil 1 31 => ok
diff 1 => a b
spoil 1 28 => ok
diff 1 => a b
name a c => ok
diff 1 => b c
drop b => ok
diff 1 => c
drop c => ok
diff 1 => -
scrub => 1
diff 1 => -
scrub => 0
`)
}

func TestL1MoreSpoilt(t *testing.T) {
	told(t, `
write a hay => ok
spoil 0 26 => ok
spoil 1 26 => ok
scrub => 2
all => a=hay
spoil 0 26 => ok
spoil 2 26 => ok
open => 2
all => a=hay
write b x => ok
spoil 0 26 => ok
spoil 1 26 => ok
spoil 2 26 => ok
open => error 4
all => a=hay b=x
turn => 3
scrub => 3
open => 0
all => a=hay b=x
`)
	// Two disks that have the same outvote the third one, though they are behind it.
	told(t, `
write a hay => ok
write b oats => ok
spoil 0 31 => ok
spoil 1 31 => ok
diff 0 => b
all => a=hay b=oats
open => 1
all => a=hay
turn => 2
write b x => ok
read b => x 1
`)
}

func TestL1Spoil(t *testing.T) {
	for sector, want := range map[int]string{0: "ok", 25: "ok", api.Sectors - 1: "ok", api.Sectors: "error 1", 999: "error 1"} {
		if got := last(t, fmt.Sprint("spoil 1 ", sector)); got != want {
			t.Errorf("spoil 1 %d: %q, want %q", sector, got, want)
		}
	}
	// What is spoilt is flushed: a Restart that keeps nothing leaves it so.
	told(t, `
spoil 1 26 => ok
restart 1 0 => ok
diff 1 => error 4
`)
}

func TestL1Restart(t *testing.T) {
	told(t, `
write a hay => ok
restart 0 0 => ok
restart 1 999 => ok
restart 2 1 => ok
all => a=hay
diff 0 => -
diff 1 => -
diff 2 => -
scrub => 0
open => 0
write b x => ok
turn => 3
`)
}

func TestL1Fall(t *testing.T) {
	// Of these answers the console's chapter says nothing; they are the trio's.
	told(t, `
write a hay => ok
arm 1 0 => ok
write b x => error 8
diff 1 => error 4
spoil 1 0 => error 8
spoil 1 60 => error 1
open => error 8
all => a=hay
restart 1 0 => ok
spoil 1 60 => error 1
open => 1
arm 1 999 => ok
write c y => ok
arm 2 2 => ok
restart 2 0 => ok
write d z => ok
`)
	// A step is left for each that is armed: a spoil is two of them.
	told(t, `
arm 0 1 => ok
spoil 0 59 => error 8
restart 0 0 => ok
arm 0 2 => ok
spoil 0 59 => ok
spoil 0 59 => error 8
`)
}

func TestL1Numbers(t *testing.T) {
	wrong := []string{"", "-", "00", "01", "007", "+1", "-1", "-0", "1.", "1.0", "0x1", "1e1", "1_0", "x", "1x", "1000", "9999", "4294967296", "18446744073709551616", "99999999999999999999", "\u0661", "1\n", "1\t", "\x001"}
	for _, n := range wrong {
		for _, line := range []string{"diff " + n, "arm " + n + " 0", "arm 0 " + n, "restart " + n + " 0", "restart 0 " + n, "spoil " + n + " 0", "spoil 0 " + n, "arm 3 " + n, "spoil 3 " + n, "restart 999 " + n} {
			if got := last(t, line); got != "error 4" {
				t.Errorf("%q: %q, want error 4", line, got)
			}
		}
	}
	for d := range 1000 {
		want := map[bool]string{true: "ok", false: "error 5"}[d < api.Disks]
		disk := strconv.Itoa(d)
		for _, line := range []string{"arm " + disk + " 0", "restart " + disk + " 999", "spoil " + disk + " 9"} {
			if got := last(t, line); got != want {
				t.Errorf("%q: %q, want %q", line, got, want)
			}
		}
		if got := last(t, "diff "+disk); d >= api.Disks && got != "error 5" {
			t.Errorf("diff %d: %q, want error 5", d, got)
		}
	}
	if got := last(t, "spoil 3 60"); got != "error 5" {
		t.Errorf("spoil 3 60: %q, want error 5", got)
	}
}

func TestL2Lines(t *testing.T) {
	wrong := []string{
		"", " ", "  ", "fly", "fly high", "fly high up", "ok", "-", "error 4",
		"all ", " all", "all 1", "all all", "All", "ALL", "all\n", "all\t",
		"turn ", " turn", "turn 1", "scrub ", "scrub 0", "open ", "open 0", "open 0 0",
		"write", "write ", "write a", "write a ", "write  ", "write  a ", " write a x", "write a x ", "write a x y", "write a  x", "write\ta\tx", "writ a x",
		"drop", "drop a b", " drop a", "drop a ", "drop  a",
		"name", "name ", "name a", "name a b c", "name a  b", "name a b ",
		"swap", "swap a", "swap a a a", "swap a  a", "swap a a ",
		"read", "read a 1", "read a ", "read  a",
		"diff", "diff ", "diff 0 ", "diff 0 1", "diff  0",
		"arm", "arm ", "arm 0", "arm 0 ", "arm 0 0 0", "arm  0 0",
		"restart", "restart 0", "restart 0 ", "restart 0 0 0", "restart 0  0",
		"spoil", "spoil 0", "spoil 0 ", "spoil 0 0 0", "spoil 0 0 ",
		"\x00", "\xff", "\u00a0all", "write\u00a0a x",
	}
	for _, line := range wrong {
		answers := run(t, "write a hay", "write b oats", line, "all", "turn", "scrub", "open")
		want := []string{"ok", "ok", "error 4", "a=hay b=oats", "3", "0", "0"}
		if !slices.Equal(answers, want) {
			t.Errorf("%q: %q, want %q", line, answers, want)
		}
	}
}

func TestL2Long(t *testing.T) {
	// Lines that would be some, but for their bytes, and what is told of one that has just as many as it may.
	lines := map[string]string{"read ": "error 5", "drop ": "error 5", "write a ": "error 2", "write ": "error 4", "name a ": "error 2", "swap a ": "error 5", "diff ": "error 4", "x": "error 4", "write a x\u00e9": "error 2"}
	for line, want := range lines {
		for n, want := range map[int]string{api.MaxLine: want, api.MaxLine + 1: "error 4", 100000: "error 4"} {
			long := line + strings.Repeat("z", n-len(line))
			answers := run(t, "write a hay", long, "all")
			if answers[1] != want || answers[2] != "a=hay" {
				t.Errorf("%q of %d bytes: %q, want %q", line, n, answers, want)
			}
		}
	}
}

func TestL2EachError(t *testing.T) {
	// An error that answers changes nothing.
	lines := map[string]string{"spoil 0 60": "error 1", "write a zzzzzzzzzzzzz": "error 2", "write A x": "error 3", "fly": "error 4", "read c": "error 5", "drop c": "error 5", "diff 3": "error 5", "name a b": "error 6", "name a A": "error 3", "swap a c": "error 5"}
	for line, want := range lines {
		told(t, "write a hay => ok\nwrite b x => ok\n"+line+" => "+want+"\nall => a=hay b=x\nturn => 3\nread a => hay 1\nscrub => 0\nopen => 0\nturn => 3")
	}
}

// model of a quilt: what a session's files should be, kept in another way than the program's.
type model struct {
	texts map[string]string
	times map[string]int
	turn  int
}

func newModel() *model {
	return &model{texts: map[string]string{}, times: map[string]int{}, turn: 1}
}

func (m *model) has(name string) bool { return m.times[name] > 0 }

func (m *model) put(name, text string, times int) {
	m.texts[name], m.times[name] = text, times
}

func (m *model) drop(name string) {
	delete(m.texts, name)
	delete(m.times, name)
}

func (m *model) all() string {
	var l []string
	for _, name := range slices.Sorted(maps.Keys(m.texts)) {
		l = append(l, name+"="+m.texts[name])
	}
	if len(l) == 0 {
		return "-"
	}
	return strings.Join(l, " ")
}

// wrongName: what is told of a name that no file may have; empty: one may.
func wrongName(s string) string {
	if strings.Trim(s, "abcdefghijklmnopqrstuvwxyz0123456789") != "" || s == "" {
		return "error 3"
	}
	if len(s) > 6 {
		return "error 2"
	}
	return ""
}

func (m *model) write(name, text string) string {
	if e := wrongName(name); e != "" {
		return e
	}
	if len(text) > 12 {
		return "error 2"
	}
	if !m.has(name) && len(m.times) == 8 {
		return "error 7"
	}
	m.put(name, text, m.times[name]+1)
	m.turn++
	return "ok"
}

func (m *model) rename(name, to string) string {
	if !m.has(name) {
		return "error 5"
	}
	if e := wrongName(to); e != "" {
		return e
	}
	if m.has(to) {
		return "error 6"
	}
	m.put(to, m.texts[name], m.times[name])
	m.drop(name)
	m.turn++
	return "ok"
}

func (m *model) swap(a, b string) string {
	if !m.has(a) || !m.has(b) {
		return "error 5"
	}
	m.turn++
	if a != b {
		x, y := m.texts[a], m.texts[b]
		m.put(a, y, m.times[a]+1)
		m.put(b, x, m.times[b]+1)
	}
	return "ok"
}

// draw a line about files, and what is to be told.
func (m *model) draw(r *rand.Rand) (string, string) {
	names := []string{"a", "b", "c", "d", "e", "f", "g", "h", "i", "a0", "abcdef", "abcdefg", "", "A", "a-"}
	name, to := names[r.Intn(len(names))], names[r.Intn(len(names))]
	switch r.Intn(8) {
	case 0, 1, 2:
		text := []string{"-", "hay", "oats", "x=y", "zzzzzzzzzzzz", "zzzzzzzzzzzzz"}[r.Intn(6)]
		return "write " + name + " " + text, m.write(name, text)
	case 3:
		if !m.has(name) {
			return "drop " + name, "error 5"
		}
		m.drop(name)
		m.turn++
		return "drop " + name, "ok"
	case 4:
		return "name " + name + " " + to, m.rename(name, to)
	case 5:
		return "swap " + name + " " + to, m.swap(name, to)
	case 6:
		if !m.has(name) {
			return "read " + name, "error 5"
		}
		return "read " + name, m.texts[name] + " " + strconv.Itoa(m.times[name])
	}
	if r.Intn(2) == 0 {
		return "turn", strconv.Itoa(m.turn)
	}
	return "all", m.all()
}

// TestL1Drawn: sessions with one disk of which a sector is spoilt now and then, whichever, are told as if nothing had been, but for how many were laid anew.
func TestL1Drawn(t *testing.T) {
	for seed := range int64(400) {
		r := rand.New(rand.NewSource(seed))
		m := newModel()
		var lines, want []string
		add := func(line, answer string) { lines, want = append(lines, line), append(want, answer) }
		bad := r.Intn(api.Disks)
		for len(lines) < api.MaxLines {
			switch r.Intn(12) {
			case 0:
				add(fmt.Sprint("spoil ", bad, " ", r.Intn(api.Sectors)), "ok")
			case 1:
				add([]string{"scrub", "open"}[r.Intn(2)], "?")
				bad = r.Intn(api.Disks)
			case 2:
				add(fmt.Sprint("diff ", (bad+1)%api.Disks), "-")
			case 3:
				add(fmt.Sprint("restart ", r.Intn(api.Disks), " ", r.Intn(1000)), "ok")
			default:
				add(m.draw(r))
			}
		}
		for i, answer := range run(t, lines...) {
			if want[i] == "?" {
				if answer != "0" && answer != "1" {
					t.Fatalf("seed %d: line %d: %q: %q", seed, i, lines[i], answer)
				}
			} else if answer != want[i] {
				t.Fatalf("seed %d: line %d: %q: %q, want %q: %q", seed, i, lines[i], answer, want[i], lines)
			}
		}
	}
}

func TestL1Long(t *testing.T) {
	// Each disk's log is filled again and again.
	var lines []string
	for i := range api.MaxLines - 6 {
		lines = append(lines, fmt.Sprintf("write %c %d", 'a'+rune(i%8), i))
	}
	answers := run(t, append(lines, "all", "turn", "diff 0", "scrub", "open", "read a")...)
	want := []string{"a=72 b=73 c=66 d=67 e=68 f=69 g=70 h=71", "75", "-", "0", "0", "72 10"}
	if got := answers[len(lines):]; !slices.Equal(got, want) {
		t.Errorf("%q, want %q", got, want)
	}
}

// drawnLine: anything, mostly near to some line.
func drawnLine(r *rand.Rand) string {
	words := []string{"write", "drop", "name", "swap", "read", "all", "turn", "scrub", "open", "diff", "arm", "restart", "spoil", "a", "b", "c", "hay", "-", "", "0", "1", "2", "3", "7", "26", "59", "60", "999", "1000", "\xff"}
	n := func(most int) string { return strconv.Itoa(r.Intn(most)) }
	switch r.Intn(9) {
	case 0:
		return "arm " + n(4) + " " + n(40)
	case 1:
		return "restart " + n(4) + " " + n(1000)
	case 2:
		return "spoil " + n(4) + " " + n(62)
	case 3, 4:
		return "write " + words[13+r.Intn(5)] + " " + n(100)
	case 5:
		return []string{"open", "scrub", "all", "turn", "diff " + n(4)}[r.Intn(5)]
	case 6:
		b := make([]byte, r.Intn(60))
		r.Read(b)
		return string(b)
	}
	var l []string
	for range r.Intn(5) {
		l = append(l, words[r.Intn(len(words))])
	}
	return strings.Join(l, " ")
}

// TestZ1: whatever falls, each line is answered, in a shape that an answer has; and again the same.
func TestZ1(t *testing.T) {
	for seed := range int64(600) {
		r := rand.New(rand.NewSource(seed))
		lines := make([]string, r.Intn(api.MaxLines+1))
		for i := range lines {
			lines[i] = drawnLine(r)
		}
		answers := run(t, lines...)
		for i, answer := range answers {
			n, failed := strings.CutPrefix(answer, "error ")
			if answer == "" || failed && (len(n) != 1 || n < "1" || n > "8") {
				t.Fatalf("seed %d: %q: %q", seed, lines[i], answer)
			}
		}
		if again := run(t, lines...); !slices.Equal(again, answers) {
			t.Fatalf("seed %d: %q, and again %q", seed, answers, again)
		}
	}
}

func TestZ2(t *testing.T) {
	lines := []string{"write a hay", "all", "fly", "write b x", "drop b"}
	was := slices.Clone(lines)
	answers := run(t, lines[:3:5]...)
	clear(answers)
	if again := run(t, lines[:3]...); !slices.Equal(again, []string{"ok", "a=hay", "error 4"}) {
		t.Errorf("again: %q", again)
	}
	if !slices.Equal(lines, was) {
		t.Errorf("written into: %q", lines)
	}
	// Sessions have nothing of each other.
	if got := run(t, "all", "turn"); !slices.Equal(got, []string{"-", "1"}) {
		t.Errorf("a new session: %q", got)
	}
}

func TestZ3(t *testing.T) {
	_, err := console.Run(make([]string, api.MaxLines+1))
	if e, is := err.(api.Errno); !is || e != api.ErrMany || errors.Unwrap(err) != nil {
		t.Errorf("%v is no bare ErrMany", err)
	}
}
