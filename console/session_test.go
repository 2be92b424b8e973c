package console

import (
	"slices"
	"strings"
	"testing"

	"patchquilt/api"
)

// TestL1SpoilBytes looks at the disks, since no line tells what stands in a sector: it is spoilt just there, with noughts behind.
func TestL1SpoilBytes(t *testing.T) {
	s, err := begin()
	if err != nil {
		t.Fatal(err)
	}
	was := sectors(t, s)
	if got := s.answer("spoil 1 30"); got != "ok" {
		t.Fatalf("spoil: %q", got)
	}
	s.disks[1].Restart(0)
	was[1][30] = "spoilt" + strings.Repeat("\x00", api.Sector-len("spoilt"))
	if sectors(t, s) != was {
		t.Errorf("sectors: %q, want %q", sectors(t, s), was)
	}
}

func TestL1DiskSectors(t *testing.T) {
	s, err := begin()
	if err != nil {
		t.Fatal(err)
	}
	for i, d := range s.disks {
		if d.Sectors() != api.Sectors {
			t.Errorf("disk %d has %d sectors", i, d.Sectors())
		}
	}
}

// TestL1Armed: just the disk that is named is armed, and goes on behind a restart.
func TestL1Armed(t *testing.T) {
	for k, word := range []string{"0", "1", "2"} {
		s, err := begin()
		if err != nil {
			t.Fatal(err)
		}
		s.answer("arm " + word + " 0")
		for i, d := range s.disks {
			_ = d.Flush()
			if d.Down() != (i == k) {
				t.Errorf("arm %s 0: disk %d: down: %v", word, i, d.Down())
			}
		}
		for i, other := range []string{"0", "1", "2"} {
			if s.answer("restart " + other + " 0"); s.disks[k].Down() != (i < k) {
				t.Errorf("restart %s 0: disk %d: down: %v", other, k, s.disks[k].Down())
			}
		}
	}
}

// TestL1RestartKeeps: of what wasn't flushed it keeps what the number says.
func TestL1RestartKeeps(t *testing.T) {
	s, err := begin()
	if err != nil {
		t.Fatal(err)
	}
	d := s.disks[2]
	for at := range 10 {
		_ = d.Write(50+at, "x")
	}
	s.answer("restart 2 517")
	for at := range 10 {
		got, err := d.Read(50 + at)
		if kept := 517>>at&1 == 1; err != nil || (got[0] == 'x') != kept {
			t.Errorf("write %d: %q %v", at, got, err)
		}
	}
}

func sectors(t *testing.T, s *session) (l [api.Disks][api.Sectors]string) {
	t.Helper()
	for i, d := range s.disks {
		for at := range l[i] {
			text, err := d.Read(at)
			if err != nil {
				t.Fatal(err)
			}
			l[i][at] = text
		}
	}
	return l
}

// TestL1NoBytes: a file that is written as - has no bytes, which its answers don't tell from one byte.
func TestL1NoBytes(t *testing.T) {
	s, err := begin()
	if err != nil {
		t.Fatal(err)
	}
	s.answer("write a -")
	want := []api.File{{Name: "a", Times: 1}}
	if got := s.trio.Quilt().Files; !slices.Equal(got, want) {
		t.Errorf("write a -: %v, want %v", got, want)
	}
}
