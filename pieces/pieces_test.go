package pieces_test

import (
	"strings"
	"testing"

	"moraine/api"
	"moraine/pieces"
)

// The chapter's examples.
func TestPieces(t *testing.T) {
	m := pieces.New(8)
	m.Take(0, 0)
	m.Take(1, 2)
	if l := m.Taken(); m.Free() != 6 || len(l) != 2 || l[1] != 1 {
		t.Errorf("%d free, %v taken", m.Free(), l)
	}
	for _, c := range []struct {
		seg, n, addr int
		e            api.Errno
	}{{0, 2, 0, api.OK}, {1, 63, 64, api.OK}, {1, 2, 0, api.ErrFull}, {1, 0, 0, api.ErrArg}, {2, 1, 0, api.ErrNone}} {
		if addr, e := m.Bump(c.seg, c.n); addr != c.addr || e != c.e {
			t.Errorf("Bump(%d, %d): %d, %d", c.seg, c.n, addr, e)
		}
	}
	if e := m.Write(65, 7); e != api.OK {
		t.Errorf("Write: %d", e)
	}
	for addr, want := range map[int]api.Word{65: 7, 2: 0, 127: 0} {
		if w, _ := m.Read(addr); w != want {
			t.Errorf("Read(%d): %d", addr, w)
		}
	}
	m.Give(0)
	if n, e := m.Take(4, 3); n != 0 || e != api.OK || m.Give(7) != api.ErrNone {
		t.Errorf("Take: %d, %d", n, e)
	}
	if l := m.Taken(); len(l) != 2 || l[0] != 1 {
		t.Errorf("%v taken", l)
	}
}

// Whatever is done to one of two, Unlike tells of it.
func TestUnlike(t *testing.T) {
	m := pieces.New(8)
	for n := range 3 {
		m.Take(n, n)
		m.Bump(n, 2)
	}
	if s := m.Unlike(m.Copy()); s != "" {
		t.Errorf("a copy: %s", s)
	}
	for want, change := range map[string]func(*pieces.Mem){
		"are free 4":        func(m *pieces.Mem) { m.Take(0, 0) },
		"are free 6":        func(m *pieces.Mem) { m.Give(2) },
		"taken are (0 2 1)": func(m *pieces.Mem) { m.Give(1); m.Take(1, 1); m.Bump(1, 2) },
		"the generation 1 are ()": func(m *pieces.Mem) {
			m.Give(2)
			m.Take(3, 2)
			m.Give(1)
			m.Take(2, 1)
			m.Give(2)
			m.Take(2, 2)
		},
		"0 is (0 0 3 5 5 5 5)":    func(m *pieces.Mem) { m.Bump(0, 1) },
		"1 is (1 1 2 5 0 5 5)":    func(m *pieces.Mem) { m.Mark(1, 1, 0) },
		"at 129 is 9 (0), want 0": func(m *pieces.Mem) { m.Write(129, 9) },
	} {
		c := m.Copy()
		change(c)
		if s := m.Unlike(c); !strings.Contains(s, want) {
			t.Errorf("%q, want %q", s, want)
		}
	}
	if s := m.Unlike(pieces.New(9)); !strings.HasPrefix(s, "of 9 ") {
		t.Errorf("another limit: %q", s)
	}
}
