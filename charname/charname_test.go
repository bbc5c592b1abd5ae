package charname_test

import (
	"testing"

	"moraine/charname"
)

// names are the names that chapter 4 tells, and their chars.
func names() map[string]rune {
	return map[string]rune{"nul": 0, "alarm": 7, "backspace": 8, "tab": 9, "newline": 10, "return": 13, "escape": 27, "space": 32, "delete": 127}
}

func TestNames(t *testing.T) {
	for name, c := range names() {
		if got, ok := charname.Char(name); !ok || got != c {
			t.Errorf("Char(%q): %d, %v", name, got, ok)
		}
		if got, ok := charname.Name(c); !ok || got != name {
			t.Errorf("Name(%d): %q, %v", c, got, ok)
		}
	}
}

func TestNoNames(t *testing.T) {
	for _, name := range []string{"", "a", "n", "null", "NUL", "Space", "space ", "linefeed", "x41"} {
		if got, ok := charname.Char(name); ok || got != 0 {
			t.Errorf("Char(%q): %d, %v", name, got, ok)
		}
	}
	count := 0
	for c := rune(-300); c <= 0x10FFFF+300; c++ {
		if name, ok := charname.Name(c); ok {
			count++
		} else if name != "" {
			t.Errorf("Name(%d): %q, %v", c, name, ok)
		}
	}
	if count != len(names()) {
		t.Errorf("%d chars have a name", count)
	}
}
