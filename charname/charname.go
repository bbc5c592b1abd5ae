// Package charname is the names of those chars that have one, for the layers
// that read chars and that write them.
package charname

// named are the chars that have a name.
var named = [...]struct {
	name string
	char rune
}{
	{"nul", 0},
	{"alarm", 7},
	{"backspace", 8},
	{"tab", 9},
	{"newline", 10},
	{"return", 13},
	{"escape", 27},
	{"space", 32},
	{"delete", 127},
}

// Char answers the char that has the name, if one has.
func Char(name string) (rune, bool) {
	for _, n := range named {
		if n.name == name {
			return n.char, true
		}
	}
	return 0, false
}

// Name answers the name of c, if it has one.
func Name(c rune) (string, bool) {
	for _, n := range named {
		if n.char == c {
			return n.name, true
		}
	}
	return "", false
}
