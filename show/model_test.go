package show_test

import (
	"fmt"
	"math/big"
	"regexp"
	"strings"
	"testing"

	"moraine/api"
	"moraine/show"
)

// A model tells data as text in the chapter's words, by calls that call
// themselves: written, or displayed.
type model struct{ write bool }

func (m model) text(d api.Datum) string {
	switch d.Kind {
	case api.DatInt:
		n := new(big.Int)
		for i := len(d.N.Mag) - 1; i >= 0; i-- {
			n.Lsh(n, 32).Add(n, big.NewInt(int64(d.N.Mag[i])))
		}
		if d.N.Neg {
			n.Neg(n)
		}
		return n.String()
	case api.DatPair:
		return "(" + m.text(d.L[0]) + m.rest(d.L[1])
	case api.DatVec:
		var l []string
		for _, item := range d.L {
			l = append(l, m.text(item))
		}
		return "#(" + strings.Join(l, " ") + ")"
	case api.DatChar, api.DatStr, api.DatSym:
		return m.chars(d)
	}
	return map[int]string{api.DatNil: "()", api.DatTrue: "#t", api.DatNo: "#f", api.DatVoid: "#<void>", api.DatEnd: "#<eof>"}[d.Kind]
}

// rest is what follows behind a car, whose cdr is d.
func (m model) rest(d api.Datum) string {
	switch d.Kind {
	case api.DatNil:
		return ")"
	case api.DatPair:
		return " " + m.text(d.L[0]) + m.rest(d.L[1])
	}
	return " . " + m.text(d) + ")"
}

// names are the chars that have a name.
func names() map[rune]string {
	return map[rune]string{0: "nul", 7: "alarm", 8: "backspace", 9: "tab", 10: "newline", 13: "return", 27: "escape", 32: "space", 127: "delete"}
}

// bare are symbols that are read as themselves, and numbers beside them.
var bare = regexp.MustCompile("^[^\\x00-\\x20\\x7F()\\[\\]\";'`,|#][^\\x00-\\x20\\x7F()\\[\\]\";'`,|]*$")

var number = regexp.MustCompile(`^[+-]?[0-9]+$`)

func (m model) chars(d api.Datum) string {
	switch {
	case !m.write && d.Kind == api.DatChar:
		return string(d.C)
	case !m.write:
		return d.T
	case d.Kind == api.DatStr:
		return `"` + escaped(d.T, `"`) + `"`
	case d.Kind == api.DatSym && bare.MatchString(d.T) && !number.MatchString(d.T) && d.T != ".":
		return d.T
	case d.Kind == api.DatSym:
		return "|" + escaped(d.T, "|") + "|"
	case names()[d.C] != "":
		return `#\` + names()[d.C]
	case d.C < 32 || d.C >= 127 && d.C <= 159:
		return fmt.Sprintf(`#\x%x`, d.C)
	}
	return `#\` + string(d.C)
}

// escaped is s between two marks.
func escaped(s, mark string) string {
	out := ""
	for _, c := range s {
		switch {
		case strings.ContainsRune(`\`+mark, c):
			out += `\` + string(c)
		case strings.ContainsRune("\n\t\r", c):
			out += `\` + map[rune]string{10: "n", 9: "t", 13: "r"}[c]
		case c < 32 || c == 127:
			out += fmt.Sprintf(`\x%x;`, c)
		default:
			out += string(c)
		}
	}
	return out
}

// shows fails, unless d is written and displayed so.
func shows(t *testing.T, d api.Datum, written, displayed string) {
	t.Helper()
	if s, e := show.Write(d); s != written || e != api.OK {
		t.Fatalf("Write(%+v): %q, %d; not %q", d, s, e, written)
	}
	if s, e := show.Display(d); s != displayed || e != api.OK {
		t.Fatalf("Display(%+v): %q, %d; not %q", d, s, e, displayed)
	}
}

// check fails, unless d is written and displayed so, and by the model too.
func check(t *testing.T, d api.Datum, written, displayed string) {
	t.Helper()
	shows(t, d, written, displayed)
	if s := (model{true}).text(d); s != written {
		t.Fatalf("the model writes %+v: %q; not %q", d, s, written)
	}
	if s := (model{false}).text(d); s != displayed {
		t.Fatalf("the model displays %+v: %q; not %q", d, s, displayed)
	}
}

// checkModel fails, unless d is written and displayed as the model does.
func checkModel(t *testing.T, d api.Datum) {
	t.Helper()
	shows(t, d, model{true}.text(d), model{false}.text(d))
}

// refused fails, unless d is refused as one that may not be.
func refused(t *testing.T, d api.Datum) {
	t.Helper()
	if s, e := show.Write(d); s != "" || e != api.ErrArg {
		t.Errorf("Write(%+v): %q, %d", d, s, e)
	}
	if s, e := show.Display(d); s != "" || e != api.ErrArg {
		t.Errorf("Display(%+v): %q, %d", d, s, e)
	}
}
