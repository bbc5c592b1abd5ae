package show

import (
	"strconv"
	"strings"
	"unicode"

	"moraine/api"
	"moraine/charname"
	"moraine/datum"
	"moraine/lex"
)

// displayed answers the chars of d, a char, a string or a symbol.
func displayed(d api.Datum) string {
	if d.Kind == api.DatChar {
		return string(d.C)
	}
	return d.T
}

// written answers d, a char, a string or a symbol, as it is written.
func written(d api.Datum) string {
	mark := '"'
	switch d.Kind {
	case api.DatChar:
		return `#\` + called(d.C)
	case api.DatSym:
		if isBare(d) {
			return d.T
		}
		mark = '|'
		fallthrough
	default:
		return quoted(d.T, mark)
	}
}

// called answers what stands behind #\ for c.
func called(c rune) string {
	if name, ok := charname.Name(c); ok {
		return name
	}
	if unicode.IsControl(c) {
		return "x" + hex(c)
	}
	return string(c)
}

// isBare tells whether the symbol d is written without marks: its chars are
// read as that symbol. What is read of fewer than all of them is another one.
func isBare(d api.Datum) bool {
	t, _, _ := lex.Next(d.T, 0)
	return datum.Same(t.D, d) && !strings.ContainsFunc(d.T, isHidden)
}

// quoted answers text between two marks.
func quoted(text string, mark rune) string {
	var out strings.Builder
	out.WriteRune(mark)
	for _, c := range text {
		out.WriteString(escaped(c, mark))
	}
	out.WriteRune(mark)
	return out.String()
}

// escaped answers c as it stands between two marks.
func escaped(c, mark rune) string {
	switch c {
	case mark, '\\':
		return `\` + string(c)
	case '\n':
		return `\n`
	case '\t':
		return `\t`
	case '\r':
		return `\r`
	}
	if isHidden(c) {
		return `\x` + hex(c) + ";"
	}
	return string(c)
}

// isHidden tells whether no text has c as it is. Of the chars that stand as
// numbers behind #\ those above 127 are not hidden.
func isHidden(c rune) bool { return unicode.IsControl(c) && c <= unicode.MaxASCII }

// hex answers the number of c to the base 16.
func hex(c rune) string { return strconv.FormatInt(int64(c), 16) }
