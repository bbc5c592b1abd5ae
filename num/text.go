package num

import (
	"strconv"
	"strings"

	"moraine/api"
)

// Digits are read and written by groups: as many digits as a limb has room for,
// whatever they are.
const (
	groupDigits = 9
	groupEnd    = 1_000_000_000
)

// Text answers n's value in decimal digits.
func Text(n api.Num) string {
	// The groups come the lowest first.
	var groups []uint32
	for mag := trim(n.Mag); len(mag) > 0; {
		var group uint32
		mag, group = divideByLimb(mag, groupEnd)
		groups = append(groups, group)
	}
	if len(groups) == 0 {
		return "0"
	}
	var out strings.Builder
	if n.Neg {
		out.WriteByte('-')
	}
	for i, group := range turned(groups) {
		digits := strconv.FormatUint(uint64(group), 10)
		if i > 0 {
			out.WriteString(strings.Repeat("0", groupDigits-len(digits)))
		}
		out.WriteString(digits)
	}
	return out.String()
}

// Parse answers the number that s writes in decimal digits.
func Parse(s string) (api.Num, api.Errno) {
	neg := strings.HasPrefix(s, "-")
	digits := s
	if neg || strings.HasPrefix(s, "+") {
		digits = s[1:]
	}
	if !areDigits(digits) {
		return api.Num{}, api.ErrForm
	}
	mag, ok := magnitude(digits)
	if !ok {
		return api.Num{}, api.ErrBig
	}
	return signed(neg)(mag)
}

// areDigits tells whether s has digits, and nothing else.
func areDigits(s string) bool {
	for i := range len(s) {
		if s[i] < '0' || s[i] > '9' {
			return false
		}
	}
	return s != ""
}

// magnitude answers the value of digits. It gives up as soon as that is too big,
// since no more digits make it less.
func magnitude(digits string) (mag []uint32, ok bool) {
	for digits != "" {
		size := min(groupDigits, len(digits))
		mag = addGroup(mag, digits[:size])
		if len(mag) > api.MaxLimbs {
			return nil, false
		}
		digits = digits[size:]
	}
	return mag, true
}

// addGroup answers the value of mag's digits with one group behind them.
func addGroup(mag []uint32, group string) []uint32 {
	factor, value := uint32(1), uint32(0)
	for i := range len(group) {
		factor *= 10
		value = value*10 + uint32(group[i]-'0')
	}
	return trim(plus(times(mag, []uint32{factor}), []uint32{value}))
}
