// Package word is layer 1: what a word of the heap stands for.
package word

import "moraine/api"

// How many bits a word's parts have. The tag is lowest, the rest above it; a
// constant's rest is its low bits and the high ones, a header's its low bits,
// its size and its more.
const (
	tagBits  = 3
	restBits = 61
	lowBits  = 5
	highBits = restBits - lowBits
	sizeBits = 8
	moreBits = restBits - lowBits - sizeBits
)

// charMark is what stands in a constant's low bits if it is a character; what
// is below it are the constants with names.
const charMark = 7

// The greatest value of a fixnum, and the least.
const (
	maxFix = 1<<(restBits-1) - 1
	minFix = -1 << (restBits - 1)
)

// What a word may stand for.
const (
	nothing = iota
	fixnum
	constant
	character
	address
	header
)

// what tells what w stands for: nothing, if it is no word that may be.
func what(w api.Word) int {
	cut := rest(w)
	switch Tag(w) {
	case api.TagFix:
		return fixnum
	case api.TagPair:
		fallthrough
	case api.TagWeak:
		fallthrough
	case api.TagObject:
		fallthrough
	case api.TagForward:
		if cut(restBits) < api.MaxAddr {
			return address
		}
	case api.TagConst:
		low := cut(lowBits)
		return whatConst(low, cut(highBits))
	case api.TagHeader:
		kind := cut(lowBits)
		n := cut(sizeBits)
		if isHeader(kind, n, cut(moreBits)) {
			return header
		}
	}
	return nothing
}

// whatConst tells what a word of TagConst with these bits stands for.
func whatConst(low, high uint64) int {
	switch {
	case low == charMark && isChar(high):
		return character
	case low < charMark && high == 0:
		return constant
	}
	return nothing
}

// isChar tells whether n is a character's number. It asks for 64 bits, so that
// nothing is lost before it is compared.
func isChar(n uint64) bool {
	return n < 0xD800 || n > 0xDFFF && n <= 0x10FFFF
}

// isHeader tells whether there is a header of these parts.
func isHeader(kind, n, more uint64) bool {
	return kind >= api.TypeVector && kind <= api.TypePrimitive && n <= api.MaxObject && more < 1<<moreBits
}

// rest answers a closure that cuts the parts of w's rest off, the lowest first.
func rest(w api.Word) func(bits int) uint64 {
	left := uint64(w) >> tagBits
	return func(bits int) uint64 {
		part := left & (1<<bits - 1)
		left >>= bits
		return part
	}
}

// tagged puts a word together of its rest and its tag.
func tagged(rest uint64, tag int) api.Word {
	return api.Word(rest<<tagBits | uint64(tag))
}

// May tells whether w is a word that may be.
func May(w api.Word) bool { return what(w) != nothing }

// Tag answers w's tag, whether w may be or not.
func Tag(w api.Word) int { return int(w & (1<<tagBits - 1)) }

// Truth tells whether w counts as true: every word but False does.
func Truth(w api.Word) bool { return w != api.False }

// Fix answers the fixnum of the value x.
func Fix(x int64) (api.Word, api.Errno) {
	if x < minFix || x > maxFix {
		return 0, api.ErrRange
	}
	return tagged(uint64(x), api.TagFix), api.OK
}

// Int answers a fixnum's value.
func Int(w api.Word) (int64, bool) {
	if what(w) != fixnum {
		return 0, false
	}
	// A shift of a number with a sign keeps the sign.
	return int64(w) >> tagBits, true
}

// Char answers the word of the character c.
func Char(c rune) (api.Word, api.Errno) {
	// A c below 0 becomes a number far above all characters.
	n := uint64(c)
	if !isChar(n) {
		return 0, api.ErrRange
	}
	return tagged(n<<lowBits|charMark, api.TagConst), api.OK
}

// Rune answers a character's number.
func Rune(w api.Word) (rune, bool) {
	if what(w) != character {
		return 0, false
	}
	cut := rest(w)
	cut(lowBits)
	return rune(cut(highBits)), true
}

// At answers the address addr with a tag of addresses.
func At(tag, addr int) (api.Word, api.Errno) {
	// The address 0 of a tag is the word that has the tag and nothing else.
	zero := api.Word(tag)
	if Tag(zero) != tag || what(zero) != address {
		return 0, api.ErrArg
	}
	if addr < 0 || addr >= api.MaxAddr {
		return 0, api.ErrAddr
	}
	return tagged(uint64(addr), tag), api.OK
}

// Addr answers the address that w is.
func Addr(w api.Word) (int, bool) {
	if what(w) != address {
		return 0, false
	}
	cut := rest(w)
	return int(cut(restBits)), true
}

// Header answers the first word of an object of a type, with n words behind it.
func Header(kind, n int, more uint64) (api.Word, api.Errno) {
	// What is below 0 becomes far greater than any type or size.
	low, size := uint64(kind), uint64(n)
	if !isHeader(low, size, more) {
		return 0, api.ErrArg
	}
	return tagged((more<<sizeBits|size)<<lowBits|low, api.TagHeader), api.OK
}

// Head answers what a header tells: the type, the words behind it, and more.
func Head(w api.Word) (kind, n int, more uint64, ok bool) {
	if what(w) != header {
		return 0, 0, 0, false
	}
	cut := rest(w)
	kind = int(cut(lowBits))
	n = int(cut(sizeBits))
	return kind, n, cut(moreBits), true
}
