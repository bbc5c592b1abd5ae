package pieces

import (
	"slices"
	"strconv"

	"moraine/api"
)

// A Memory tells what is in it.
type Memory interface {
	Limit() int
	Free() int
	Taken(gens ...int) []int
	Seg(seg int) (api.Segment, bool)
	Read(addr int) (api.Word, api.Errno)
}

// Unlike tells the first thing that got tells in another way than m, and "" if
// there is none, though all that can be told was asked.
func (m *Mem) Unlike(got Memory) string {
	if got.Limit() != m.limit || got.Free() != m.Free() {
		return "of " + strconv.Itoa(got.Limit()) + " are free " + strconv.Itoa(got.Free()) + ", want " + strconv.Itoa(m.Free()) + " of " + strconv.Itoa(m.limit)
	}
	if !slices.Equal(got.Taken(), m.Taken()) {
		return "taken are " + list(got.Taken()) + ", want " + list(m.Taken())
	}
	for gen := -1; gen <= 5; gen++ {
		if l := got.Taken(gen); !slices.Equal(l, m.Taken(gen)) {
			return "of the generation " + strconv.Itoa(gen) + " are " + list(l) + ", want " + list(m.Taken(gen))
		}
	}
	for seg := -2; seg < m.limit+2; seg++ {
		if s := m.unlikeAt(seg, got); s != "" {
			return s
		}
	}
	return ""
}

// unlikeAt is Unlike of a segment and its words.
func (m *Mem) unlikeAt(seg int, got Memory) string {
	s, ok := got.Seg(seg)
	if want, there := m.Seg(seg); s != want || ok != there {
		return "the segment " + strconv.Itoa(seg) + " is " + told(s, ok) + ", want " + told(want, there)
	}
	var words []api.Word
	if p := m.piece(seg); p != nil {
		words = p.words
	}
	for place := range 64 {
		want, wanted := api.Word(0), api.ErrAddr
		if place < len(words) {
			want, wanted = words[place], api.OK
		}
		if w, e := got.Read(64*seg + place); w != want || e != wanted {
			return "the word at " + strconv.Itoa(64*seg+place) + " is " + strconv.FormatUint(uint64(w), 10) + " (" + strconv.Itoa(int(e)) + "), want " + strconv.FormatUint(uint64(want), 10) + " (" + strconv.Itoa(int(wanted)) + ")"
		}
	}
	return ""
}

// told is a segment as text.
func told(s api.Segment, ok bool) string {
	if !ok && s == (api.Segment{}) {
		return "free"
	}
	return list(append([]int{s.Gen, s.Kind, s.N}, s.Cards[:]...)) + " " + strconv.FormatBool(ok)
}

// list is a list of numbers as text.
func list(l []int) string {
	s := "("
	for i, n := range l {
		if i > 0 {
			s += " "
		}
		s += strconv.Itoa(n)
	}
	return s + ")"
}
