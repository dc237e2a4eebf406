package pattern

import (
	"strings"

	"orchestrion/api"
)

const (
	names     = "C-C#D-D#E-F-F#G-G#A-A#B-" // of the notes of an octave, two characters each
	digits    = "0123456789ABCDEFGHIJKLMNOPQRSTUVWXYZ"
	volumes   = "abcdefghijkl" // the letters of the volume commands, from 1 on
	nothing   = "..."          // as many of them as a part has characters stand for one that is not set
	keyOff    = "==="
	keyCut    = "^^^"
	keyFade   = "~~~"
	separator = " "
)

// Text writes a cell as 14 characters: its parts, with blanks between them.
func Text(c api.Cell) (string, api.Errno) {
	if !ValidCell(c) {
		return "", api.ErrInvalid
	}
	var fields [4]string
	for i, part := range parts() {
		fields[i] = nothing[:part.width]
		if v := part.get(c); v.set() {
			fields[i] = part.write(v)
		}
	}
	return strings.Join(fields[:], separator), api.OK
}

// Parse reads just such texts back (ErrSyntax for all else, also for a text of a cell that is not valid).
func Parse(text string) (c api.Cell, e api.Errno) {
	e = outcome(func() { c = readCell(text) })
	return c, e
}

// readCell returns the cell of a text. It leaves by demand where the text is no cell's.
func readCell(text string) api.Cell {
	parts := parts()
	fields := strings.SplitN(text, separator, len(parts))
	demand(len(fields) == len(parts), api.ErrSyntax)
	var c api.Cell
	for i, part := range parts {
		field := fields[i]
		demand(len(field) == part.width, api.ErrSyntax)
		if field == nothing[:part.width] {
			continue
		}
		v := part.read(field)
		demand(v.set(), api.ErrSyntax)
		part.put(&c, v)
	}
	demand(ValidCell(c), api.ErrSyntax)
	return c
}

func writeNote(v value) string {
	switch v[0] {
	case api.NoteOff:
		return keyOff
	case api.NoteCut:
		return keyCut
	case api.NoteFade:
		return keyFade
	}
	octave, name := (v[0]-1)/12, (v[0]-1)%12
	return names[2*name:][:2] + digits[octave:][:1]
}

func readNote(text string) value {
	switch text {
	case keyOff:
		return value{api.NoteOff}
	case keyCut:
		return value{api.NoteCut}
	case keyFade:
		return value{api.NoteFade}
	}
	at := strings.Index(names, text[:2])
	// Two characters at an odd place belong to two names.
	demand(at >= 0 && at%2 == 0, api.ErrSyntax)
	return value{12*place(text[2], digits[:10]) + at/2 + 1}
}

func writeInst(v value) string { return twoDigits(v[0], 10) }

func readInst(text string) value { return value{number(text, 10)} }

func writeVolume(v value) string { return volumes[v[0]-1:][:1] + twoDigits(v[1], 10) }

func readVolume(text string) value {
	return value{place(text[0], volumes) + 1, number(text[1:], 10)}
}

func writeEffect(v value) string { return digits[v[0]-1:][:1] + twoDigits(v[1], 16) }

func readEffect(text string) value {
	return value{place(text[0], digits) + 1, number(text[1:], 16)}
}

// twoDigits writes a number below base * base.
func twoDigits(n, base int) string { return digits[n/base:][:1] + digits[n%base:][:1] }

// number reads what twoDigits wrote.
func number(text string, base int) int {
	high, low := place(text[0], digits[:base]), place(text[1], digits[:base])
	return base*high + low
}

// place returns where a character stands in a list of characters.
func place(char byte, list string) int {
	at := strings.IndexByte(list, char)
	demand(at >= 0, api.ErrSyntax)
	return at
}
