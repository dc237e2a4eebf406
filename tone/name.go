package tone

import "orchestrion/api"

var letters = [12]string{"C-", "C#", "D-", "D#", "E-", "F-", "F#", "G-", "G#", "A-", "A#", "B-"}

const digits = "0123456789"

// Name returns a note's name: its letter and a sign, then the octave, for notes 0 to 119.
func Name(note int) string {
	if !within(note, 0, api.MaxNotes-1) {
		return ""
	}
	o := note / 12
	return letters[note%12] + digits[o:o+1]
}

// Note returns the note of such a name.
func Note(name string) (int, api.Errno) {
	if len(name) != 3 || name[2] < '0' || name[2] > '9' {
		return 0, api.ErrName
	}
	for i := range letters {
		if letters[i] == name[:2] {
			return 12*int(name[2]-'0') + i, api.OK
		}
	}
	return 0, api.ErrName
}
