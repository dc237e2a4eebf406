package tone

import (
	"strconv"
	"testing"

	"orchestrion/api"
)

// Promise 1.6: all names, in their order, and back.
func TestNames(t *testing.T) {
	note := 0
	for octave := range 10 {
		for _, letter := range []string{"C-", "C#", "D-", "D#", "E-", "F-", "F#", "G-", "G#", "A-", "A#", "B-"} {
			want := letter + strconv.Itoa(octave)
			if got := Name(note); got != want {
				t.Errorf("Name(%d): %q, want %q", note, got, want)
			}
			if got, e := Note(want); got != note || e != api.OK {
				t.Errorf("Note(%q): %d, %d, want %d", want, got, e, note)
			}
			note++
		}
	}
	if Name(-1) != "" || Name(api.MaxNotes) != "" {
		t.Error("notes out of range have no name")
	}
}

// Promise 1.6 and the details: names are exact, and with the error the note is 0.
func TestNoNames(t *testing.T) {
	for _, s := range []string{
		"", "C", "C-", "C5", "C-55", "C-5 ", " C-5", "c-5", "C+5", "Cb5", "H-1", "E#4", "B#4", "D -",
		"C-/", "C-:", "C-x", "C--", "---", "...", "5-C", "C-\x00", "C-\xff", "é5", "日", "C#٣",
	} {
		if n, e := Note(s); n != 0 || e != api.ErrName {
			t.Errorf("Note(%q): %d, %d", s, n, e)
		}
	}
}
