package dialect

import (
	"slices"
	"strings"
	"testing"

	"orchestrion/api"
)

// P6.1, also for cells with a volume command; and there are cells that ask for three.
func TestFew(t *testing.T) {
	most := map[int]int{}
	for _, d := range dialects() {
		all := commandCells(d)
		for _, m := range memories(2, true) {
			for _, c := range all {
				for command := 0; command <= 12; command++ {
					both := c
					if c.VolCmd == 0 {
						both.VolCmd = command
					}
					if !ValidCell(d, both) {
						continue
					}
					ops, _, e := Resolve(d, m, both)
					if e != api.OK || len(ops) > 3 {
						t.Fatalf("dialect %d, %v: %d operations, %d", d, both, len(ops), e)
					}
					most[d] = max(most[d], len(ops))
				}
			}
		}
	}
	for d, want := range map[int]int{api.DFour: 2, api.DScream: 3, api.DFast: 3, api.DImpulse: 3, api.DCompose: 1, api.DChip: 1} {
		if most[d] != want {
			t.Errorf("dialect %d: %d operations at most, want %d", d, most[d], want)
		}
	}
}

// P6.2.
func TestMemory(t *testing.T) {
	for _, d := range dialects() {
		if d == api.DCompose {
			continue
		}
		for _, m := range memories(30, true) {
			for _, note := range []int{0, 49, 61, 72, api.NoteFade, api.NoteCut, api.NoteOff} {
				for _, inst := range []int{0, 1, 31} {
					c := api.Cell{Note: note, Inst: inst}
					if !ValidCell(d, c) {
						continue
					}
					if got, left := resolve(t, d, m, c); got != "" || left != m {
						t.Errorf("dialect %d, %v: %q, %v, want %v", d, c, got, left, m)
					}
				}
			}
		}
	}
}

// wholes are the effects of the dialects that are whole.
func wholes() map[int]string {
	return map[int]string{
		api.DFour:    "39",
		api.DScream:  "DEFGIJKLOQRS",
		api.DFast:    "123569AHPT",
		api.DImpulse: "DEFGIJKLNOPQSTW",
		api.DChip:    "123A",
	}
}

// P6.3.
func TestRecalled(t *testing.T) {
	for d, letters := range wholes() {
		for _, char := range letters {
			c := api.Cell{Effect: strings.IndexRune("0123456789ABCDEFGHIJKLMNOPQRSTUVWXYZ", char) + 1}
			for param := 1; param < 256; param++ {
				for _, m := range memories(3, true) {
					c.Param = param
					want, kept := resolve(t, d, m, c)
					c.Param = 0
					if got, left := resolve(t, d, kept, c); got != want || left != kept {
						t.Errorf("dialect %d, %c of %d: %q, want %q; %v, want %v", d, char, param, got, want, left, kept)
					}
				}
			}
		}
	}
}

// Section Effects: the slots are all those that the chapter names, so a cell changes no slot but its commands'.
func TestSlots(t *testing.T) {
	last := map[int]int{api.DFour: 4, api.DScream: 4, api.DFast: 17, api.DImpulse: 15, api.DCompose: 0, api.DChip: 7}
	for _, d := range dialects() {
		changed := 0
		for _, m := range memories(3, false) {
			for _, c := range commandCells(d) {
				_, left := resolve(t, d, m, c)
				for k := range m.Slots {
					if left.Slots[k] == m.Slots[k] {
						continue
					}
					if changed = max(changed, k); k == 0 {
						t.Errorf("dialect %d, %v: slot 0", d, c)
					}
				}
				if d != api.DCompose && (left.Effect != m.Effect || left.Param != m.Param) {
					t.Errorf("dialect %d, %v: effect %d with %d", d, c, left.Effect, left.Param)
				}
			}
		}
		if changed != last[d] {
			t.Errorf("dialect %d: slot %d is the last, want %d", d, changed, last[d])
		}
	}
}

// What Resolve returns is what higher layers take: a valid memory, and operations with numbers in their ranges.
func TestTaken(t *testing.T) {
	for _, d := range dialects() {
		for _, m := range memories(3, true) {
			for _, c := range commandCells(d) {
				ops, left, _ := Resolve(d, m, c)
				if _, _, e := Resolve(d, left, api.Cell{}); e != api.OK {
					t.Errorf("dialect %d, %v leaves %v", d, c, left)
				}
				for _, op := range ops {
					if op.Kind < api.OpArp || op.Kind > api.OpShape || min(op.X, op.Y) < -255 || max(op.X, op.Y) > 65535 {
						t.Errorf("dialect %d, %v asks for %v", d, c, op)
					}
				}
			}
		}
	}
}

// R4 and R7: the same calls give the same results, each in memory of its own.
func TestAgain(t *testing.T) {
	m := memories(3, true)[2]
	for _, d := range dialects() {
		for _, c := range commandCells(d) {
			first, left, _ := Resolve(d, m, c)
			second, leftAgain, _ := Resolve(d, m, c)
			if !slices.Equal(first, second) || left != leftAgain {
				t.Errorf("dialect %d, %v: %v and %v", d, c, first, second)
			}
			kept := slices.Clone(second)
			for i := range first {
				first[i] = api.Op{}
			}
			if full := first[:cap(first)]; len(full) > 0 {
				clear(full)
			}
			if !slices.Equal(second, kept) {
				t.Errorf("dialect %d, %v: two results share memory", d, c)
			}
		}
		q, _ := Quirks(d)
		q.Low = -1
		if again, _ := Quirks(d); again.Low == -1 {
			t.Errorf("dialect %d: a table was changed", d)
		}
	}
}
