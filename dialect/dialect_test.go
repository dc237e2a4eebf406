package dialect

import (
	"fmt"
	"math"
	"math/rand"
	"reflect"
	"slices"
	"strconv"
	"strings"
	"testing"

	"orchestrion/api"
	"orchestrion/pattern"
)

// names are those of the operations, from 1 on.
const names = "Arp Up Down FineUp FineDown ExtraUp ExtraDown Tone Vibrato FineVibrato Tremolo VolSlide VolUp VolDown Volume Pan PanSlide " +
	"Offset Retrig Tremor Cut Delay KeyOff Gliss VibWave TremWave Finetune Global GlobalSlide ChanVol ChanSlide Jump Break Loop RowDelay " +
	"Speed Tempo TempoSlide EnvPos NewNote Past Cutoff Resonance Surround Reverse Panbrello Noise Shape"

// opsText writes operations as the chapter does: those with one number without the second, if that is 0.
func opsText(ops []api.Op) string {
	list := strings.Fields(names)
	var parts []string
	for _, op := range ops {
		name := "?"
		if op.Kind >= 1 && op.Kind <= len(list) {
			name = list[op.Kind-1]
		}
		numbers := strconv.Itoa(op.X)
		if op.Y != 0 {
			numbers += ", " + strconv.Itoa(op.Y)
		}
		parts = append(parts, name+"("+numbers+")")
	}
	return strings.Join(parts, " ")
}

func dialects() []int {
	return []int{api.DFour, api.DScream, api.DFast, api.DImpulse, api.DCompose, api.DChip}
}

// strangers are numbers that are no dialects.
func strangers() []int {
	return []int{0, 7, -1, 8, 255, 1 << 32, 1<<32 + 1, math.MinInt, math.MaxInt}
}

// parsed returns the cell of a text of 14 characters.
func parsed(t *testing.T, text string) api.Cell {
	t.Helper()
	c, e := pattern.Parse(text)
	if e != api.OK {
		t.Fatalf("%q is no cell: %d", text, e)
	}
	return c
}

// commandCell returns the cell of an effect, of a volume command, or of both with a blank between them.
func commandCell(t *testing.T, text string) api.Cell {
	t.Helper()
	column, effect := "...", text
	if text[0] >= 'a' && text[0] <= 'z' {
		column, effect, _ = strings.Cut(text, " ")
	}
	if effect == "" {
		effect = "..."
	}
	return parsed(t, "... .. "+column+" "+effect)
}

// memory returns the memory of slots written as 3=47, in decimal numbers.
func memory(t *testing.T, text string) api.Memory {
	t.Helper()
	var m api.Memory
	for _, field := range strings.Fields(text) {
		k, v, _ := strings.Cut(field, "=")
		slot, err := strconv.Atoi(k)
		value, err2 := strconv.Atoi(v)
		if err != nil || err2 != nil {
			t.Fatalf("%q is no memory", text)
		}
		m.Slots[slot] = value
	}
	return m
}

// memories returns valid memories of all sorts, the same ones at each call; effects that last are among them only where they are asked for.
func memories(n int, lasting bool) []api.Memory {
	r := rand.New(rand.NewSource(6))
	all := make([]api.Memory, n)
	for i := range all {
		top := []int{16, 256, 256}[i%3]
		for k := range all[i].Slots {
			all[i].Slots[k] = r.Intn(top)
		}
		if lasting {
			all[i].Effect, all[i].Param = r.Intn(37), r.Intn(256)
		}
	}
	for k := range all[0].Slots {
		all[0].Slots[k] = 0
	}
	return all
}

// commandCells returns all cells with one command of a dialect: each effect with each parameter, and each volume command with each number.
func commandCells(d int) []api.Cell {
	var cells []api.Cell
	for effect := range 37 {
		for param := range 256 {
			cells = append(cells, api.Cell{Effect: effect, Param: param})
		}
	}
	for command := range 13 {
		for number := range 100 {
			cells = append(cells, api.Cell{VolCmd: command, VolArg: number})
		}
	}
	return slices.DeleteFunc(cells, func(c api.Cell) bool { return !ValidCell(d, c) })
}

// resolve resolves a cell that a dialect has.
func resolve(t *testing.T, d int, m api.Memory, c api.Cell) (string, api.Memory) {
	t.Helper()
	ops, left, e := Resolve(d, m, c)
	if e != api.OK {
		t.Fatalf("dialect %d, %v with %v: error %d", d, c, m, e)
	}
	return opsText(ops), left
}

// quirkRows is the chapter's table, a field a line, with the dialects in their order.
const quirkRows = `
Name four scream fast impulse compose chip
Channels 4 16 16 16 8 4
Patterns 32 32 32 32 32 32
Rows 64 64 0 0 64 0
Low 49 13 1 1 13 13
High 84 108 96 120 72 108
Insts false false true true false true
VolColumn false true true true false false
Linear false false true true false false
Pitch 1 1 0 0 2 1
MinPeriod 453 64 32 16 0 16
MaxPeriod 3424 32767 65535 65535 0 65535
ArpDown false false true false false false
SlideZero false false false false true false
VolZero false false false false false true
VibZero false false false true false false
VibShift 5 5 6 6 5 5
BothUp true false true false false true
JumpBreak 1 0 0 0 2 2
LoopEach true false true true false false
LoopBug false false true false false false
DelayRule 1 0 1 2 0 0
SpeedStops true false false false false false
Carry false false true true false true
OffsetSilent false false true false false false
CutZero true false true false false false
RetrigZero false false true false false false
ToneKeeps false false true true false true
Sticky false false false false true false
`

// Section Quirks.
func TestQuirks(t *testing.T) {
	rows := strings.Split(strings.TrimSpace(quirkRows), "\n")
	if n := reflect.TypeFor[api.Quirks]().NumField(); n != len(rows) {
		t.Errorf("%d fields, %d rows", n, len(rows))
	}
	for _, row := range rows {
		fields := strings.Fields(row)
		for i, d := range dialects() {
			q, e := Quirks(d)
			got := reflect.ValueOf(q).FieldByName(fields[0])
			if e != api.OK || fmt.Sprint(got.Interface()) != fields[i+1] {
				t.Errorf("%s of dialect %d: %v, %d, want %s", fields[0], d, got, e, fields[i+1])
			}
		}
	}
	for _, d := range strangers() {
		if q, e := Quirks(d); e != api.ErrKind || q != (api.Quirks{}) {
			t.Errorf("dialect %d: %v, %d", d, q, e)
		}
	}
}

// P6.4: also without their names.
func TestApart(t *testing.T) {
	for _, a := range dialects() {
		for _, b := range dialects() {
			p, _ := Quirks(a)
			q, _ := Quirks(b)
			p.Name, q.Name = "", ""
			if same := p == q; same != (a == b) {
				t.Errorf("%d and %d: %v", a, b, same)
			}
		}
	}
}

// allLetters are the dialects' effects, in their order.
func allLetters() []string {
	return []string{
		"0123456789ABCDEF", "ABCDEFGHIJKLOQRSTUVX", "0123456789ABCDEFGHKLPRTX",
		"ABCDEFGHIJKLMNOPQRSTUVWXYZ", "012345", "01234ABCDEFNS",
	}
}

// Promise 6.1.
func TestLetters(t *testing.T) {
	for i, d := range dialects() {
		if got, want := Letters(d), allLetters()[i]; got != want {
			t.Errorf("dialect %d: %q, want %q", d, got, want)
		}
	}
	for _, d := range strangers() {
		if got := Letters(d); got != "" {
			t.Errorf("dialect %d: %q", d, got)
		}
	}
}

// What is written beside the maps of effects and volume commands is what they have.
func TestOffers(t *testing.T) {
	for i, d := range dialects() {
		var chars []byte
		for char := range effects(d) {
			chars = append(chars, byte(char))
		}
		slices.Sort(chars)
		if string(chars) != allLetters()[i] {
			t.Errorf("effects of dialect %d: %q", d, chars)
		}
		all := column(d)
		for command := 1; command <= 12; command++ {
			_, has := all[command]
			if has != ValidCell(d, api.Cell{VolCmd: command}) {
				t.Errorf("dialect %d, volume command %d: %v", d, command, has)
			}
		}
	}
	if len(effects(0)) != 0 || len(effects(7)) != 0 || len(column(0)) != 0 {
		t.Error("no dialect has commands")
	}
}

// Promise 6.1: the notes from both sides of their bounds, and the marks.
func TestValidCellNote(t *testing.T) {
	low := []int{49, 13, 1, 1, 13, 13}
	high := []int{84, 108, 96, 120, 72, 108}
	marks := []map[int]bool{{}, {254: true}, {255: true}, {253: true, 254: true, 255: true}, {}, {255: true}}
	for i, d := range dialects() {
		for note := -3; note < 300; note++ {
			want := note == 0 || note >= low[i] && note <= high[i] || marks[i][note]
			if got := ValidCell(d, api.Cell{Note: note}); got != want {
				t.Errorf("dialect %d, note %d: %v", d, note, got)
			}
		}
	}
}

// Promise 6.1: the volume commands and the effects.
func TestValidCellCommands(t *testing.T) {
	volumes := []int{0, 1, 8, 10, 0, 0}
	for i, d := range dialects() {
		for command := -2; command < 16; command++ {
			want := command >= 0 && command <= volumes[i]
			if got := ValidCell(d, api.Cell{VolCmd: command}); got != want {
				t.Errorf("dialect %d, volume command %d: %v", d, command, got)
			}
		}
		for effect := -2; effect < 40; effect++ {
			want := effect == 0
			if effect >= 1 && effect <= 36 {
				char := "0123456789ABCDEFGHIJKLMNOPQRSTUVWXYZ"[effect-1:][:1]
				want = strings.Contains(allLetters()[i], char)
			}
			if got := ValidCell(d, api.Cell{Effect: effect}); got != want {
				t.Errorf("dialect %d, effect %d: %v", d, effect, got)
			}
		}
	}
}

// Promise 6.1: a cell is valid if all of its parts are, and no dialect has one.
func TestValidCell(t *testing.T) {
	full := parsed(t, "C-5 31 a99 AFF")
	for _, d := range dialects() {
		want := d >= api.DScream && d <= api.DImpulse
		if got := ValidCell(d, full); got != want {
			t.Errorf("dialect %d: %v", d, got)
		}
	}
	for i, wrong := range []api.Cell{
		{Inst: 32}, {Inst: -1}, {VolArg: 1}, {VolCmd: 1, VolArg: 100}, {VolCmd: 1, VolArg: -1},
		{Param: 1}, {Effect: 11, Param: 256}, {Effect: 11, Param: -1},
		{Note: math.MaxInt}, {Note: math.MinInt}, {VolCmd: math.MaxInt}, {VolCmd: math.MinInt}, {Effect: math.MaxInt}, {Effect: math.MinInt},
		{Note: 61, Effect: 11, Param: 256}, {Note: 61, VolCmd: 13}, {Note: 252}, {Note: 121},
	} {
		for _, d := range dialects() {
			if ValidCell(d, wrong) {
				t.Errorf("dialect %d, cell %d", d, i)
			}
		}
	}
	for _, d := range strangers() {
		if ValidCell(d, api.Cell{}) || ValidCell(d, parsed(t, "C-5 01 ... A0F")) {
			t.Errorf("dialect %d", d)
		}
	}
}

// Promise 6.2: the errors in their order, and nothing with them.
func TestResolveErrors(t *testing.T) {
	ask := func(what string, d int, m api.Memory, c api.Cell, want api.Errno) {
		t.Helper()
		ops, left, e := Resolve(d, m, c)
		if e != want || len(ops) != 0 || left != (api.Memory{}) {
			t.Errorf("%s: %v, %v, %d, want %d", what, ops, left, e, want)
		}
	}
	kept := memories(2, true)[1]
	wrongCell := api.Cell{Param: 1}
	for _, d := range strangers() {
		ask("no dialect", d, kept, api.Cell{}, api.ErrKind)
		ask("no dialect and a wrong cell", d, kept, wrongCell, api.ErrKind)
		ask("no dialect and a wrong memory", d, api.Memory{Param: -1}, api.Cell{}, api.ErrKind)
	}
	for _, d := range dialects() {
		ask("a wrong cell", d, kept, wrongCell, api.ErrInvalid)
		for _, n := range []int{-1, 256, math.MinInt, math.MaxInt} {
			for k := range kept.Slots {
				m := kept
				m.Slots[k] = n
				ask("slot "+strconv.Itoa(k), d, m, api.Cell{}, api.ErrInvalid)
			}
			ask("the memory's parameter", d, api.Memory{Param: n}, api.Cell{}, api.ErrInvalid)
		}
		for _, n := range []int{-1, 37, math.MinInt, math.MaxInt} {
			ask("the memory's effect", d, api.Memory{Effect: n}, api.Cell{}, api.ErrInvalid)
		}
	}
	ask("a note that four does not have", api.DFour, kept, api.Cell{Note: 48}, api.ErrInvalid)
	ask("a mark that four does not have", api.DFour, kept, api.Cell{Note: api.NoteOff}, api.ErrInvalid)
	ask("a volume command that scream does not have", api.DScream, kept, api.Cell{VolCmd: 2}, api.ErrInvalid)
	ask("an effect that chip does not have", api.DChip, kept, parsed(t, "... .. ... 501"), api.ErrInvalid)
	ask("an effect that compose does not have", api.DCompose, kept, parsed(t, "... .. ... 601"), api.ErrInvalid)
}

// Promise 6.2: the greatest numbers of a memory are valid.
func TestResolveValid(t *testing.T) {
	var m api.Memory
	for k := range m.Slots {
		m.Slots[k] = 255
	}
	m.Effect, m.Param = 36, 255
	for _, d := range dialects() {
		if got, left := resolve(t, d, m, api.Cell{}); got != "" || left != m {
			t.Errorf("dialect %d: %q, %v", d, got, left)
		}
	}
}
