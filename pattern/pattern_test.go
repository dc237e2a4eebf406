package pattern

import (
	"math"
	"math/rand"
	"reflect"
	"slices"
	"testing"

	"orchestrion/api"
)

// extremes are numbers that no argument may be.
func extremes() []int {
	return []int{math.MinInt, math.MinInt + 1, -1 << 40, 1 << 40, math.MaxInt - 1, math.MaxInt}
}

// cell returns a cell of its six numbers.
func cell(note, inst, volCmd, volArg, effect, param int) api.Cell {
	return api.Cell{Note: note, Inst: inst, VolCmd: volCmd, VolArg: volArg, Effect: effect, Param: param}
}

// numbered returns a pattern whose cells all differ: the cell number i has the effect 1 + i / 256 with the parameter i mod 256.
func numbered(rows, channels int) api.Pattern {
	p := api.Pattern{Rows: rows}
	for i := range rows * channels {
		p.Cells = append(p.Cells, cell(0, 0, 0, 0, 1+i/256, i%256))
	}
	return p
}

// drawn returns a valid pattern drawn from a source; the fewer kinds of each number, the more cells repeat what was before.
func drawn(r *rand.Rand, rows, channels, kinds int) api.Pattern {
	p := api.Pattern{Rows: rows, Cells: make([]api.Cell, rows*channels)}
	for i := range p.Cells {
		if r.Intn(3) > 0 {
			p.Cells[i] = drawnCell(r, kinds)
		}
	}
	return p
}

func drawnCell(r *rand.Rand, kinds int) api.Cell {
	var c api.Cell
	if r.Intn(2) > 0 {
		c.Note = 1 + r.Intn(min(kinds, 123))
		if c.Note > 120 {
			c.Note += 132
		}
	}
	if r.Intn(2) > 0 {
		c.Inst = 1 + r.Intn(min(kinds, 31))
	}
	if r.Intn(2) > 0 {
		c.VolCmd, c.VolArg = 1+r.Intn(min(kinds, 12)), r.Intn(min(kinds, 100))
	}
	if r.Intn(2) > 0 {
		c.Effect, c.Param = 1+r.Intn(min(kinds, 36)), r.Intn(min(kinds, 256))
	}
	return c
}

// drawings returns valid patterns, each with its channels, the same ones at each call.
func drawings(n int) (patterns []api.Pattern, channels []int) {
	r := rand.New(rand.NewSource(5))
	for i := range n {
		wide := 1 + r.Intn(api.MaxChannels)
		patterns = append(patterns, drawn(r, 1+r.Intn(api.MaxRows), wide, []int{1, 2, 3, 300}[i%4]))
		channels = append(channels, wide)
	}
	return patterns, channels
}

func same(p, q api.Pattern) bool { return p.Rows == q.Rows && slices.Equal(p.Cells, q.Cells) }

func none(p api.Pattern) bool { return p.Rows == 0 && len(p.Cells) == 0 }

// checkPattern asks for a pattern without an error.
func checkPattern(t *testing.T, what string, got api.Pattern, e api.Errno, want api.Pattern) {
	t.Helper()
	if e != api.OK || !same(got, want) {
		t.Errorf("%s: %v, %d, want %v", what, got, e, want)
	}
}

// checkError asks for an error, and no pattern with it.
func checkError(t *testing.T, what string, got api.Pattern, e, want api.Errno) {
	t.Helper()
	if e != want || !none(got) {
		t.Errorf("%s: %v, %d, want %d", what, got, e, want)
	}
}

// Section Cells and patterns: each number from both sides of its bounds.
func TestValidCell(t *testing.T) {
	for note := -300; note < 600; note++ {
		want := note >= 0 && note <= 120 || note == 253 || note == 254 || note == 255
		if got := ValidCell(api.Cell{Note: note}); got != want {
			t.Errorf("note %d: %v", note, got)
		}
	}
	for _, c := range []struct {
		cell api.Cell
		want bool
	}{
		{api.Cell{}, true},
		{cell(61, 1, 0, 0, 11, 15), true},
		{cell(120, 31, 12, 99, 36, 255), true},
		{cell(0, 31, 0, 0, 0, 0), true}, {cell(0, 32, 0, 0, 0, 0), false}, {cell(0, -1, 0, 0, 0, 0), false},
		{cell(0, 0, 1, 0, 0, 0), true}, {cell(0, 0, 12, 0, 0, 0), true}, {cell(0, 0, 13, 0, 0, 0), false}, {cell(0, 0, -1, 0, 0, 0), false},
		{cell(0, 0, 1, 99, 0, 0), true}, {cell(0, 0, 1, 100, 0, 0), false}, {cell(0, 0, 1, -1, 0, 0), false},
		{cell(0, 0, 0, 1, 0, 0), false}, {cell(0, 0, 0, -1, 0, 0), false}, {cell(61, 1, 0, 64, 11, 15), false},
		{cell(0, 0, 0, 0, 1, 0), true}, {cell(0, 0, 0, 0, 36, 0), true}, {cell(0, 0, 0, 0, 37, 0), false}, {cell(0, 0, 0, 0, -1, 0), false},
		{cell(0, 0, 0, 0, 1, 255), true}, {cell(0, 0, 0, 0, 1, 256), false}, {cell(0, 0, 0, 0, 1, -1), false},
		{cell(0, 0, 0, 0, 0, 1), false}, {cell(0, 0, 0, 0, 0, -1), false}, {cell(61, 1, 1, 64, 0, 15), false},
	} {
		if got := ValidCell(c.cell); got != c.want {
			t.Errorf("%v: %v", c.cell, got)
		}
	}
	for _, n := range extremes() {
		for i, c := range wrongBy(n) {
			if ValidCell(c) {
				t.Errorf("%d as number %d of a cell", n, i)
			}
		}
	}
}

// wrongBy returns cells with one number each that is n.
func wrongBy(n int) []api.Cell {
	return []api.Cell{
		cell(n, 1, 1, 1, 1, 1), cell(1, n, 1, 1, 1, 1), cell(1, 1, n, 1, 1, 1),
		cell(1, 1, 1, n, 1, 1), cell(1, 1, 1, 1, n, 1), cell(1, 1, 1, 1, 1, n),
	}
}

// Section Cells and patterns: rows, channels, the number of cells, and all cells.
func TestValid(t *testing.T) {
	for _, c := range []struct {
		rows, cells, channels int
		want                  bool
	}{
		{1, 1, 1, true}, {1, 16, 16, true}, {64, 64, 1, true}, {64, 1024, 16, true}, {3, 6, 2, true},
		{0, 0, 1, false}, {0, 0, 16, false}, {65, 65, 1, false}, {-1, 0, 1, false}, {-1, 1, -1, false}, {1, 0, 0, false}, {0, 0, 0, false},
		{1, 17, 17, false}, {3, 5, 2, false}, {3, 7, 2, false}, {3, 0, 2, false}, {2, 6, 2, false}, {6, 6, 2, false},
		{math.MinInt, 0, 2, false}, {math.MaxInt, 0, 2, false}, {1, 1, math.MaxInt, false}, {1, 1, math.MinInt, false},
		{1 << 62, 0, 4, false}, {4, 0, 1 << 62, false}, {1<<62 + 1, 4, 4, false},
	} {
		if got := Valid(api.Pattern{Rows: c.rows, Cells: make([]api.Cell, c.cells)}, c.channels); got != c.want {
			t.Errorf("%v: %v", c, got)
		}
	}
	for i := range 6 {
		p := numbered(3, 2)
		p.Cells[i].Note = 121
		if Valid(p, 2) {
			t.Errorf("cell %d is not valid", i)
		}
	}
	if Valid(api.Pattern{}, 1) {
		t.Error("the zero pattern has no rows")
	}
}

// Promise 5.1: Blank.
func TestBlank(t *testing.T) {
	for rows := -2; rows <= 70; rows++ {
		for channels := -2; channels <= 20; channels++ {
			p, e := Blank(rows, channels)
			switch {
			case channels < 1 || channels > 16:
				checkError(t, "channels", p, e, api.ErrInvalid)
			case rows < 1 || rows > 64:
				checkError(t, "rows", p, e, api.ErrRange)
			default:
				checkPattern(t, "Blank", p, e, api.Pattern{Rows: rows, Cells: make([]api.Cell, rows*channels)})
				if !Valid(p, channels) {
					t.Errorf("Blank(%d, %d) is not valid", rows, channels)
				}
			}
		}
	}
}

// Promise 5.1: Get and Set reach just the cell of a row and a channel.
func TestGetAndSet(t *testing.T) {
	p, c := numbered(4, 3), cell(61, 1, 2, 3, 11, 15)
	for row := -2; row <= 6; row++ {
		for channel := -2; channel <= 5; channel++ {
			got, e := Get(p, 3, row, channel)
			q, e2 := Set(p, 3, row, channel, c)
			if row < 0 || row > 3 || channel < 0 || channel > 2 {
				checkError(t, "Set", q, e2, api.ErrRange)
				if e != api.ErrRange || got != (api.Cell{}) {
					t.Errorf("Get of %d, %d: %v, %d", row, channel, got, e)
				}
				continue
			}
			if e != api.OK || got != p.Cells[row*3+channel] {
				t.Errorf("Get of %d, %d: %v, %d", row, channel, got, e)
			}
			want := numbered(4, 3)
			want.Cells[row*3+channel] = c
			checkPattern(t, "Set", q, e2, want)
		}
	}
	q, e := Set(p, 3, 1, 1, api.Cell{})
	if e != api.OK || q.Cells[4] != (api.Cell{}) {
		t.Errorf("an empty cell: %v, %d", q, e)
	}
}

// broken returns patterns that are not valid for two channels.
func broken() []api.Pattern {
	wrong := numbered(3, 2)
	wrong.Cells[5].Inst = 32
	short := numbered(3, 2)
	short.Cells = short.Cells[:5]
	return []api.Pattern{{}, wrong, short, numbered(2, 3), numbered(65, 2), {Rows: -1}, {Rows: math.MaxInt}}
}

// makers are all functions that make a pattern of one, with arguments that are as good as the rest of them is, or with a place far out of range.
func makers() map[string]func(p api.Pattern, channels, place int) (api.Pattern, api.Errno) {
	block := numbered(2, 2)
	return map[string]func(p api.Pattern, channels, place int) (api.Pattern, api.Errno){
		"Set": func(p api.Pattern, channels, place int) (api.Pattern, api.Errno) {
			return Set(p, channels, place, 0, api.Cell{Note: 1})
		},
		"Copy": func(p api.Pattern, channels, place int) (api.Pattern, api.Errno) {
			return Copy(p, channels, Area{place, 0, 1, 1})
		},
		"Paste": func(p api.Pattern, channels, place int) (api.Pattern, api.Errno) {
			return Paste(p, channels, block, 2, place, 0, false)
		},
		"Paste mixed": func(p api.Pattern, channels, place int) (api.Pattern, api.Errno) {
			return Paste(p, channels, block, 2, place, 0, true)
		},
		"Transpose": func(p api.Pattern, channels, place int) (api.Pattern, api.Errno) {
			return Transpose(p, channels, Area{place, 0, 1, 1}, 1)
		},
		"Insert": Insert,
		"Delete": Delete,
		"Interpolate": func(p api.Pattern, channels, place int) (api.Pattern, api.Errno) {
			return Interpolate(p, channels, 0, place, 2)
		},
		"Split": func(p api.Pattern, channels, place int) (api.Pattern, api.Errno) {
			q, _, e := Split(p, channels, place)
			return q, e
		},
	}
}

// Section Functions and R2: a pattern or channels that are not valid come before places out of range.
func TestErrorsInOrder(t *testing.T) {
	for name, do := range makers() {
		if _, e := do(numbered(3, 2), 2, 1); e != api.OK {
			t.Errorf("%s: %d", name, e)
		}
		for _, place := range append(extremes(), -1, 3, 1) {
			for _, p := range broken() {
				q, e := do(p, 2, place)
				checkError(t, name+" of a broken pattern", q, e, api.ErrInvalid)
			}
			for _, channels := range append(extremes(), -2, 0, 1, 3, 6, 17) {
				q, e := do(numbered(3, 2), channels, place)
				checkError(t, name+" of other channels", q, e, api.ErrInvalid)
			}
			if place != 1 {
				q, e := do(numbered(3, 2), 2, place)
				checkError(t, name+" far out", q, e, api.ErrRange)
			}
		}
	}
}

// Section Functions and R2: the errors of functions and arguments that makers does not have.
func TestOtherErrorsInOrder(t *testing.T) {
	p, bad := numbered(3, 2), api.Cell{Note: 121}
	for _, place := range append(extremes(), -1, 1, 3) {
		q, e := Set(p, 2, place, 0, bad)
		checkError(t, "Set of a wrong cell", q, e, api.ErrInvalid)
		for _, block := range broken() {
			q, e := Paste(p, 2, block, 2, place, 0, false)
			checkError(t, "Paste of a wrong block", q, e, api.ErrInvalid)
			if c, e := Get(block, 2, place, 0); e != api.ErrInvalid || c != (api.Cell{}) {
				t.Errorf("Get: %v, %d", c, e)
			}
		}
		for _, wide := range append(extremes(), -2, 0, 1, 3, 17) {
			q, e := Paste(p, 2, numbered(2, 2), wide, place, 0, false)
			checkError(t, "Paste of a block of other channels", q, e, api.ErrInvalid)
		}
	}
	for _, q := range broken() {
		for _, pair := range [][2]api.Pattern{{p, q}, {q, p}, {numbered(64, 2), q}, {q, numbered(64, 2)}} {
			got, e := Join(pair[0], pair[1], 2)
			checkError(t, "Join", got, e, api.ErrInvalid)
		}
		if b, e := Pack(q, 2); len(b) != 0 || e != api.ErrInvalid {
			t.Errorf("Pack: %v, %d", b, e)
		}
		if first, second, e := Split(q, 2, 1); e != api.ErrInvalid || !none(first) || !none(second) {
			t.Errorf("Split: %v, %v, %d", first, second, e)
		}
	}
}

// spare returns the pattern with spare capacity behind its cells, which holds what no cell may be.
func spare(p api.Pattern) api.Pattern {
	n := len(p.Cells)
	cells := append(slices.Clone(p.Cells), make([]api.Cell, 40)...)
	for i := n; i < len(cells); i++ {
		cells[i].Note = 999
	}
	p.Cells = cells[:n]
	return p
}

// whole returns the cells with their spare capacity.
func whole(cells []api.Cell) []api.Cell { return cells[:cap(cells)] }

// spoil writes to all memory of a result.
func spoil(p api.Pattern) {
	for i := range whole(p.Cells) {
		whole(p.Cells)[i].Note = -7
	}
}

// R4: arguments stay as they are, also behind their ends, and also when the result is written to.
func TestNewMemory(t *testing.T) {
	for name, do := range makers() {
		p := spare(numbered(3, 2))
		before := slices.Clone(whole(p.Cells))
		q, e := do(p, 2, 1)
		if e != api.OK {
			t.Errorf("%s: %d", name, e)
		}
		spoil(q)
		if !slices.Equal(before, whole(p.Cells)) {
			t.Errorf("%s changes its argument, or shares its memory", name)
		}
	}
}

// R4: the same of the functions with two patterns.
func TestNewMemoryOfTwo(t *testing.T) {
	p, q := spare(numbered(3, 2)), spare(numbered(2, 2))
	beforeP, beforeQ := slices.Clone(whole(p.Cells)), slices.Clone(whole(q.Cells))
	joined, _ := Join(p, q, 2)
	pasted, _ := Paste(p, 2, q, 2, 0, 0, false)
	first, second, _ := Split(p, 2, 1)
	want := slices.Clone(second.Cells)
	spoil(first)
	if !slices.Equal(second.Cells, want) {
		t.Error("the two of Split share memory")
	}
	spoil(joined)
	spoil(pasted)
	spoil(second)
	Pack(p, 2)
	if !slices.Equal(beforeP, whole(p.Cells)) || !slices.Equal(beforeQ, whole(q.Cells)) {
		t.Error("an argument was changed, or its memory is shared")
	}
}

// R7: the same calls give the same results.
func TestRepeats(t *testing.T) {
	patterns, channels := drawings(5)
	for i, p := range patterns {
		one, _ := Pack(p, channels[i])
		two, _ := Pack(p, channels[i])
		if !reflect.DeepEqual(one, two) {
			t.Errorf("pattern %d", i)
		}
	}
}
