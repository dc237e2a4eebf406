package pattern

import (
	"math"
	"math/rand"
	"testing"

	"orchestrion/api"
)

// Promise 5.1: an area has at least one row and one channel and lies within the pattern.
func TestAreas(t *testing.T) {
	p := numbered(4, 3)
	good := 0
	for row := -2; row <= 5; row++ {
		for channel := -2; channel <= 4; channel++ {
			for rows := -2; rows <= 6; rows++ {
				for channels := -2; channels <= 5; channels++ {
					a := Area{row, channel, rows, channels}
					want := api.ErrRange
					if row >= 0 && channel >= 0 && rows >= 1 && channels >= 1 && row+rows <= 4 && channel+channels <= 3 {
						want = api.OK
						good++
					}
					if _, e := Copy(p, 3, a); e != want {
						t.Errorf("Copy of %v: %d, want %d", a, e, want)
					}
					if _, e := Transpose(p, 3, a, 1); e != want {
						t.Errorf("Transpose of %v: %d, want %d", a, e, want)
					}
				}
			}
		}
	}
	if good != 60 {
		t.Errorf("%d areas", good)
	}
}

// R1: areas whose numbers wrap around when they are added.
func TestExtremeAreas(t *testing.T) {
	for _, n := range append(extremes(), math.MaxInt-2, math.MinInt+3) {
		for _, a := range []Area{{n, 0, 1, 1}, {0, n, 1, 1}, {0, 0, n, 1}, {0, 0, 1, n}, {n, 0, n, 1}, {0, n, 1, n}, {3, 2, n, n}, {n, n, n, n}, {n, 0, -n, 1}} {
			q, e := Copy(numbered(4, 3), 3, a)
			checkError(t, "Copy", q, e, api.ErrRange)
			q, e = Transpose(numbered(4, 3), 3, a, 1)
			checkError(t, "Transpose", q, e, api.ErrRange)
		}
		q, e := Paste(numbered(4, 3), 3, numbered(2, 2), 2, 0, n, false)
		checkError(t, "Paste", q, e, api.ErrRange)
		q, e = Transpose(numbered(4, 3), 3, Area{0, 0, 1, 1}, n)
		checkError(t, "Transpose by far", q, e, api.ErrRange)
	}
}

// Promise 5.2: Copy, worked out by hand.
func TestCopy(t *testing.T) {
	p := numbered(4, 3)
	for _, c := range []struct {
		a    Area
		want []int
	}{
		{Area{0, 0, 1, 1}, []int{0}},
		{Area{3, 2, 1, 1}, []int{11}},
		{Area{1, 1, 2, 2}, []int{4, 5, 7, 8}},
		{Area{0, 1, 4, 1}, []int{1, 4, 7, 10}},
		{Area{2, 0, 1, 3}, []int{6, 7, 8}},
		{Area{0, 0, 4, 3}, []int{0, 1, 2, 3, 4, 5, 6, 7, 8, 9, 10, 11}},
	} {
		want := api.Pattern{Rows: c.a.Rows}
		for _, i := range c.want {
			want.Cells = append(want.Cells, p.Cells[i])
		}
		got, e := Copy(p, 3, c.a)
		checkPattern(t, "Copy", got, e, want)
		if !Valid(got, c.a.Channels) {
			t.Errorf("%v: a pattern that is not valid", c.a)
		}
	}
}

// lettered returns a block of cells that numbered has not: the cell number i has the instrument i + 1.
func lettered(rows, channels int) api.Pattern {
	p := api.Pattern{Rows: rows}
	for i := range rows * channels {
		p.Cells = append(p.Cells, api.Cell{Inst: i%31 + 1})
	}
	return p
}

// Promise 5.2: Paste puts each cell in its place, and leaves out what lies beyond.
func TestPaste(t *testing.T) {
	p, block := numbered(4, 3), lettered(3, 2)
	for row := -1; row <= 4; row++ {
		for channel := -1; channel <= 3; channel++ {
			got, e := Paste(p, 3, block, 2, row, channel, false)
			if row < 0 || row > 3 || channel < 0 || channel > 2 {
				checkError(t, "Paste", got, e, api.ErrRange)
				continue
			}
			want := numbered(4, 3)
			for i := range want.Cells {
				r, c := i/3-row, i%3-channel
				if r >= 0 && r < 3 && c >= 0 && c < 2 {
					want.Cells[i] = block.Cells[r*2+c]
				}
			}
			checkPattern(t, "Paste", got, e, want)
		}
	}
	big := lettered(64, 16)
	got, e := Paste(numbered(1, 1), 1, big, 16, 0, 0, false)
	checkPattern(t, "a block that is greater", got, e, api.Pattern{Rows: 1, Cells: big.Cells[:1]})
	got, e = Paste(numbered(2, 1), 1, api.Pattern{Rows: 1, Cells: make([]api.Cell, 1)}, 1, 1, 0, false)
	checkPattern(t, "an empty cell", got, e, api.Pattern{Rows: 2, Cells: []api.Cell{cell(0, 0, 0, 0, 1, 0), {}}})
}

// Promise 5.2: with mix only parts that are not set are replaced, each as a whole.
func TestPasteMixed(t *testing.T) {
	full, other := cell(61, 1, 3, 0, 11, 0), cell(255, 2, 12, 99, 36, 255)
	for i, c := range []struct{ old, block, want api.Cell }{
		{api.Cell{}, other, other},
		{full, other, full},
		{full, api.Cell{}, full},
		{api.Cell{}, api.Cell{}, api.Cell{}},
		{cell(61, 0, 0, 0, 0, 0), other, cell(61, 2, 12, 99, 36, 255)},
		{cell(0, 1, 0, 0, 0, 0), other, cell(255, 1, 12, 99, 36, 255)},
		// the argument 0 and the parameter 0 belong to commands that are set
		{cell(0, 0, 3, 0, 0, 0), other, cell(255, 2, 3, 0, 36, 255)},
		{cell(0, 0, 0, 0, 11, 0), other, cell(255, 2, 12, 99, 11, 0)},
		{cell(255, 0, 0, 0, 11, 0), cell(61, 0, 1, 0, 0, 0), cell(255, 0, 1, 0, 11, 0)},
	} {
		p := api.Pattern{Rows: 1, Cells: []api.Cell{full, c.old}}
		block := api.Pattern{Rows: 1, Cells: []api.Cell{c.block}}
		got, e := Paste(p, 2, block, 1, 0, 1, true)
		checkPattern(t, "mixed", got, e, api.Pattern{Rows: 1, Cells: []api.Cell{full, c.want}})
		got, e = Paste(p, 2, block, 1, 0, 1, false)
		checkPattern(t, "not mixed", got, e, api.Pattern{Rows: 1, Cells: []api.Cell{full, c.block}})
		if t.Failed() {
			t.Fatalf("case %d", i)
		}
	}
}

// P5.3: what was copied is pasted where it came from, and nothing changes.
func TestCopyAndPaste(t *testing.T) {
	r := rand.New(rand.NewSource(1))
	patterns, channels := drawings(60)
	for i, p := range patterns {
		a := Area{Row: r.Intn(p.Rows), Channel: r.Intn(channels[i])}
		a.Rows, a.Channels = 1+r.Intn(p.Rows-a.Row), 1+r.Intn(channels[i]-a.Channel)
		block, e := Copy(p, channels[i], a)
		if e != api.OK {
			t.Fatal(e)
		}
		got, e := Paste(p, channels[i], block, a.Channels, a.Row, a.Channel, false)
		checkPattern(t, "pasted back", got, e, p)
		got, e = Paste(p, channels[i], block, a.Channels, a.Row, a.Channel, true)
		checkPattern(t, "mixed back", got, e, p)
	}
}

// Promise 5.2: Transpose of each note by each number.
func TestTranspose(t *testing.T) {
	for n := -125; n <= 125; n++ {
		for _, note := range []int{0, 1, 2, 60, 61, 119, 120, 253, 254, 255} {
			p := api.Pattern{Rows: 1, Cells: []api.Cell{cell(note, 1, 1, 2, 3, 4)}}
			got, e := Transpose(p, 1, Area{0, 0, 1, 1}, n)
			if n < -119 || n > 119 {
				checkError(t, "Transpose", got, e, api.ErrRange)
				continue
			}
			want := note
			if note >= 1 && note <= 120 && note+n >= 1 && note+n <= 120 {
				want = note + n
			}
			checkPattern(t, "Transpose", got, e, api.Pattern{Rows: 1, Cells: []api.Cell{cell(want, 1, 1, 2, 3, 4)}})
		}
	}
}

// Promise 5.2: Transpose changes its area alone.
func TestTransposeArea(t *testing.T) {
	var p api.Pattern
	for i := range 12 {
		p.Cells = append(p.Cells, api.Cell{Note: 10 + i})
	}
	p.Rows = 4
	got, e := Transpose(p, 3, Area{1, 1, 2, 2}, 100)
	want := []int{10, 11, 12, 13, 114, 115, 16, 117, 118, 19, 20, 21}
	for i, c := range got.Cells {
		if e != api.OK || c != (api.Cell{Note: want[i]}) {
			t.Errorf("cell %d: %v, %d", i, c, e)
		}
	}
	// 119 above 1 is 120, and the notes above it stay
	got, e = Transpose(p, 3, Area{0, 0, 4, 3}, 109)
	for i, c := range got.Cells {
		if want := 10 + i; e != api.OK || i <= 1 && c.Note != want+109 || i > 1 && c.Note != want {
			t.Errorf("cell %d: %v, %d", i, c, e)
		}
	}
}

// leaves reports whether transposing would take a note of an area out of 1 to 120.
func leaves(p api.Pattern, channels int, a Area, n int) bool {
	for i, c := range p.Cells {
		row, channel := i/channels-a.Row, i%channels-a.Channel
		if row >= 0 && row < a.Rows && channel >= 0 && channel < a.Channels && c.Note >= 1 && c.Note <= 120 && (c.Note+n < 1 || c.Note+n > 120) {
			return true
		}
	}
	return false
}

// P5.4: there and back changes nothing if no note leaves its range.
func TestTransposeBack(t *testing.T) {
	patterns, channels := drawings(60)
	tried := 0
	for i, p := range patterns {
		a := Area{0, 0, (p.Rows + 1) / 2, (channels[i] + 1) / 2}
		for _, n := range []int{-119, -12, -2, -1, 0, 1, 2, 7, 60, 117, 119} {
			if leaves(p, channels[i], a, n) {
				continue
			}
			tried++
			there, e := Transpose(p, channels[i], a, n)
			if e != api.OK {
				t.Fatal(e)
			}
			back, e := Transpose(there, channels[i], a, -n)
			checkPattern(t, "there and back", back, e, p)
		}
	}
	if tried < 100 {
		t.Errorf("only %d tried", tried)
	}
}

// Promise 5.3: Insert and Delete, row by row.
func TestInsertAndDelete(t *testing.T) {
	p := numbered(4, 2)
	for row := -1; row <= 4; row++ {
		inserted, e := Insert(p, 2, row)
		deleted, e2 := Delete(p, 2, row)
		if row < 0 || row > 3 {
			checkError(t, "Insert", inserted, e, api.ErrRange)
			checkError(t, "Delete", deleted, e2, api.ErrRange)
			continue
		}
		more, less := api.Pattern{Rows: 4}, api.Pattern{Rows: 4}
		for i := range 4 {
			if i == row {
				more.Cells = append(more.Cells, api.Cell{}, api.Cell{})
			} else {
				less.Cells = append(less.Cells, p.Cells[2*i], p.Cells[2*i+1])
			}
			more.Cells = append(more.Cells, p.Cells[2*i], p.Cells[2*i+1])
		}
		more.Cells = more.Cells[:8]
		less.Cells = append(less.Cells, api.Cell{}, api.Cell{})
		checkPattern(t, "Insert", inserted, e, more)
		checkPattern(t, "Delete", deleted, e2, less)
	}
	one := api.Pattern{Rows: 1, Cells: make([]api.Cell, 3)}
	got, e := Insert(numbered(1, 3), 3, 0)
	checkPattern(t, "Insert into one row", got, e, one)
	got, e = Delete(numbered(1, 3), 3, 0)
	checkPattern(t, "Delete of the only row", got, e, one)
	narrow := numbered(2, 1)
	got, e = Insert(narrow, 1, 0)
	checkPattern(t, "Insert into one channel", got, e, api.Pattern{Rows: 2, Cells: []api.Cell{{}, narrow.Cells[0]}})
	got, e = Delete(narrow, 1, 0)
	checkPattern(t, "Delete in one channel", got, e, api.Pattern{Rows: 2, Cells: []api.Cell{narrow.Cells[1], {}}})
}

// column returns a pattern of two channels, with cells in channel 1 only.
func column(cells ...api.Cell) api.Pattern {
	p := api.Pattern{Rows: len(cells)}
	for _, c := range cells {
		p.Cells = append(p.Cells, api.Cell{}, c)
	}
	return p
}

// effects returns such a pattern of effects and parameters.
func effects(pairs ...int) api.Pattern {
	var cells []api.Cell
	for i := 0; i < len(pairs); i += 2 {
		cells = append(cells, cell(0, 0, 0, 0, pairs[i], pairs[i+1]))
	}
	return column(cells...)
}

// Promise 5.3: Interpolate, worked out by hand.
func TestInterpolate(t *testing.T) {
	for i, c := range []struct {
		p        api.Pattern
		from, to int
		want     api.Pattern
	}{
		{effects(3, 0, 0, 0, 0, 0, 0, 0, 3, 8), 0, 4, effects(3, 0, 3, 2, 3, 4, 3, 6, 3, 8)},
		{effects(3, 8, 0, 0, 0, 0, 0, 0, 3, 0), 0, 4, effects(3, 8, 3, 6, 3, 4, 3, 2, 3, 0)},
		// rounded towards minus infinity, up and down
		{effects(3, 0, 0, 0, 0, 0, 3, 2), 0, 3, effects(3, 0, 3, 0, 3, 1, 3, 2)},
		{effects(3, 2, 0, 0, 0, 0, 3, 0), 0, 3, effects(3, 2, 3, 1, 3, 0, 3, 0)},
		{effects(3, 255, 0, 0, 0, 0, 3, 254), 0, 3, effects(3, 255, 3, 254, 3, 254, 3, 254)},
		{effects(3, 0, 0, 0, 0, 0, 3, 255), 0, 3, effects(3, 0, 3, 85, 3, 170, 3, 255)},
		// effects that are set stay, but they count
		{effects(3, 0, 5, 9, 0, 0, 3, 7, 3, 8), 0, 4, effects(3, 0, 5, 9, 3, 4, 3, 7, 3, 8)},
		// only the rows between
		{effects(0, 0, 3, 4, 0, 0, 3, 6, 0, 0), 1, 3, effects(0, 0, 3, 4, 3, 5, 3, 6, 0, 0)},
		{effects(3, 1, 3, 9), 0, 1, effects(3, 1, 3, 9)},
		// other effects, or none
		{effects(3, 0, 0, 0, 4, 8), 0, 2, effects(3, 0, 0, 0, 4, 8)},
		{effects(3, 0, 0, 0, 0, 0), 0, 2, effects(3, 0, 0, 0, 0, 0)},
		{effects(0, 0, 0, 0, 3, 8), 0, 2, effects(0, 0, 0, 0, 3, 8)},
		{effects(0, 0, 0, 0, 0, 0), 0, 2, effects(0, 0, 0, 0, 0, 0)},
		{effects(36, 7, 0, 0, 36, 7), 0, 2, effects(36, 7, 36, 7, 36, 7)},
		// the other parts stay
		{column(cell(1, 1, 1, 1, 1, 10), cell(2, 3, 4, 5, 0, 0), cell(9, 9, 9, 9, 1, 20)), 0, 2,
			column(cell(1, 1, 1, 1, 1, 10), cell(2, 3, 4, 5, 1, 15), cell(9, 9, 9, 9, 1, 20))},
	} {
		got, e := Interpolate(c.p, 2, 1, c.from, c.to)
		checkPattern(t, "Interpolate", got, e, c.want)
		// channel 0 has no effects
		got, e = Interpolate(c.p, 2, 0, c.from, c.to)
		checkPattern(t, "Interpolate of another channel", got, e, c.p)
		if t.Failed() {
			t.Fatalf("case %d", i)
		}
	}
}

// Promise 5.3: every distance, against the formula with a floor that is made of numbers with a fraction.
func TestInterpolateAll(t *testing.T) {
	for n := 1; n <= 63; n++ {
		for _, ends := range [][2]int{{0, 255}, {255, 0}, {3, 200}, {200, 3}, {128, 127}, {10, 10}} {
			p := effects(make([]int, 128)...)
			p.Cells[1].Effect, p.Cells[1].Param = 7, ends[0]
			p.Cells[2*n+1].Effect, p.Cells[2*n+1].Param = 7, ends[1]
			got, e := Interpolate(p, 2, 1, 0, n)
			if e != api.OK {
				t.Fatal(e)
			}
			for k := range 64 {
				want := p.Cells[2*k+1]
				if k > 0 && k < n {
					way := float64((ends[1]-ends[0])*k) / float64(n)
					want = cell(0, 0, 0, 0, 7, ends[0]+int(math.Floor(way)))
				}
				if got.Cells[2*k+1] != want || got.Cells[2*k] != (api.Cell{}) {
					t.Fatalf("%v over %d rows, row %d: %v", ends, n, k, got.Cells[2*k+1])
				}
			}
		}
	}
}

// Section Functions and Details: both rows and the channel are in the pattern, and to is greater than from.
func TestInterpolateRange(t *testing.T) {
	p := numbered(4, 3)
	for _, channel := range append(extremes(), -1, 0, 2, 3) {
		for _, from := range append(extremes(), -1, 0, 1, 2, 3, 4) {
			for _, to := range append(extremes(), -1, 0, 1, 2, 3, 4) {
				got, e := Interpolate(p, 3, channel, from, to)
				if channel >= 0 && channel <= 2 && from >= 0 && to <= 3 && from < to {
					if e != api.OK || !Valid(got, 3) {
						t.Errorf("%d, %d, %d: %d", channel, from, to, e)
					}
				} else {
					checkError(t, "Interpolate", got, e, api.ErrRange)
				}
			}
		}
	}
}

// Promise 5.3: Join and Split, and their errors.
func TestJoinAndSplit(t *testing.T) {
	p := numbered(4, 3)
	for row := -1; row <= 5; row++ {
		first, second, e := Split(p, 3, row)
		if row < 1 || row > 3 {
			checkError(t, "Split", first, e, api.ErrRange)
			checkError(t, "Split", second, e, api.ErrRange)
			continue
		}
		checkPattern(t, "Split", first, e, api.Pattern{Rows: row, Cells: p.Cells[:3*row]})
		checkPattern(t, "Split", second, e, api.Pattern{Rows: 4 - row, Cells: p.Cells[3*row:]})
	}
	if _, _, e := Split(numbered(1, 3), 3, 1); e != api.ErrRange {
		t.Errorf("one row cannot be split: %d", e)
	}
	if _, _, e := Split(numbered(1, 3), 3, 0); e != api.ErrRange {
		t.Errorf("one row cannot be split: %d", e)
	}
	for _, rows := range [][2]int{{1, 1}, {1, 63}, {63, 1}, {32, 32}, {1, 64}, {64, 1}, {33, 32}, {64, 64}} {
		a, b := numbered(rows[0], 3), lettered(rows[1], 3)
		got, e := Join(a, b, 3)
		if rows[0]+rows[1] > 64 {
			checkError(t, "Join", got, e, api.ErrLimit)
		} else {
			checkPattern(t, "Join", got, e, api.Pattern{Rows: rows[0] + rows[1], Cells: append(a.Cells, b.Cells...)})
		}
	}
}

// P5.3: Join of what Split returned is the pattern.
func TestSplitAndJoin(t *testing.T) {
	patterns, channels := drawings(40)
	for i, p := range patterns {
		for row := 1; row < p.Rows; row++ {
			first, second, e := Split(p, channels[i], row)
			if e != api.OK {
				t.Fatal(e)
			}
			got, e := Join(first, second, channels[i])
			checkPattern(t, "joined again", got, e, p)
		}
	}
}
