package pattern

import (
	"slices"

	"orchestrion/api"
)

// Area is a rectangle of a pattern: its first row and channel, and how many of each it has.
type Area struct{ Row, Channel, Rows, Channels int }

// within reports whether an area has a cell and lies within so many rows and channels.
func (a Area) within(rows, channels int) bool {
	// Differences of what has been asked cannot wrap around, as a sum of the area's numbers could.
	return within(a.Rows, 1, rows) && within(a.Row, 0, rows-a.Rows) &&
		within(a.Channels, 1, channels) && within(a.Channel, 0, channels-a.Channels)
}

// askArea returns the error of an area that is not one of a valid pattern.
func askArea(p api.Pattern, channels int, a Area) api.Errno {
	if !Valid(p, channels) {
		return api.ErrInvalid
	}
	if !a.within(p.Rows, channels) {
		return api.ErrRange
	}
	return api.OK
}

// line returns the area's cells in its row number i. They are the pattern's own memory.
func (a Area) line(p api.Pattern, channels, i int) []api.Cell {
	from := (a.Row+i)*channels + a.Channel
	return p.Cells[from : from+a.Channels]
}

// Copy returns an area as a pattern of Area.Channels channels.
func Copy(p api.Pattern, channels int, a Area) (api.Pattern, api.Errno) {
	if e := askArea(p, channels, a); e != api.OK {
		return api.Pattern{}, e
	}
	block := blank(a.Rows, a.Channels)
	for i := range a.Rows {
		copy(block.Cells[i*a.Channels:], a.line(p, channels, i))
	}
	return block, api.OK
}

// Paste puts a block (a pattern valid for wide channels) with its first cell at a row and channel of p, and leaves out what would lie beyond p. With mix a part of the block's cell replaces a part of the old cell only where the old part is not set.
func Paste(p api.Pattern, channels int, block api.Pattern, wide, row, channel int, mix bool) (api.Pattern, api.Errno) {
	if !Valid(block, wide) {
		return api.Pattern{}, api.ErrInvalid
	}
	if e := askPlace(p, channels, row, channel); e != api.OK {
		return api.Pattern{}, e
	}
	changed := clone(p)
	a := Area{row, channel, min(block.Rows, p.Rows-row), min(wide, channels-channel)}
	for i := range a.Rows {
		old := a.line(changed, channels, i)
		for k, c := range block.Cells[i*wide:][:a.Channels] {
			if mix {
				c = mixed(old[k], c)
			}
			old[k] = c
		}
	}
	return changed, api.OK
}

// mixed returns the old cell with the other's parts where it has none.
func mixed(old, other api.Cell) api.Cell {
	for _, part := range parts() {
		if !part.get(old).set() {
			part.put(&old, part.get(other))
		}
	}
	return old
}

// Transpose adds n to each note from 1 to 120 of an area. A note that would leave 1 to 120 stays.
func Transpose(p api.Pattern, channels int, a Area, n int) (api.Pattern, api.Errno) {
	if e := askArea(p, channels, a); e != api.OK {
		return api.Pattern{}, e
	}
	if !within(n, -maxShift, maxShift) {
		return api.Pattern{}, api.ErrRange
	}
	changed := clone(p)
	for i := range a.Rows {
		line := a.line(changed, channels, i)
		for k := range line {
			line[k].Note = transposed(line[k].Note, n)
		}
	}
	return changed, api.OK
}

func transposed(note, n int) int {
	if isPitched(note) && isPitched(note+n) {
		return note + n
	}
	return note
}

// Insert puts an empty row at row. The rows from there on move down by one, and the last one is lost.
func Insert(p api.Pattern, channels, row int) (api.Pattern, api.Errno) {
	if e := askPlace(p, channels, row, 0); e != api.OK {
		return api.Pattern{}, e
	}
	changed := clone(p)
	moved := changed.Cells[row*channels:]
	copy(moved[channels:], p.Cells[row*channels:])
	clear(moved[:channels])
	return changed, api.OK
}

// Delete removes the row. Later ones move up, and the last row becomes empty.
func Delete(p api.Pattern, channels, row int) (api.Pattern, api.Errno) {
	if e := askPlace(p, channels, row, 0); e != api.OK {
		return api.Pattern{}, e
	}
	changed := blank(p.Rows, channels)
	copy(changed.Cells, p.Cells[:row*channels])
	copy(changed.Cells[row*channels:], p.Cells[(row+1)*channels:])
	return changed, api.OK
}

// Interpolate sets, in a channel, the effects that are not set of the rows between from and to, if these two rows have the same effect: to that effect, with parameters on the line between theirs, rounded down.
func Interpolate(p api.Pattern, channels, channel, from, to int) (api.Pattern, api.Errno) {
	if e := askPlace(p, channels, from, channel); e != api.OK {
		return api.Pattern{}, e
	}
	if !within(to, from+1, p.Rows-1) {
		return api.Pattern{}, api.ErrRange
	}
	changed := clone(p)
	a, b := p.Cells[from*channels+channel], p.Cells[to*channels+channel]
	if a.Effect != b.Effect || a.Effect == 0 {
		return changed, api.OK
	}
	n := to - from
	for k := 1; k < n; k++ {
		c := &changed.Cells[(from+k)*channels+channel]
		if c.Effect == 0 {
			// Weights give the same number as the way from a to b, and nothing below 0 is divided.
			c.Effect, c.Param = a.Effect, (a.Param*(n-k)+b.Param*k)/n
		}
	}
	return changed, api.OK
}

// Join returns p followed by q.
func Join(p, q api.Pattern, channels int) (api.Pattern, api.Errno) {
	if !Valid(p, channels) || !Valid(q, channels) {
		return api.Pattern{}, api.ErrInvalid
	}
	if p.Rows+q.Rows > api.MaxRows {
		return api.Pattern{}, api.ErrLimit
	}
	return api.Pattern{Rows: p.Rows + q.Rows, Cells: slices.Concat(p.Cells, q.Cells)}, api.OK
}

// Split returns the rows before row (1 to Rows - 1) and those from row on.
func Split(p api.Pattern, channels, row int) (api.Pattern, api.Pattern, api.Errno) {
	if !Valid(p, channels) {
		return api.Pattern{}, api.Pattern{}, api.ErrInvalid
	}
	if !within(row, 1, p.Rows-1) {
		return api.Pattern{}, api.Pattern{}, api.ErrRange
	}
	first := api.Pattern{Rows: row, Cells: slices.Clone(p.Cells[:row*channels])}
	second := api.Pattern{Rows: p.Rows - row, Cells: slices.Clone(p.Cells[row*channels:])}
	return first, second, api.OK
}
