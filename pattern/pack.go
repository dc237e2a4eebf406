package pattern

import "orchestrion/api"

// The bits of a mask for a cell's first part. Those of the others are to the left of them, in the order of the parts.
const (
	written  = 1
	repeated = 16
)

// lasts is the last value of each part in each channel, kept as cells: a part that is not set there has not been set before.
type lasts [api.MaxChannels]api.Cell

// Pack writes a pattern row by row: the cells that are not empty, each with its channel and a mask of what follows, then a 0.
func Pack(p api.Pattern, channels int) ([]byte, api.Errno) {
	if !Valid(p, channels) {
		return nil, api.ErrInvalid
	}
	var b []byte
	var last lasts
	for row := range p.Rows {
		for channel, c := range p.Cells[row*channels:][:channels] {
			if c != (api.Cell{}) {
				b = append(b, byte(channel+1))
				b = appendCell(b, c, &last[channel])
			}
		}
		b = append(b, 0)
	}
	return b, api.OK
}

// appendCell appends a cell's mask and the parts that are not those of the last cell, and keeps them as the last ones.
func appendCell(b []byte, c api.Cell, last *api.Cell) []byte {
	mask := len(b)
	b = append(b, 0)
	for i, part := range parts() {
		v := part.get(c)
		switch {
		case !v.set():
		case v == part.get(*last):
			b[mask] |= repeated << i
		default:
			b[mask] |= written << i
			for _, n := range v[:part.numbers] {
				b = append(b, byte(n))
			}
			part.put(last, v)
		}
	}
	return b
}

// Unpack reads rows back, and returns how many bytes it used.
func Unpack(b []byte, rows, channels int) (p api.Pattern, used int, e api.Errno) {
	p, e = Blank(rows, channels)
	if e != api.OK {
		return api.Pattern{}, 0, e
	}
	if len(b) > api.MaxBytes {
		return api.Pattern{}, 0, api.ErrLong
	}
	r := reader{b: b}
	e = outcome(func() {
		for row := range rows {
			r.row(p.Cells[row*channels:][:channels])
		}
	})
	if e != api.OK {
		return api.Pattern{}, 0, e
	}
	return p, r.used, api.OK
}

// reader reads what Pack wrote. It leaves by demand at the first byte that is wrong or not there.
type reader struct {
	b    []byte
	used int
	last lasts
}

func (r *reader) next() int {
	demand(r.used < len(r.b), api.ErrTruncated)
	r.used++
	return int(r.b[r.used-1])
}

// row reads a row into its cells.
func (r *reader) row(cells []api.Cell) {
	before := 0
	for {
		channel := r.next()
		if channel == 0 {
			return
		}
		demand(within(channel, before+1, len(cells)), api.ErrData)
		cells[channel-1] = r.cell(&r.last[channel-1])
		before = channel
	}
}

// cell reads a cell, and keeps its parts as the last ones.
func (r *reader) cell(last *api.Cell) api.Cell {
	mask := r.next()
	demand(validMask(mask, *last), api.ErrData)
	var c api.Cell
	for i, part := range parts() {
		switch {
		case mask&(written<<i) != 0:
			part.put(&c, r.value(part.numbers))
			part.put(last, part.get(c))
		case mask&(repeated<<i) != 0:
			part.put(&c, part.get(*last))
		}
	}
	demand(ValidCell(c), api.ErrData)
	return c
}

// validMask reports whether a mask asks for something, for no part in both ways, and to repeat only what was there before.
func validMask(mask int, last api.Cell) bool {
	for i, part := range parts() {
		write, repeat := mask&(written<<i) != 0, mask&(repeated<<i) != 0
		if repeat && (write || !part.get(last).set()) {
			return false
		}
	}
	return mask != 0
}

// value reads the numbers of a part that is set.
func (r *reader) value(numbers int) value {
	var v value
	for i := range numbers {
		v[i] = r.next()
		demand(v.set(), api.ErrData)
	}
	return v
}
