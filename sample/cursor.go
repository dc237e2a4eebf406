package sample

import "orchestrion/api"

const (
	frame   = 1 << 16 // a frame, in the units in which a cursor stands and moves
	maxStep = 1 << 28
	maxTap  = 8
)

// Begin returns the cursor at the frame offset, or with back at the last frame minus offset, going back. It is done if there is no such frame or the sample is not valid.
func Begin(s api.Sample, offset int, back bool) api.Cursor {
	last := len(s.Data) - 1
	if !Valid(s) || !within(offset, 0, last) {
		return api.Cursor{Done: true}
	}
	if back {
		return api.Cursor{Pos: last - offset, Back: true}
	}
	return api.Cursor{Pos: offset}
}

// Move moves a cursor by a step, in 1/65,536 frames, from 0 to 2^28.
func Move(s api.Sample, c api.Cursor, step int, held bool) (api.Cursor, api.Errno) {
	if !Valid(s) || !validCursor(c, len(s.Data)) {
		return api.Cursor{}, api.ErrInvalid
	}
	if !within(step, 0, maxStep) {
		return api.Cursor{}, api.ErrRange
	}
	return routeOf(s, held).move(c, step), api.OK
}

// Tap returns the value of the frame k frames further along the cursor's way, for k from -8 to 8, as a number of 16 bits. It is 0 where there is no such frame, and for what is not valid.
func Tap(s api.Sample, c api.Cursor, k int, held bool) int {
	if !within(k, -maxTap, maxTap) || !Valid(s) || !validCursor(c, len(s.Data)) {
		return 0
	}
	if k <= 0 {
		return behind(s, c, -k)
	}
	c.Frac = 0
	return value(s, routeOf(s, held).move(c, k*frame))
}

// behind returns the value n frames back along the cursor's way, which goes by the data and not through a loop.
func behind(s api.Sample, c api.Cursor, n int) int {
	if c.Back {
		c.Pos += n
	} else {
		c.Pos -= n
	}
	if !within(c.Pos, 0, len(s.Data)-1) {
		return 0
	}
	return value(s, c)
}

// Unroll returns the values at which a cursor that begins at frame 0 stands before each of n moves by a frame, and 0 once it is done.
func Unroll(s api.Sample, n int, held bool) ([]int, api.Errno) {
	if !Valid(s) {
		return nil, api.ErrInvalid
	}
	if !within(n, 0, api.MaxOut) {
		return nil, api.ErrRange
	}
	r := routeOf(s, held)
	values := make([]int, n)
	c := Begin(s, 0, false)
	for i := range values {
		values[i] = value(s, c)
		c = r.move(c, frame)
	}
	return values, api.OK
}

// value returns the value of the frame at a cursor's Pos, as a number of 16 bits.
func value(s api.Sample, c api.Cursor) int {
	if c.Done {
		return 0
	}
	if s.Bits == 8 {
		return 256 * s.Data[c.Pos]
	}
	return s.Data[c.Pos]
}

func validCursor(c api.Cursor, frames int) bool {
	if c.Done {
		return c == api.Cursor{Done: true}
	}
	return within(c.Pos, 0, frames-1) && within(c.Frac, 0, frame-1)
}
