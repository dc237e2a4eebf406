package sample

import "orchestrion/api"

// route is what cursors move through: the data's end and the places of the loop that applies, all in 1/65,536 frames, and how they move in a loop of its kind.
type route struct {
	end int
	span
	course
}

// span is the places of a loop.
type span struct{ from, to int }

func (l span) width() int { return l.to - l.from }

// course is how a cursor moves in a kind of loop, by its direction: from the place x by a step to another place, with the direction that it has there. A place outside the data is the end of the sample.
type course struct {
	forward, back func(l span, x, step int) (place int, back bool)
}

// courses returns the courses by the kinds of loops.
func courses() [3]course {
	return [3]course{
		api.LoopNone:     {forward: onward, back: backward},
		api.LoopForward:  {forward: loopOnward, back: loopBackward},
		api.LoopPingPong: {forward: swingOnward, back: swingBackward},
	}
}

// routeOf returns the route through a sample that is valid.
func routeOf(s api.Sample, held bool) route {
	l := applying(s, held)
	return route{
		end:    frame * len(s.Data),
		span:   span{frame * l.start, frame * l.end},
		course: courses()[l.kind],
	}
}

// move moves a cursor that is valid for the route's sample.
func (r route) move(c api.Cursor, step int) api.Cursor {
	if c.Done {
		return c
	}
	turn := r.forward
	if c.Back {
		turn = r.back
	}
	x, back := turn(r.span, c.Pos*frame+c.Frac, step)
	if !within(x, 0, r.end-1) {
		return api.Cursor{Done: true}
	}
	return api.Cursor{Pos: x / frame, Frac: x % frame, Back: back}
}

func onward(_ span, x, step int) (int, bool) { return x + step, false }

func backward(_ span, x, step int) (int, bool) { return x - step, true }

func loopOnward(l span, x, step int) (int, bool) {
	x += step
	if x < l.to {
		return x, false
	}
	return l.from + mod(x-l.from, l.width()), false
}

func loopBackward(l span, x, step int) (int, bool) {
	// A cursor that stands before the loop does not get into it on the way back.
	if x < l.from || x-step >= l.from {
		return x - step, true
	}
	return l.from + mod(x-step-l.from, l.width()), true
}

func swingOnward(l span, x, step int) (int, bool) {
	if x+step < l.to {
		return x + step, false
	}
	return l.swing(x + step - l.from)
}

func swingBackward(l span, x, step int) (int, bool) {
	if x < l.from {
		return x - step, true
	}
	x = min(x, l.to-1)
	return l.swing(2*l.width() - 1 - (x - l.from) + step)
}

// swing returns the place that is u units on from the loop's beginning, there and back, and the direction there.
func (l span) swing(u int) (int, bool) {
	u = mod(u, 2*l.width())
	if u < l.width() {
		return l.from + u, false
	}
	return l.from + 2*l.width() - 1 - u, true
}

// mod returns a mod b, from 0 to b - 1 also where a is below 0.
func mod(a, b int) int { return (a%b + b) % b }
