package inst

import (
	"iter"

	"orchestrion/api"
)

const lastTick = 9999

// ValidEnvelope reports whether an envelope is valid for a range of values.
func ValidEnvelope(e api.Envelope, low, high int) bool {
	if len(e.Points) > api.MaxPoints || e.On && len(e.Points) == 0 {
		return false
	}
	return validPoints(e.Points, low, high) &&
		validCircle(e.Sus, e.SusStart, e.SusEnd, len(e.Points)) &&
		validCircle(e.Loop, e.LoopStart, e.LoopEnd, len(e.Points))
}

func validPoints(points []api.Point, low, high int) bool {
	least, most := 0, 0
	for _, p := range points {
		if !within(p.Tick, least, most) || !within(p.Value, low, high) {
			return false
		}
		least, most = p.Tick+1, lastTick
	}
	return true
}

func validCircle(there bool, start, end, points int) bool {
	if !there {
		return start == 0 && end == 0
	}
	return 0 <= start && start <= end && end < points
}

// plays reports whether an envelope counts at all: one that is not on, or not valid for any use, does not.
func plays(e api.Envelope) bool { return e.On && ValidEnvelope(e, -64, 64) }

// Value returns an envelope's value at a tick: a point's value at the point's tick, between two points what lies on the line between them, rounded down.
func Value(e api.Envelope, tick int) int {
	if !plays(e) {
		return 0
	}
	return valueAt(e.Points, tick)
}

func valueAt(points []api.Point, tick int) int {
	from := points[0]
	if tick <= from.Tick {
		return from.Value
	}
	for _, to := range points[1:] {
		if tick < to.Tick {
			return from.Value + floor((to.Value-from.Value)*(tick-from.Tick), to.Tick-from.Tick)
		}
		from = to
	}
	return from.Value
}

// floor returns a / b, with b above 0, rounded towards minus infinity.
func floor(a, b int) int {
	if a < 0 {
		return -((b - 1 - a) / b)
	}
	return a / b
}

// After returns the tick that follows a tick, with the key held or not.
func After(e api.Envelope, tick int, held bool) int {
	if !plays(e) {
		return 0
	}
	return walkerOf(e, held).after(tick)
}

// Over reports whether no circle applies and the tick is the last point's tick or later.
func Over(e api.Envelope, tick int, held bool) bool {
	return plays(e) && walkerOf(e, held).over(tick)
}

// Curve returns the values of n ticks (0 to MaxTicks), the key held before the tick number release.
func Curve(e api.Envelope, n, release int) []int {
	if !within(n, 0, api.MaxTicks) {
		return nil
	}
	curve := make([]int, n)
	if !plays(e) {
		return curve
	}
	for i, tick := range ticks(e, release) {
		if i == n {
			break
		}
		curve[i] = valueAt(e.Points, tick)
	}
	return curve
}

// ticks walks through an envelope that plays, without end: steps from 0 on, each with its tick.
func ticks(e api.Envelope, release int) iter.Seq2[int, int] {
	held, free := walkerOf(e, true), walkerOf(e, false)
	return func(yield func(step, tick int) bool) {
		tick := 0
		for step := 0; yield(step, tick); step++ {
			if step < release {
				tick = held.after(tick)
			} else {
				tick = free.after(tick)
			}
		}
	}
}

// walker goes from tick to tick of an envelope: round the circle that applies, or else up to the last point's tick.
type walker struct {
	circle
	end int
}

// circle is two ticks between which an envelope goes round, if there are any.
type circle struct {
	there    bool
	from, to int
}

// walkerOf returns the walker of an envelope that plays.
func walkerOf(e api.Envelope, held bool) walker {
	return walker{circle: circleOf(e, held), end: e.Points[len(e.Points)-1].Tick}
}

func circleOf(e api.Envelope, held bool) circle {
	switch {
	case held && e.Sus:
		return circle{true, e.Points[e.SusStart].Tick, e.Points[e.SusEnd].Tick}
	case e.Loop:
		return circle{true, e.Points[e.LoopStart].Tick, e.Points[e.LoopEnd].Tick}
	}
	return circle{}
}

func (w walker) after(tick int) int {
	tick = max(tick, 0)
	switch {
	case w.there && tick >= w.to:
		return w.from
	case !w.there && tick >= w.end:
		return w.end
	}
	return tick + 1
}

func (w walker) over(tick int) bool { return !w.there && tick >= w.end }
