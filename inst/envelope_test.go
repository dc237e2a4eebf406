package inst

import (
	"math"
	"math/rand"
	"slices"
	"testing"

	"orchestrion/api"
)

// line returns an envelope that is on, with the points of the pairs tick, value.
func line(pairs ...int) api.Envelope {
	e := api.Envelope{On: true}
	for i := 0; i < len(pairs); i += 2 {
		e.Points = append(e.Points, api.Point{Tick: pairs[i], Value: pairs[i+1]})
	}
	return e
}

// sustained returns the envelope with sustain points.
func sustained(e api.Envelope, start, end int) api.Envelope {
	e.Sus, e.SusStart, e.SusEnd = true, start, end
	return e
}

// looped returns the envelope with loop points.
func looped(e api.Envelope, start, end int) api.Envelope {
	e.Loop, e.LoopStart, e.LoopEnd = true, start, end
	return e
}

// off returns the envelope as one that is not on.
func off(e api.Envelope) api.Envelope {
	e.On = false
	return e
}

// steps returns an envelope with n points at the ticks 0, 1, 2 .., all of value 0.
func steps(n int) api.Envelope {
	e := api.Envelope{On: true}
	for i := range n {
		e.Points = append(e.Points, api.Point{Tick: i})
	}
	return e
}

// extremes are numbers that hardly any argument may be.
func extremes() []int {
	return []int{math.MinInt, math.MinInt + 1, -1 << 40, 1 << 40, math.MaxInt - 1, math.MaxInt}
}

// Section Envelopes: the number of points, their ticks, their values, from both sides of each bound.
func TestValidPoints(t *testing.T) {
	for i, c := range []struct {
		e    api.Envelope
		want bool
	}{
		{api.Envelope{}, true},
		{api.Envelope{On: true}, false},
		{line(0, 0), true},
		{off(line(0, 0)), true},
		{steps(16), true},
		{steps(17), false},
		{off(steps(16)), true},
		{off(steps(17)), false},
		{line(1, 0), false},
		{line(-1, 0), false},
		{off(line(1, 0)), false},
		{line(0, 0, 1, 0), true},
		{line(0, 0, 0, 0), false},
		{line(0, 0, -1, 0), false},
		{line(0, 0, 5, 0, 5, 0), false},
		{line(0, 0, 5, 0, 4, 0), false},
		{line(0, 0, 5, 0, 6, 0), true},
		{line(0, 0, 9999, 0), true},
		{line(0, 0, 10000, 0), false},
		{line(0, 0, 9999, 0, 10000, 0), false},
		{line(0, 0, math.MaxInt, 0), false},
		{line(0, 0, math.MaxInt, 0, math.MinInt, 0), false},
		{line(0, 64), true},
		{line(0, 65), false},
		{line(0, -20), true},
		{line(0, -21), false},
		{off(line(0, -21)), false},
		{line(0, 0, 1, 64, 2, -20), true},
		{line(0, 0, 1, 65, 2, 0), false},
		{line(0, 0, 1, 0, 2, -21), false},
	} {
		if got := ValidEnvelope(c.e, -20, 64); got != c.want {
			t.Errorf("case %d: %v", i, got)
		}
	}
}

// Section Envelopes: the range is what the caller says, whatever it is.
func TestValidRange(t *testing.T) {
	for _, c := range []struct {
		value, low, high int
		want             bool
	}{
		{0, 0, 64, true}, {-1, 0, 64, false}, {-1, -32, 32, true}, {33, -32, 32, false}, {33, 0, 64, true},
		{7, 7, 7, true}, {6, 7, 7, false}, {8, 7, 7, false}, {5, 10, 0, false}, {0, 10, 0, false},
		{math.MaxInt, math.MinInt, math.MaxInt, true}, {math.MinInt, math.MinInt, math.MaxInt, true},
		{math.MaxInt, math.MinInt, math.MaxInt - 1, false}, {math.MinInt, math.MinInt + 1, 0, false},
	} {
		if got := ValidEnvelope(line(0, c.value), c.low, c.high); got != c.want {
			t.Errorf("%v: %v", c, got)
		}
	}
	if !ValidEnvelope(api.Envelope{}, 10, 0) {
		t.Error("no point has a value out of the range")
	}
}

// Section Envelopes and Details: both circles, each by itself.
func TestValidCircles(t *testing.T) {
	for _, c := range []struct {
		there              bool
		start, end, points int
		want               bool
	}{
		{false, 0, 0, 3, true}, {false, 0, 1, 3, false}, {false, 1, 0, 3, false}, {false, 1, 2, 3, false}, {false, -1, 0, 3, false},
		{true, 0, 0, 3, true}, {true, 0, 2, 3, true}, {true, 1, 2, 3, true}, {true, 2, 2, 3, true},
		{true, 0, 3, 3, false}, {true, 3, 3, 3, false}, {true, 2, 1, 3, false}, {true, -1, 1, 3, false}, {true, -1, -1, 3, false},
		{true, math.MinInt, math.MaxInt, 3, false},
		{false, 0, 0, 0, true}, {true, 0, 0, 0, false}, {true, 0, -1, 0, false},
		{true, 0, 15, 16, true}, {true, 0, 16, 16, false},
	} {
		for _, on := range []bool{true, false} {
			e := steps(c.points)
			e.On = on && c.points > 0
			sus, loop := e, e
			sus.Sus, sus.SusStart, sus.SusEnd = c.there, c.start, c.end
			loop.Loop, loop.LoopStart, loop.LoopEnd = c.there, c.start, c.end
			if got := ValidEnvelope(sus, 0, 64); got != c.want {
				t.Errorf("sustain points %v: %v", c, got)
			}
			if got := ValidEnvelope(loop, 0, 64); got != c.want {
				t.Errorf("loop points %v: %v", c, got)
			}
		}
	}
	if !ValidEnvelope(looped(sustained(steps(4), 1, 2), 0, 3), 0, 64) {
		t.Error("an envelope may have both")
	}
	if ValidEnvelope(looped(sustained(steps(4), 1, 2), 0, 4), 0, 64) {
		t.Error("both are asked")
	}
}

// Promise 4.1, Value: worked out by hand.
func TestValue(t *testing.T) {
	down, up := line(0, 64, 10, 0), line(0, -32, 3, 32)
	three := line(0, 0, 4, 64, 8, 60)
	for _, c := range []struct {
		e          api.Envelope
		tick, want int
	}{
		{down, 0, 64}, {down, 1, 57}, {down, 3, 44}, {down, 5, 32}, {down, 9, 6}, {down, 10, 0}, {down, 11, 0}, {down, 9999, 0},
		{down, -1, 64}, {down, math.MinInt, 64}, {down, math.MaxInt, 0},
		{up, -5, -32}, {up, 0, -32}, {up, 1, -11}, {up, 2, 10}, {up, 3, 32}, {up, 4, 32},
		{three, 1, 16}, {three, 3, 48}, {three, 4, 64}, {three, 5, 63}, {three, 6, 62}, {three, 7, 61}, {three, 8, 60}, {three, 9, 60},
		{line(0, 7), -1, 7}, {line(0, 7), 0, 7}, {line(0, 7), 1, 7},
		{line(0, 0, 3, -1), 1, -1}, {line(0, 0, 3, -1), 2, -1}, {line(0, 0, 3, -1), 3, -1},
		{line(0, 0, 3, 1), 1, 0}, {line(0, 0, 3, 1), 2, 0}, {line(0, 0, 3, 1), 3, 1},
		{line(0, -64, 9999, 64), 5000, 0}, {line(0, -64, 9999, 64), 4999, -1}, {line(0, 64, 9999, -64), 9998, -64},
		{looped(sustained(down, 0, 0), 0, 1), 5, 32},
	} {
		if got := Value(c.e, c.tick); got != c.want {
			t.Errorf("%v at %d: %d, not %d", c.e, c.tick, got, c.want)
		}
	}
}

// silent are envelopes that are not on, or not valid for -64 to 64.
func silent() []api.Envelope {
	return []api.Envelope{
		{},
		{On: true},
		off(line(0, 64, 10, 7)),
		off(looped(line(0, 64, 10, 7), 1, 1)),
		line(0, 65, 10, 7),
		line(0, 64, 10, -65),
		line(1, 64, 10, 7),
		line(0, 64, 10, 7, 10, 7),
		line(0, 64, 10000, 7),
		sustained(line(0, 64, 10, 7), 0, 2),
		looped(line(0, 64, 10, 7), 1, 0),
		steps(17),
		{On: true, Sus: true},
	}
}

// Promise 4.1: an envelope that is not On, or not valid for -64 to 64, has Value 0, After 0 and Over false.
func TestSilent(t *testing.T) {
	for i, e := range silent() {
		for _, tick := range append(extremes(), -1, 0, 1, 9, 10, 11, 20000) {
			for _, held := range []bool{false, true} {
				if Value(e, tick) != 0 || After(e, tick, held) != 0 || Over(e, tick, held) {
					t.Errorf("envelope %d at %d, held %v: %d, %d, %v", i, tick, held, Value(e, tick), After(e, tick, held), Over(e, tick, held))
				}
			}
		}
		if got := Curve(e, 5, 3); !slices.Equal(got, make([]int, 5)) {
			t.Errorf("envelope %d: %v", i, got)
		}
	}
	for _, v := range []int{-64, 64} {
		if got := Value(line(0, v), 0); got != v {
			t.Errorf("%d is in the range -64 to 64: %d", v, got)
		}
	}
}

// Section Envelopes and promise 4.1: which circle applies, and how it goes round.
func TestAfter(t *testing.T) {
	plain := line(0, 1, 4, 2, 9, 3, 20, 4)
	sus, loop := sustained(plain, 1, 2), looped(plain, 0, 1)
	both, point := looped(sustained(plain, 1, 2), 2, 3), sustained(plain, 2, 2)
	for _, c := range []struct {
		e          api.Envelope
		held       bool
		tick, want int
	}{
		{plain, false, 0, 1}, {plain, true, 0, 1}, {plain, true, 18, 19}, {plain, true, 19, 20}, {plain, true, 20, 20}, {plain, false, 21, 20}, {plain, false, 500, 20},
		{plain, false, -1, 1}, {plain, false, math.MinInt, 1}, {plain, true, math.MaxInt, 20},
		{sus, true, 0, 1}, {sus, true, 3, 4}, {sus, true, 4, 5}, {sus, true, 8, 9}, {sus, true, 9, 4}, {sus, true, 10, 4}, {sus, true, 9999, 4},
		{sus, true, -1, 1}, {sus, true, math.MinInt, 1}, {sus, true, math.MaxInt, 4},
		{sus, false, 8, 9}, {sus, false, 9, 10}, {sus, false, 19, 20}, {sus, false, 20, 20}, {sus, false, math.MaxInt, 20},
		{loop, true, 3, 4}, {loop, true, 4, 0}, {loop, false, 4, 0}, {loop, false, 3, 4}, {loop, false, 12, 0}, {loop, true, -7, 1},
		{both, true, 9, 4}, {both, true, 20, 4}, {both, false, 9, 10}, {both, false, 20, 9}, {both, false, 21, 9}, {both, false, 19, 20},
		{point, true, 8, 9}, {point, true, 9, 9}, {point, true, 10, 9}, {point, false, 9, 10},
		{sustained(line(0, 5), 0, 0), true, 0, 0}, {sustained(line(0, 5), 0, 0), true, -3, 0}, {sustained(line(0, 5), 0, 0), true, 3, 0},
		{line(0, 5), true, 0, 0}, {line(0, 5), false, -1, 0}, {line(0, 5), false, 7, 0},
		{line(0, 0, 9999, 5), false, 9998, 9999}, {line(0, 0, 9999, 5), false, 9999, 9999},
	} {
		if got := After(c.e, c.tick, c.held); got != c.want {
			t.Errorf("%v after %d, held %v: %d, not %d", c.e, c.tick, c.held, got, c.want)
		}
	}
}

// Promise 4.1 and Details: Over takes the tick as it is.
func TestOver(t *testing.T) {
	plain := line(0, 1, 4, 2, 9, 3)
	sus, loop := sustained(plain, 1, 1), looped(plain, 2, 2)
	for _, c := range []struct {
		e    api.Envelope
		held bool
		tick int
		want bool
	}{
		{plain, false, 8, false}, {plain, false, 9, true}, {plain, true, 9, true}, {plain, true, 8, false}, {plain, false, math.MaxInt, true}, {plain, false, math.MinInt, false},
		{sus, true, 9, false}, {sus, true, 9999, false}, {sus, false, 9, true}, {sus, false, 8, false},
		{loop, true, 9, false}, {loop, false, 9, false}, {loop, false, 50, false},
		{looped(sus, 0, 2), false, 9, false}, {looped(sus, 0, 2), true, 9, false},
		{line(0, 3), false, 0, true}, {line(0, 3), true, 1, true}, {line(0, 3), false, -1, false}, {line(0, 3), true, -1, false},
	} {
		if got := Over(c.e, c.tick, c.held); got != c.want {
			t.Errorf("%v at %d, held %v: %v", c.e, c.tick, c.held, got)
		}
	}
}

// Promise 4.2: worked out by hand.
func TestCurve(t *testing.T) {
	down := line(0, 64, 4, 0)
	held := sustained(down, 0, 0)
	for i, c := range []struct {
		e          api.Envelope
		n, release int
		want       []int
	}{
		{down, 7, 0, []int{64, 48, 32, 16, 0, 0, 0}},
		{down, 7, 100, []int{64, 48, 32, 16, 0, 0, 0}},
		{held, 4, 0, []int{64, 48, 32, 16}},
		{held, 4, -5, []int{64, 48, 32, 16}},
		{held, 4, math.MinInt, []int{64, 48, 32, 16}},
		{held, 5, 1, []int{64, 64, 48, 32, 16}},
		{held, 6, 2, []int{64, 64, 64, 48, 32, 16}},
		{held, 4, 100, []int{64, 64, 64, 64}},
		{held, 4, math.MaxInt, []int{64, 64, 64, 64}},
		{sustained(line(0, 1, 2, 3, 3, 9), 0, 1), 10, 5, []int{1, 2, 3, 1, 2, 3, 9, 9, 9, 9}},
		{looped(line(0, 1, 2, 3, 3, 9), 1, 2), 7, 0, []int{1, 2, 3, 9, 3, 9, 3}},
		{looped(sustained(line(0, 1, 1, 2, 2, 3, 3, 4), 0, 1), 2, 3), 9, 4, []int{1, 2, 1, 2, 1, 2, 3, 4, 3}},
		{line(0, -7), 3, 1, []int{-7, -7, -7}},
		{down, 0, 0, nil},
		{down, 1, 0, []int{64}},
		{down, -1, 0, nil},
		{down, math.MinInt, 0, nil},
		{down, 4001, 0, nil},
		{down, math.MaxInt, 0, nil},
	} {
		if got := Curve(c.e, c.n, c.release); !slices.Equal(got, c.want) {
			t.Errorf("case %d: %v, not %v", i, got, c.want)
		}
	}
	if got := Curve(held, 4000, 3999); len(got) != 4000 || got[3999] != 64 || slices.Min(got) != 64 {
		t.Errorf("%d ticks", len(got))
	}
	if got := Curve(held, 4000, 3998); len(got) != 4000 || got[3998] != 64 || got[3999] != 48 {
		t.Errorf("%d ticks", len(got))
	}
}

// sorts are envelopes of all sorts that play: with few and many points, with every choice of circles.
func sorts(n int) []api.Envelope {
	r := rand.New(rand.NewSource(4))
	var l []api.Envelope
	for range n {
		e := api.Envelope{On: true, Sus: r.Intn(2) == 0, Loop: r.Intn(2) == 0}
		points, tick := 1+r.Intn(api.MaxPoints), 0
		for range points {
			e.Points = append(e.Points, api.Point{Tick: tick, Value: r.Intn(129) - 64})
			tick += 1 + r.Intn(1+r.Intn(9))
		}
		if e.Sus {
			e.SusStart = r.Intn(points)
			e.SusEnd = e.SusStart + r.Intn(points-e.SusStart)
		}
		if e.Loop {
			e.LoopStart = r.Intn(points)
			e.LoopEnd = e.LoopStart + r.Intn(points-e.LoopStart)
		}
		l = append(l, e)
	}
	return l
}

func last(e api.Envelope) api.Point { return e.Points[len(e.Points)-1] }

// ends returns the ticks of the circle that applies, if any does.
func ends(e api.Envelope, held bool) (from, to int, there bool) {
	if e.Sus && held {
		return e.Points[e.SusStart].Tick, e.Points[e.SusEnd].Tick, true
	}
	if e.Loop {
		return e.Points[e.LoopStart].Tick, e.Points[e.LoopEnd].Tick, true
	}
	return 0, 0, false
}

// P4.1: a value lies between those of the points beside it; and it is the greatest one that does not lie above the line.
func TestBetween(t *testing.T) {
	for _, e := range sorts(300) {
		for i, p := range e.Points[1:] {
			from := e.Points[i]
			width := p.Tick - from.Tick
			for tick := from.Tick; tick <= p.Tick; tick++ {
				v, rise := Value(e, tick), (p.Value-from.Value)*(tick-from.Tick)
				if v < min(from.Value, p.Value) || v > max(from.Value, p.Value) {
					t.Fatalf("%v at %d: %d", e, tick, v)
				}
				if tick < p.Tick && ((v-from.Value)*width > rise || (v+1-from.Value)*width <= rise) {
					t.Fatalf("%v at %d: %d", e, tick, v)
				}
			}
			if Value(e, p.Tick) != p.Value {
				t.Fatalf("%v at its point %d", e, i+1)
			}
		}
		if Value(e, -9) != e.Points[0].Value || Value(e, last(e).Tick+9) != last(e).Value {
			t.Fatalf("%v before its first point and after its last one", e)
		}
	}
}

// P4.2: from any tick at or before its end a circle is never left; and without a circle the last point's tick is never passed.
func TestCircle(t *testing.T) {
	for _, e := range sorts(300) {
		for _, held := range []bool{false, true} {
			from, to, there := ends(e, held)
			if !there {
				to = last(e).Tick
			}
			for start := -3; start <= to; start++ {
				tick := After(e, start, held)
				for range 40 {
					if tick > to || tick < 0 {
						t.Fatalf("%v, held %v, from %d: %d", e, held, start, tick)
					}
					before := tick
					tick = After(e, tick, held)
					if before == to && there && tick != from {
						t.Fatalf("%v, held %v: %d after %d", e, held, tick, before)
					}
				}
			}
			if Over(e, last(e).Tick, held) == there || Over(e, last(e).Tick-1, held) {
				t.Fatalf("%v, held %v: Over", e, held)
			}
		}
	}
}

// P4.3: the ticks before the release do not depend on it; and each is what After and Value say.
func TestHeld(t *testing.T) {
	const n = 60
	for _, e := range sorts(200) {
		never := Curve(e, n, n)
		for release := -2; release <= n+2; release++ {
			got := Curve(e, n, release)
			if len(got) != n {
				t.Fatalf("%v: %d ticks", e, len(got))
			}
			upto := min(max(release, 0), n)
			if !slices.Equal(got[:upto], never[:upto]) {
				t.Fatalf("%v, released at %d: %v and %v", e, release, got, never)
			}
			tick := 0
			for i, v := range got {
				if v != Value(e, tick) {
					t.Fatalf("%v, released at %d, at %d: %d", e, release, i, v)
				}
				tick = After(e, tick, i < release)
			}
			if short := Curve(e, 7, release); !slices.Equal(short, got[:7]) {
				t.Fatalf("%v, released at %d: %v of %v", e, release, short, got)
			}
		}
	}
}
