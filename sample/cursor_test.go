package sample

import (
	"reflect"
	"testing"

	"orchestrion/api"
)

const f = 65536 // a frame, in the units of steps

// at returns a cursor that goes forward.
func at(pos, frac int) api.Cursor { return api.Cursor{Pos: pos, Frac: frac} }

// backAt returns a cursor that goes back.
func backAt(pos, frac int) api.Cursor { return api.Cursor{Pos: pos, Frac: frac, Back: true} }

func done() api.Cursor { return api.Cursor{Done: true} }

// loops returns samples of five frames with all loops that they can have, first ones and second ones, and without any.
func loops() []api.Sample {
	s := plain(1, 2, 3, 4, 5)
	l := []api.Sample{s}
	for kind := api.LoopForward; kind <= api.LoopPingPong; kind++ {
		for start := range 5 {
			for end := start + 1; end <= 5; end++ {
				l = append(l, looped(kind, start, end, s.Data...))
			}
		}
	}
	return append(l,
		sustained(looped(api.LoopForward, 1, 3, s.Data...), api.LoopPingPong, 2, 5),
		sustained(looped(api.LoopPingPong, 0, 2, s.Data...), api.LoopForward, 1, 4),
		sustained(s, api.LoopForward, 2, 3),
	)
}

// Promise 2.1: where cursors begin.
func TestBegin(t *testing.T) {
	s := plain(1, 2, 3, 4)
	for i, c := range []struct {
		s      api.Sample
		offset int
		back   bool
		want   api.Cursor
	}{
		{s, 0, false, at(0, 0)},
		{s, 3, false, at(3, 0)},
		{s, 4, false, done()},
		{s, -1, false, done()},
		{s, 0, true, backAt(3, 0)},
		{s, 1, true, backAt(2, 0)},
		{s, 3, true, backAt(0, 0)},
		{s, 4, true, done()},
		{s, -1, true, done()},
		{looped(1, 0, 2, 1, 2, 3, 4), 3, false, at(3, 0)},
		{looped(2, 0, 2, 1, 2, 3, 4), 0, true, backAt(3, 0)},
		{plain(), 0, false, done()},
		{plain(), 0, true, done()},
		{plain(), -1, true, done()},
		{plain(1, 200), 0, false, done()},
		{api.Sample{Data: []int{1}}, 0, true, done()},
	} {
		if got := Begin(c.s, c.offset, c.back); got != c.want {
			t.Errorf("case %d: %v, want %v", i, got, c.want)
		}
	}
	for _, n := range extremes() {
		if Begin(s, n, false) != done() || Begin(s, n, true) != done() {
			t.Errorf("offset %d", n)
		}
	}
}

type moveCase struct {
	s    api.Sample
	c    api.Cursor
	step int
	want api.Cursor
}

func checkMoves(t *testing.T, l []moveCase) {
	t.Helper()
	for i, c := range l {
		if got, e := Move(c.s, c.c, c.step, false); got != c.want || e != api.OK {
			t.Errorf("case %d: %v, %d, want %v", i, got, e, c.want)
		}
	}
}

// Section Cursors: moves without a loop, worked out by hand.
func TestMovePlain(t *testing.T) {
	none := plain(1, 2, 3, 4)
	checkMoves(t, []moveCase{
		{none, at(0, 0), 0, at(0, 0)},
		{none, at(0, 40000), 30000, at(1, 4464)},
		{none, at(0, 0), 4*f - 1, at(3, 65535)},
		{none, at(0, 0), 4 * f, done()},
		{none, at(3, 65535), 1, done()},
		{none, at(2, 5), 1 << 28, done()},
		{none, backAt(3, 0), f, backAt(2, 0)},
		{none, backAt(3, 7), 3*f + 7, backAt(0, 0)},
		{none, backAt(3, 7), 3*f + 8, done()},
		{none, backAt(0, 0), 1, done()},
		{none, done(), 5, done()},
		{plain(), done(), 5, done()},
	})
}

// Section Cursors: moves in a forward loop, worked out by hand.
func TestMoveForward(t *testing.T) {
	forward := looped(api.LoopForward, 1, 3, 1, 2, 3, 4)
	checkMoves(t, []moveCase{
		{forward, at(0, 0), 2 * f, at(2, 0)},
		{forward, at(0, 0), 3*f - 1, at(2, 65535)},
		{forward, at(0, 0), 3 * f, at(1, 0)},
		{forward, at(0, 9), 5*f + f/2, at(1, f/2+9)},
		{forward, at(3, 0), 0, at(1, 0)},
		{forward, at(3, 100), 0, at(1, 100)},
		{forward, at(3, 100), f, at(2, 100)},
		{forward, backAt(2, 0), f, backAt(1, 0)},
		{forward, backAt(1, 0), 1, backAt(2, 65535)},
		{forward, backAt(1, 5), f + 6, backAt(1, 65535)},
		{forward, backAt(1, 0), 2 * f, backAt(1, 0)},
		{forward, backAt(1, 0), 9 * f, backAt(2, 0)},
		{forward, backAt(3, 50), 0, backAt(3, 50)},
		{forward, backAt(3, 50), 60, backAt(2, 65526)},
		{forward, backAt(3, 0), 2*f + 1, backAt(2, 65535)},
		{forward, backAt(0, 7), 7, backAt(0, 0)},
		{forward, backAt(0, 7), 8, done()},
		{looped(1, 0, 2, 1, 2, 3), backAt(0, 7), 8, backAt(1, 65535)},
		{forward, done(), 0, done()},
	})
}

// Section Cursors: moves in a ping-pong loop, worked out by hand.
func TestMovePingPong(t *testing.T) {
	pingPong := looped(api.LoopPingPong, 1, 3, 1, 2, 3, 4)
	checkMoves(t, []moveCase{
		{pingPong, at(0, 0), 3*f - 1, at(2, 65535)},
		{pingPong, at(0, 0), 3 * f, backAt(2, 65535)},
		{pingPong, at(0, 0), 5*f - 1, backAt(1, 0)},
		{pingPong, at(0, 0), 5 * f, at(1, 0)},
		{pingPong, at(0, 0), 5*f + 10, at(1, 10)},
		{pingPong, at(3, 0), 0, backAt(2, 65535)},
		{pingPong, at(3, 9), 0, backAt(2, 65526)},
		{pingPong, at(3, 9), f, backAt(1, 65526)},
		{pingPong, backAt(2, 0), 0, backAt(2, 0)},
		{pingPong, backAt(2, 0), f, backAt(1, 0)},
		{pingPong, backAt(2, 0), f + 1, at(1, 0)},
		{pingPong, backAt(2, 0), 3*f + 1, backAt(2, 65535)},
		{pingPong, backAt(3, 9), 0, backAt(2, 65535)},
		{pingPong, backAt(3, 9), f, backAt(1, 65535)},
		{pingPong, backAt(0, 9), 9, backAt(0, 0)},
		{pingPong, backAt(0, 9), 10, done()},
		{looped(2, 0, 1, 1, 2), backAt(0, 0), 1, at(0, 0)},
		{pingPong, done(), 1 << 28, done()},
	})
}

// Section Cursors: the longest step through the longest sample.
func TestLongest(t *testing.T) {
	s := plain(make([]int, api.MaxFrames)...)
	for i, c := range []struct {
		c    api.Cursor
		step int
		want api.Cursor
	}{
		{at(0, 0), 1<<28 - 1, at(4095, 65535)},
		{at(0, 0), 1 << 28, done()},
		{backAt(4095, 65535), 1<<28 - 1, backAt(0, 0)},
		{backAt(4095, 65535), 1 << 28, done()},
	} {
		if got, e := Move(s, c.c, c.step, true); got != c.want || e != api.OK {
			t.Errorf("case %d: %v, %d, want %v", i, got, e, c.want)
		}
	}
	s.Sus, s.SusStart, s.SusEnd = api.LoopForward, 1, 4096
	if got, _ := Move(s, at(0, 0), 1<<28, true); got != at(1, 0) {
		t.Errorf("loop: %v", got)
	}
	s.Sus = api.LoopPingPong
	if got, _ := Move(s, at(4095, 65535), 1<<28, true); got != at(1, 65535) {
		t.Errorf("ping-pong loop: %v", got)
	}
}

// Promise 2.1: a loop counts while the key is as it asks.
func TestHeld(t *testing.T) {
	s := sustained(looped(api.LoopForward, 0, 4, 1, 2, 3, 4), api.LoopPingPong, 1, 3)
	if got, _ := Move(s, at(2, 0), f, false); got != at(3, 0) {
		t.Errorf("not held: %v", got)
	}
	if got, _ := Move(s, at(2, 0), f, true); got != backAt(2, 65535) {
		t.Errorf("held: %v", got)
	}
	s.Loop, s.Start, s.End = 0, 0, 0
	if got, _ := Move(s, at(2, 0), 2*f, false); got != done() {
		t.Errorf("not held, without a first loop: %v", got)
	}
}

// Errors, in their order.
func TestMoveErrors(t *testing.T) {
	good, bad := plain(1, 2), plain(1, 200)
	for i, c := range []struct {
		s    api.Sample
		c    api.Cursor
		step int
		want api.Errno
	}{
		{good, at(1, 65535), 1 << 28, api.OK},
		{good, at(1, 0), 1<<28 + 1, api.ErrRange},
		{good, at(1, 0), -1, api.ErrRange},
		{good, done(), -1, api.ErrRange},
		{good, at(2, 0), 0, api.ErrInvalid},
		{good, at(-1, 0), 0, api.ErrInvalid},
		{good, at(0, 65536), 0, api.ErrInvalid},
		{good, at(0, -1), 0, api.ErrInvalid},
		{good, api.Cursor{Pos: 1, Done: true}, 0, api.ErrInvalid},
		{good, api.Cursor{Frac: 1, Done: true}, 0, api.ErrInvalid},
		{good, api.Cursor{Back: true, Done: true}, 0, api.ErrInvalid},
		{good, at(2, 0), -1, api.ErrInvalid},
		{bad, at(0, 0), 0, api.ErrInvalid},
		{bad, at(0, 0), -1, api.ErrInvalid},
		{bad, done(), 0, api.ErrInvalid},
		{plain(), at(0, 0), 0, api.ErrInvalid},
	} {
		got, e := Move(c.s, c.c, c.step, false)
		if e != c.want || e != api.OK && got != (api.Cursor{}) {
			t.Errorf("case %d: %v, %d, want %d", i, got, e, c.want)
		}
	}
	for _, n := range extremes() {
		if got, e := Move(good, at(1, 0), n, true); got != (api.Cursor{}) || e != api.ErrRange {
			t.Errorf("step %d: %v, %d", n, got, e)
		}
		if _, e := Move(good, at(n, 0), 0, true); e != api.ErrInvalid {
			t.Errorf("Pos %d: %d", n, e)
		}
		if _, e := Move(good, at(0, n), 0, true); e != api.ErrInvalid {
			t.Errorf("Frac %d: %d", n, e)
		}
	}
}

// walker goes through a sample by one unit at a time, to tell where moves lead without their formulas.
type walker struct {
	kind, start, end, all int
	x                     int
	back, done            bool
}

// walkerAt returns a walker where a cursor stands, and by how many units it has to go before it counts: a cursor that goes forward beyond the loop's end stands where one stands that came in at its start.
func walkerAt(s api.Sample, c api.Cursor, held bool) (w walker, ahead int) {
	w = walker{kind: s.Loop, start: s.Start << 16, end: s.End << 16, all: len(s.Data) << 16, x: c.Pos<<16 | c.Frac, back: c.Back}
	if held && s.Sus != 0 {
		w.kind, w.start, w.end = s.Sus, s.SusStart<<16, s.SusEnd<<16
	}
	if w.kind == 0 || w.x < w.end {
		return w, 0
	}
	if !w.back {
		ahead, w.x = w.x-w.start, w.start
	} else if w.kind == api.LoopPingPong {
		w.x = w.end - 1
	}
	return w, ahead
}

func (w *walker) step() {
	switch {
	case w.back && w.kind != 0 && w.x == w.start:
		if w.kind == api.LoopForward {
			w.x = w.end - 1
		} else {
			w.back = false
		}
	case w.back:
		w.x--
	case w.kind != 0 && w.x == w.end-1:
		if w.kind == api.LoopForward {
			w.x = w.start
		} else {
			w.back = true
		}
	default:
		w.x++
	}
	w.done = w.done || w.x < 0 || w.x == w.all
}

func (w *walker) cursor() api.Cursor {
	if w.done {
		return done()
	}
	return api.Cursor{Pos: w.x >> 16, Frac: w.x & 65535, Back: w.back}
}

// Section Cursors, and P2.2: each move leads where as many single units lead, to a cursor that is valid.
func TestWalked(t *testing.T) {
	steps := []int{0, 1, 40000, 65535, 65536, 65537, 131072, 196608, 262143, 300001, 327680, 655361}
	for i, s := range loops() {
		for pos := range 5 {
			for _, frac := range []int{0, 1, 65535} {
				for _, c := range []api.Cursor{at(pos, frac), backAt(pos, frac)} {
					w, ahead := walkerAt(s, c, true)
					gone := -ahead
					for _, step := range steps {
						for ; gone < step && !w.done; gone++ {
							w.step()
						}
						got, e := Move(s, c, step, true)
						if want := w.cursor(); got != want || e != api.OK {
							t.Fatalf("sample %d, cursor %v, step %d: %v, %d, want %v", i, c, step, got, e, want)
						}
						if !got.Done && (got.Pos < 0 || got.Pos >= 5 || got.Frac < 0 || got.Frac > 65535) {
							t.Fatalf("sample %d, cursor %v, step %d: %v is not valid", i, c, step, got)
						}
					}
				}
			}
		}
	}
}

// moved moves a cursor that is valid.
func moved(t *testing.T, s api.Sample, c api.Cursor, step int, held bool) api.Cursor {
	t.Helper()
	got, e := Move(s, c, step, held)
	if e != api.OK {
		t.Fatalf("cursor %v, step %d: %d", c, step, e)
	}
	return got
}

// P2.1: two moves are one by their sum.
func TestSplit(t *testing.T) {
	steps := []int{0, 1, 65535, 65536, 100000, 131072, 200001, 327679, 327680, 1 << 20, 1<<27 - 1, 1 << 27}
	for i, s := range loops() {
		for _, held := range []bool{false, true} {
			for offset := range 6 {
				c := Begin(s, offset, false)
				for _, a := range steps {
					for _, b := range steps {
						twice := moved(t, s, moved(t, s, c, a, held), b, held)
						if once := moved(t, s, c, a+b, held); twice != once {
							t.Fatalf("sample %d, offset %d, steps %d and %d: %v, at once %v", i, offset, a, b, twice, once)
						}
					}
				}
			}
		}
	}
}

// P2.3: once around a loop is where the cursor was.
func TestPeriod(t *testing.T) {
	for i, s := range loops() {
		for _, held := range []bool{false, true} {
			kind, start, end := Applies(s, held)
			if kind == api.LoopNone {
				continue
			}
			around := (end - start) << 16
			if kind == api.LoopPingPong {
				around *= 2
			}
			for pos := start; pos < end; pos++ {
				for _, frac := range []int{0, 1, 32768, 65535} {
					for _, c := range []api.Cursor{at(pos, frac), backAt(pos, frac)} {
						if got := moved(t, s, c, around, held); got != c {
							t.Fatalf("sample %d: %v becomes %v", i, c, got)
						}
					}
				}
			}
		}
	}
}

// Promise 2.2: taps worked out by hand.
func TestTap(t *testing.T) {
	none := wide(plain(10, 20, 30, 40))
	forward, pingPong := wide(looped(1, 1, 3, 10, 20, 30, 40)), wide(looped(2, 1, 3, 10, 20, 30, 40))
	for i, c := range []struct {
		s    api.Sample
		c    api.Cursor
		k    int
		want int
	}{
		{none, at(1, 0), 0, 20},
		{none, at(1, 65535), 0, 20},
		{none, at(1, 65535), 1, 30},
		{none, at(1, 65535), 2, 40},
		{none, at(1, 0), 3, 0},
		{none, at(1, 65535), -1, 10},
		{none, at(1, 0), -2, 0},
		{none, at(3, 0), -3, 10},
		{none, backAt(1, 65535), 0, 20},
		{none, backAt(1, 65535), 1, 10},
		{none, backAt(1, 0), 2, 0},
		{none, backAt(1, 65535), -1, 30},
		{none, backAt(1, 0), -2, 40},
		{none, backAt(1, 0), -3, 0},
		{none, done(), 0, 0},
		{none, done(), 1, 0},
		{none, done(), -1, 0},

		{forward, at(2, 9), 1, 20},
		{forward, at(2, 9), 8, 30},
		{forward, at(1, 0), -1, 10},
		{forward, at(3, 9), 0, 40},
		{forward, at(3, 9), 1, 30},
		{forward, at(3, 9), -8, 0},
		{forward, backAt(1, 9), 1, 30},
		{forward, backAt(1, 9), 2, 20},
		{forward, backAt(2, 9), -1, 40},

		{pingPong, at(2, 9), 1, 30},
		{pingPong, at(2, 9), 2, 20},
		{pingPong, at(2, 9), 3, 20},
		{pingPong, at(2, 9), 4, 30},
		{pingPong, backAt(1, 65535), 1, 20},
		{pingPong, backAt(1, 65535), 2, 30},
		{pingPong, backAt(2, 65535), 1, 20},
		{pingPong, backAt(2, 65535), -1, 40},
	} {
		if got := Tap(c.s, c.c, c.k, false); got != c.want {
			t.Errorf("case %d: %d, want %d", i, got, c.want)
		}
	}
}

// Promise 2.2: frames of 8 bits count 256 times, those of 16 bits once.
func TestTapBits(t *testing.T) {
	s := plain(-128, 127, 5)
	for k, want := range []int{-32768, 32512, 1280} {
		if got := Tap(s, at(0, 0), k, false); got != want {
			t.Errorf("8 bits, %d: %d, want %d", k, got, want)
		}
	}
	s = wide(plain(-32768, 32767, 5))
	for k, want := range []int{5, 32767, -32768} {
		if got := Tap(s, at(2, 0), -k, false); got != want {
			t.Errorf("16 bits, %d: %d, want %d", k, got, want)
		}
	}
}

// Promise 2.2: what is not valid has the tap 0; k from -8 to 8 is, also with held.
func TestTapRange(t *testing.T) {
	s := plain(1, 2, 3, 4, 5, 6, 7, 8, 9, 10, 11)
	if Tap(s, at(10, 0), -8, false) != 3*256 || Tap(s, at(2, 0), 8, false) != 11*256 {
		t.Error("k of 8")
	}
	if Tap(s, at(10, 0), -9, false) != 0 || Tap(s, at(1, 0), 9, false) != 0 {
		t.Error("k of 9")
	}
	for _, n := range extremes() {
		if Tap(s, at(5, 0), n, true) != 0 || Tap(s, at(n, 0), 0, true) != 0 || Tap(s, at(5, n), 0, true) != 0 {
			t.Errorf("number %d", n)
		}
	}
	for i, c := range []api.Cursor{at(11, 0), at(-1, 0), at(1, 65536), at(1, -1), {Pos: 1, Done: true}, {Done: true, Back: true}} {
		for k := -8; k <= 8; k++ {
			if Tap(s, c, k, false) != 0 {
				t.Errorf("cursor %d, k %d", i, k)
			}
		}
	}
	s.Volume = 65
	if Tap(s, at(1, 0), 0, false) != 0 {
		t.Error("a sample that is not valid")
	}
	held := sustained(plain(1, 2, 3), api.LoopForward, 0, 2)
	if Tap(held, at(1, 0), 1, true) != 256 || Tap(held, at(1, 0), 1, false) != 3*256 {
		t.Error("held")
	}
}

// Promise 2.2: taps are what moves of a cursor with Frac 0 lead to, or stand behind it in the data.
func TestTaps(t *testing.T) {
	for i, s := range loops() {
		for pos := range 5 {
			for _, c := range []api.Cursor{at(pos, 0), at(pos, 7), backAt(pos, 0), backAt(pos, 65535)} {
				for k := -8; k <= 8; k++ {
					n, plain := pos+k, c
					if c.Back {
						n = pos - k
					}
					plain.Frac = 0
					if k > 0 {
						n = -1
						if to := moved(t, s, plain, k<<16, true); !to.Done {
							n = to.Pos
						}
					}
					want := 0
					if n >= 0 && n < 5 {
						want = 256 * s.Data[n]
					}
					if got := Tap(s, c, k, true); got != want {
						t.Fatalf("sample %d, cursor %v, k %d: %d, want %d", i, c, k, got, want)
					}
				}
			}
		}
	}
}

// Promise 2.3, with the chapter's examples.
func TestUnroll(t *testing.T) {
	for i, c := range []struct {
		s    api.Sample
		held bool
		want []int
	}{
		{looped(1, 1, 4, 1, 2, 3, 4), false, []int{256, 512, 768, 1024, 512, 768, 1024, 512}},
		{wide(looped(1, 1, 4, 1, 2, 3, 4)), false, []int{1, 2, 3, 4, 2, 3, 4, 2}},
		{wide(looped(2, 1, 4, 1, 2, 3, 4)), false, []int{1, 2, 3, 4, 4, 3, 2, 2}},
		{wide(looped(2, 0, 1, 7, 8)), true, []int{7, 7, 7}},
		{wide(looped(1, 0, 2, 7, 8, 9)), true, []int{7, 8, 7, 8, 7}},
		{wide(plain(1, 2, 3)), false, []int{1, 2, 3, 0, 0}},
		{wide(plain(1, 2, 3)), false, []int{1, 2}},
		{wide(plain(1, 2, 3)), false, []int{}},
		{plain(), true, []int{0, 0, 0}},
		{wide(sustained(plain(1, 2, 3), 2, 0, 2)), true, []int{1, 2, 2, 1, 1, 2}},
		{wide(sustained(plain(1, 2, 3), 2, 0, 2)), false, []int{1, 2, 3, 0, 0, 0}},
	} {
		got, e := Unroll(c.s, len(c.want), c.held)
		if e != api.OK || len(got) != len(c.want) || len(got) > 0 && !reflect.DeepEqual(got, c.want) {
			t.Errorf("case %d: %v, %d, want %v", i, got, e, c.want)
		}
	}
}

// Promise 2.3: the longest list, and errors in their order.
func TestUnrollRange(t *testing.T) {
	s := wide(looped(1, 0, 3, 1, 2, 3))
	got, e := Unroll(s, api.MaxOut, false)
	if e != api.OK || len(got) != api.MaxOut {
		t.Fatalf("%d values, %d", len(got), e)
	}
	for i, x := range got {
		if x != 1+i%3 {
			t.Fatalf("value %d: %d", i, x)
		}
	}
	for _, n := range append(extremes(), -1, api.MaxOut+1) {
		if got, e := Unroll(s, n, true); len(got) != 0 || e != api.ErrRange {
			t.Errorf("n %d: %d values, %d", n, len(got), e)
		}
	}
	s.Rate = 0
	for _, n := range []int{4, -1} {
		if got, e := Unroll(s, n, true); len(got) != 0 || e != api.ErrInvalid {
			t.Errorf("not valid, n %d: %v, %d", n, got, e)
		}
	}
}

// Promise 2.3: values are those that Tap tells of a cursor that is moved frame by frame.
func TestUnrolled(t *testing.T) {
	for i, s := range loops() {
		for _, held := range []bool{false, true} {
			got, _ := Unroll(s, 25, held)
			c := Begin(s, 0, false)
			for k, x := range got {
				if want := Tap(s, c, 0, held); x != want {
					t.Fatalf("sample %d, value %d: %d, want %d", i, k, x, want)
				}
				c = moved(t, s, c, 1<<16, held)
			}
		}
	}
}
