package sample

import (
	"math"
	"reflect"
	"strings"
	"testing"

	"orchestrion/api"
)

// plain returns a sample of 8 bits without loops.
func plain(data ...int) api.Sample {
	return api.Sample{Name: "plain", Data: data, Bits: 8, Rate: 8363, Volume: 64, Pan: -1}
}

// looped returns a sample of 8 bits with a first loop.
func looped(kind, start, end int, data ...int) api.Sample {
	s := plain(data...)
	s.Loop, s.Start, s.End = kind, start, end
	return s
}

// sustained returns the sample with a second loop.
func sustained(s api.Sample, kind, start, end int) api.Sample {
	s.Sus, s.SusStart, s.SusEnd = kind, start, end
	return s
}

// wide returns the sample as one of 16 bits.
func wide(s api.Sample) api.Sample {
	s.Bits = 16
	return s
}

// extremes are numbers that no argument may be.
func extremes() []int {
	return []int{math.MinInt, math.MinInt + 1, -1 << 40, 1 << 40, math.MaxInt - 1, math.MaxInt}
}

type change func(s *api.Sample)

// Section Samples: every bound of every field, from both sides.
func TestValid(t *testing.T) {
	long := make([]int, api.MaxFrames+1)
	for i, c := range []struct {
		want bool
		do   change
	}{
		{true, func(s *api.Sample) {}},
		{true, func(s *api.Sample) { s.Name = "" }},
		{true, func(s *api.Sample) { s.Name = strings.Repeat("a", 22) }},
		{false, func(s *api.Sample) { s.Name = strings.Repeat("a", 23) }},
		{true, func(s *api.Sample) { s.Name = " ~" }},
		{false, func(s *api.Sample) { s.Name = "a\x1f" }},
		{false, func(s *api.Sample) { s.Name = "\x7fa" }},
		{false, func(s *api.Sample) { s.Name = "\x00" }},
		{false, func(s *api.Sample) { s.Name = "\xff" }},
		{false, func(s *api.Sample) { s.Name = "é" }},
		{true, func(s *api.Sample) { s.Bits = 16 }},
		{false, func(s *api.Sample) { s.Bits = 0 }},
		{false, func(s *api.Sample) { s.Bits = 7 }},
		{false, func(s *api.Sample) { s.Bits = 12 }},
		{false, func(s *api.Sample) { s.Bits = 24 }},
		{false, func(s *api.Sample) { s.Bits = -8 }},
		{true, func(s *api.Sample) { s.Data = nil }},
		{true, func(s *api.Sample) { s.Data = []int{} }},
		{true, func(s *api.Sample) { s.Data = long[:api.MaxFrames] }},
		{false, func(s *api.Sample) { s.Data = long }},
		{true, func(s *api.Sample) { s.Data = []int{-128, 127} }},
		{false, func(s *api.Sample) { s.Data = []int{-129, 0} }},
		{false, func(s *api.Sample) { s.Data = []int{0, 128} }},
		{true, func(s *api.Sample) { s.Bits, s.Data = 16, []int{-32768, 32767} }},
		{false, func(s *api.Sample) { s.Bits, s.Data = 16, []int{-32769} }},
		{false, func(s *api.Sample) { s.Bits, s.Data = 16, []int{32768} }},
		{true, func(s *api.Sample) { s.Rate = 1 }},
		{true, func(s *api.Sample) { s.Rate = 65535 }},
		{false, func(s *api.Sample) { s.Rate = 0 }},
		{false, func(s *api.Sample) { s.Rate = 65536 }},
		{true, func(s *api.Sample) { s.Volume = 0 }},
		{true, func(s *api.Sample) { s.Volume = 64 }},
		{false, func(s *api.Sample) { s.Volume = -1 }},
		{false, func(s *api.Sample) { s.Volume = 65 }},
		{true, func(s *api.Sample) { s.Pan = -1 }},
		{true, func(s *api.Sample) { s.Pan = 256 }},
		{false, func(s *api.Sample) { s.Pan = -2 }},
		{false, func(s *api.Sample) { s.Pan = 257 }},
		{true, func(s *api.Sample) { s.Fine = -64 }},
		{true, func(s *api.Sample) { s.Fine = 63 }},
		{false, func(s *api.Sample) { s.Fine = -65 }},
		{false, func(s *api.Sample) { s.Fine = 64 }},
	} {
		s := plain(1, 2)
		c.do(&s)
		if Valid(s) != c.want {
			t.Errorf("case %d: %v", i, !c.want)
		}
	}
	if Valid(api.Sample{}) {
		t.Error("the zero sample has no bits and no rate")
	}
}

// Section Samples: both loops, each by itself.
func TestValidLoops(t *testing.T) {
	for _, c := range []struct {
		kind, start, end int
		want             bool
	}{
		{0, 0, 0, true}, {0, 0, 1, false}, {0, 1, 0, false}, {0, 1, 3, false}, {0, -1, -1, false},
		{1, 0, 4, true}, {1, 3, 4, true}, {1, 0, 1, true}, {1, 0, 5, false}, {1, -1, 3, false},
		{1, 2, 2, false}, {1, 3, 2, false}, {1, 0, 0, false}, {1, 4, 5, false}, {1, math.MinInt, math.MaxInt, false},
		{2, 0, 4, true}, {2, 1, 2, true}, {2, 1, 5, false}, {2, -1, 2, false}, {2, 2, 2, false}, {2, 0, 0, false},
		{3, 0, 0, false}, {3, 1, 2, false}, {-1, 0, 0, false}, {-1, 1, 2, false},
	} {
		if got := Valid(looped(c.kind, c.start, c.end, 1, 2, 3, 4)); got != c.want {
			t.Errorf("first loop %v: %v", c, got)
		}
		if got := Valid(sustained(plain(1, 2, 3, 4), c.kind, c.start, c.end)); got != c.want {
			t.Errorf("second loop %v: %v", c, got)
		}
	}
	if Valid(looped(1, 0, 1)) {
		t.Error("a sample without frames has no loop")
	}
}

// Promise 2.1: which loop applies.
func TestApplies(t *testing.T) {
	none, one, two := plain(1, 2, 3, 4), looped(1, 1, 3, 1, 2, 3, 4), looped(2, 0, 2, 1, 2, 3, 4)
	wrong := sustained(one, 2, 1, 9)
	for i, c := range []struct {
		s    api.Sample
		held bool
		want [3]int
	}{
		{none, false, [3]int{}},
		{none, true, [3]int{}},
		{one, false, [3]int{1, 1, 3}},
		{one, true, [3]int{1, 1, 3}},
		{two, true, [3]int{2, 0, 2}},
		{sustained(one, 2, 2, 4), false, [3]int{1, 1, 3}},
		{sustained(one, 2, 2, 4), true, [3]int{2, 2, 4}},
		{sustained(none, 1, 2, 4), false, [3]int{}},
		{sustained(none, 1, 2, 4), true, [3]int{1, 2, 4}},
		{wrong, false, [3]int{}},
		{wrong, true, [3]int{}},
		{api.Sample{}, true, [3]int{}},
	} {
		kind, start, end := Applies(c.s, c.held)
		if got := [3]int{kind, start, end}; got != c.want {
			t.Errorf("case %d: %v, want %v", i, got, c.want)
		}
	}
}

// all calls every function with a sample and one number for all others, and returns what they return.
func all(s api.Sample, c api.Cursor, n int) []any {
	var l []any
	add := func(results ...any) { l = append(l, results...) }
	two := func(result any, e api.Errno) { add(result, e) }
	add(Valid(s))
	for _, held := range []bool{false, true} {
		kind, start, end := Applies(s, held)
		add(kind, start, end, Begin(s, n, held), Tap(s, c, n, held))
		moved, e := Move(s, c, n, held)
		two(moved, e)
		values, e := Unroll(s, n, held)
		two(values, e)
	}
	changed, e := Reverse(s)
	two(changed, e)
	changed, e = Crop(s, 0, n)
	two(changed, e)
	changed, e = Crop(s, n, n)
	two(changed, e)
	changed, e = Amplify(s, n, n)
	two(changed, e)
	changed, e = Convert(s, n)
	two(changed, e)
	return l
}

// broken returns samples that are not valid.
func broken() []api.Sample {
	l := []api.Sample{{}, looped(1, 0, 9, 1), looped(2, math.MinInt, math.MaxInt, 1), sustained(plain(1), 7, 0, 1), plain(128), plain(1, math.MinInt)}
	for _, n := range extremes() {
		s := plain(1, 2)
		s.Bits = n
		l = append(l, s, plain(n), looped(n, 0, 1, 1), looped(1, n, 1, 1), looped(1, 0, n, 1), sustained(plain(1), 2, n, n))
	}
	return l
}

// R1, R3, R5: nothing panics, and samples that are not valid give zero values and ErrInvalid.
func TestBroken(t *testing.T) {
	for i, s := range broken() {
		for _, n := range append(extremes(), -1, 0, 1, 8) {
			for j, got := range all(s, api.Cursor{Pos: n, Frac: n}, n) {
				values, isList := got.([]int)
				sample, isSample := got.(api.Sample)
				switch {
				case got == any(api.ErrInvalid), got == any(api.Cursor{Done: true}), isList && len(values) == 0:
				case isSample && reflect.DeepEqual(sample, api.Sample{}), !isList && !isSample && reflect.ValueOf(got).IsZero() && got != any(api.OK):
				default:
					t.Fatalf("sample %d, number %d, result %d: %v", i, n, j, got)
				}
			}
		}
	}
}

// R4: arguments stay as they are, with what stands behind them, and results share no memory.
func TestMemory(t *testing.T) {
	whole := []int{1, 2, 3, 4, 99, 98}
	s := sustained(looped(1, 1, 3, whole[:4]...), 2, 0, 4)
	s.Data = whole[:4]
	var results [][]int
	for range 2 {
		for _, n := range []int{0, 1, 2, 4, 8, 16} {
			for _, r := range all(s, api.Cursor{Pos: 1}, n) {
				switch x := r.(type) {
				case api.Sample:
					results = append(results, x.Data)
				case []int:
					results = append(results, x)
				}
			}
		}
	}
	same, _ := Convert(s, 8)
	results = append(results, same.Data)
	for i, r := range results {
		r = r[:cap(r)]
		for j := range r {
			r[j] = 1000 + i
		}
	}
	for i, r := range results {
		for _, x := range r {
			if x != 1000+i {
				t.Fatalf("result %d shares memory with another one", i)
			}
		}
	}
	if !reflect.DeepEqual(whole, []int{1, 2, 3, 4, 99, 98}) {
		t.Errorf("the argument has changed: %v", whole)
	}
}

// R7: the same calls give the same results, whatever was asked between them.
func TestRepeats(t *testing.T) {
	s := sustained(looped(2, 1, 3, 1, 2, 3, 4), 1, 0, 4)
	first := all(s, api.Cursor{Pos: 2}, 2)
	all(wide(s), api.Cursor{Pos: 3, Back: true}, 5)
	if again := all(s, api.Cursor{Pos: 2}, 2); !reflect.DeepEqual(first, again) {
		t.Errorf("first %v, then %v", first, again)
	}
}

// R4: a nil list of frames is as good as an empty one.
func TestNil(t *testing.T) {
	empty, none := plain(), plain()
	empty.Data, none.Data = []int{}, nil
	for _, n := range []int{-1, 0, 1, 8, 16} {
		a, b := all(empty, api.Cursor{Done: true}, n), all(none, api.Cursor{Done: true}, n)
		if !reflect.DeepEqual(a, b) {
			t.Errorf("number %d: %v and %v", n, a, b)
		}
	}
}
