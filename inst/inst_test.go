package inst

import (
	"math"
	"reflect"
	"slices"
	"strings"
	"testing"

	"orchestrion/api"
)

// plain returns an instrument without keys and without envelopes.
func plain() api.Inst { return api.Inst{Name: "plain", Global: 64, Cutoff: -1, Resonance: -1} }

// keyed returns an instrument whose keys play notes from top to bottom, and samples from 0 to 6.
func keyed() api.Inst {
	i := plain()
	for note := range api.MaxNotes {
		i.Keys = append(i.Keys, api.Key{Note: api.MaxNotes - 1 - note, Sample: note % 7})
	}
	return i
}

// full returns an instrument with keys and envelopes.
func full() api.Inst {
	i := keyed()
	i.Volume, i.Panning, i.Pitch = sustained(line(0, 64, 10, 0), 0, 0), line(0, -32, 5, 32), looped(line(0, 0, 1, 1), 0, 1)
	i.Fade, i.NewNote, i.Dup, i.DupDo, i.Global, i.Cutoff, i.Resonance = 1024, 3, 3, 2, 64, 127, 127
	return i
}

// broken are instruments that are not valid.
func broken() []api.Inst {
	var l []api.Inst
	for _, do := range []func(i *api.Inst){
		func(i *api.Inst) { i.Name = "\n" },
		func(i *api.Inst) { i.Keys = i.Keys[:119] },
		func(i *api.Inst) { i.Keys[7].Note = 120 },
		func(i *api.Inst) { i.Volume = line(1, 0) },
		func(i *api.Inst) { i.Fade = -1 },
	} {
		i := full()
		do(&i)
		l = append(l, i)
	}
	return l
}

// Section Instruments: the name and the keys.
func TestValid(t *testing.T) {
	for n, c := range []struct {
		want bool
		do   func(i *api.Inst)
	}{
		{true, func(i *api.Inst) {}},
		{true, func(i *api.Inst) { i.Name = "" }},
		{true, func(i *api.Inst) { i.Name = strings.Repeat("a", 22) }},
		{false, func(i *api.Inst) { i.Name = strings.Repeat("a", 23) }},
		{true, func(i *api.Inst) { i.Name = " ~" }},
		{false, func(i *api.Inst) { i.Name = "a\x1f" }},
		{false, func(i *api.Inst) { i.Name = "\x7fa" }},
		{false, func(i *api.Inst) { i.Name = "\x00" }},
		{false, func(i *api.Inst) { i.Name = "\x80" }},
		{false, func(i *api.Inst) { i.Name = "\xff" }},
		{false, func(i *api.Inst) { i.Name = "é" }},
		{true, func(i *api.Inst) { i.Keys = nil }},
		{true, func(i *api.Inst) { i.Keys = []api.Key{} }},
		{false, func(i *api.Inst) { i.Keys = i.Keys[:1] }},
		{false, func(i *api.Inst) { i.Keys = i.Keys[:119] }},
		{false, func(i *api.Inst) { i.Keys = append(i.Keys, api.Key{}) }},
		{true, func(i *api.Inst) { i.Keys[0] = api.Key{Note: 0, Sample: 0} }},
		{true, func(i *api.Inst) { i.Keys[119] = api.Key{Note: 119, Sample: 31} }},
		{false, func(i *api.Inst) { i.Keys[0].Note = -1 }},
		{false, func(i *api.Inst) { i.Keys[119].Note = 120 }},
		{false, func(i *api.Inst) { i.Keys[50].Sample = -1 }},
		{false, func(i *api.Inst) { i.Keys[119].Sample = 32 }},
	} {
		i := keyed()
		c.do(&i)
		if Valid(i) != c.want {
			t.Errorf("case %d: %v", n, !c.want)
		}
	}
	if !Valid(api.Inst{}) {
		t.Error("the zero instrument is valid")
	}
}

// Section Instruments: both bounds of every number, from both sides.
func TestValidNumbers(t *testing.T) {
	for n, c := range []struct {
		field     func(i *api.Inst) *int
		low, high int
	}{
		{func(i *api.Inst) *int { return &i.Fade }, 0, 1024},
		{func(i *api.Inst) *int { return &i.NewNote }, 0, 3},
		{func(i *api.Inst) *int { return &i.Dup }, 0, 3},
		{func(i *api.Inst) *int { return &i.DupDo }, 0, 2},
		{func(i *api.Inst) *int { return &i.Global }, 0, 64},
		{func(i *api.Inst) *int { return &i.Cutoff }, -1, 127},
		{func(i *api.Inst) *int { return &i.Resonance }, -1, 127},
	} {
		for _, x := range append(extremes(), c.low-1, c.low, c.high, c.high+1) {
			i := keyed()
			*c.field(&i) = x
			if want := x == c.low || x == c.high; Valid(i) != want {
				t.Errorf("number %d is %d: %v", n, x, !want)
			}
		}
	}
}

// Section Envelopes: volume is 0 to 64, panning and pitch are -32 to 32; what is not on is asked, too.
func TestValidEnvelopes(t *testing.T) {
	for _, c := range []struct {
		value         int
		volume, other bool
	}{
		{0, true, true}, {32, true, true}, {33, true, false}, {64, true, false}, {65, false, false},
		{-1, false, true}, {-32, false, true}, {-33, false, false}, {math.MaxInt, false, false}, {math.MinInt, false, false},
	} {
		for _, e := range []api.Envelope{line(0, c.value), off(line(0, 0, 4, c.value))} {
			volume, panning, pitch := plain(), plain(), plain()
			volume.Volume, panning.Panning, pitch.Pitch = e, e, e
			if got := Valid(volume); got != c.volume {
				t.Errorf("volume %d: %v", c.value, got)
			}
			if got := Valid(panning); got != c.other {
				t.Errorf("panning %d: %v", c.value, got)
			}
			if got := Valid(pitch); got != c.other {
				t.Errorf("pitch %d: %v", c.value, got)
			}
		}
	}
	if !Valid(full()) {
		t.Error("all three may be on")
	}
}

// Promise 4.3, Key: its entry, or the note itself and own.
func TestKey(t *testing.T) {
	empty := plain()
	empty.Keys = []api.Key{}
	for _, c := range []struct {
		i            api.Inst
		note, own    int
		want, sample int
	}{
		{plain(), 0, 5, 0, 5}, {plain(), 60, 5, 60, 5}, {plain(), 119, 31, 119, 31}, {plain(), 60, 0, 60, 0}, {empty, 61, 4, 61, 4},
		{plain(), 60, -3, 60, -3}, {plain(), 60, 500, 60, 500},
		{plain(), -1, 5, 0, 0}, {plain(), 120, 5, 0, 0}, {plain(), math.MinInt, 5, 0, 0}, {plain(), math.MaxInt, 5, 0, 0},
		{keyed(), 0, 9, 119, 0}, {keyed(), 1, 9, 118, 1}, {keyed(), 60, 9, 59, 4}, {keyed(), 119, 9, 0, 0}, {keyed(), 118, 9, 1, 6},
		{keyed(), -1, 9, 0, 0}, {keyed(), 120, 9, 0, 0},
	} {
		if note, sample := Key(c.i, c.note, c.own); note != c.want || sample != c.sample {
			t.Errorf("key %d, own %d: %d, %d", c.note, c.own, note, sample)
		}
	}
	for n, i := range broken() {
		if note, sample := Key(i, 60, 5); note != 0 || sample != 0 {
			t.Errorf("instrument %d is not valid: %d, %d", n, note, sample)
		}
	}
}

// Promise 4.3, SetKeys: the keys from..to play their own notes, shifted, and the sample; the others what they played.
func TestSetKeys(t *testing.T) {
	for _, c := range []struct{ from, to, shift, sample int }{
		{0, 119, 0, 1}, {0, 0, 0, 31}, {119, 119, 0, 0}, {60, 71, -12, 3}, {60, 71, 12, 3}, {100, 119, 12, 2}, {0, 20, -12, 2},
		{0, 119, 119, 5}, {0, 119, -119, 5}, {59, 60, 119, 5}, {5, 5, 1, 0},
	} {
		for _, i := range []api.Inst{plain(), keyed(), full()} {
			got, e := SetKeys(i, c.from, c.to, c.shift, c.sample)
			if e != api.OK || len(got.Keys) != api.MaxNotes || !Valid(got) {
				t.Fatalf("%v: %d keys, %d", c, len(got.Keys), e)
			}
			for note, k := range got.Keys {
				wantNote, wantSample := Key(i, note, 0)
				if note >= c.from && note <= c.to {
					wantNote, wantSample = note+c.shift, c.sample
					if wantNote < 0 {
						wantNote = 0
					}
					if wantNote > 119 {
						wantNote = 119
					}
				}
				if k.Note != wantNote || k.Sample != wantSample {
					t.Errorf("%v, key %d: %v, not %d, %d", c, note, k, wantNote, wantSample)
				}
			}
			got.Keys = i.Keys
			if !reflect.DeepEqual(got, i) {
				t.Errorf("%v: more than the keys has changed: %v", c, got)
			}
		}
	}
	got, _ := SetKeys(plain(), 60, 61, 2, 9)
	if got.Keys[59] != (api.Key{Note: 59}) || got.Keys[60] != (api.Key{Note: 62, Sample: 9}) || got.Keys[61] != (api.Key{Note: 63, Sample: 9}) || got.Keys[62] != (api.Key{Note: 62}) {
		t.Errorf("%v", got.Keys[59:63])
	}
}

// Promise 4.3, SetKeys: an instrument that is not valid comes before what is out of range; with an error there is no instrument.
func TestSetKeysErrors(t *testing.T) {
	type call struct{ from, to, shift, sample int }
	wrong := []call{
		{-1, 5, 0, 1}, {120, 120, 0, 1}, {0, 120, 0, 1}, {5, 4, 0, 1}, {119, 0, 0, 1}, {-2, -1, 0, 1}, {121, 125, 0, 1}, {0, -1, 0, 1},
		{0, 5, 120, 1}, {0, 5, -120, 1}, {0, 5, 0, -1}, {0, 5, 0, 32},
		{-1, 120, 120, 32},
	}
	for _, x := range extremes() {
		wrong = append(wrong, call{x, 5, 0, 1}, call{0, x, 0, 1}, call{0, 5, x, 1}, call{0, 5, 0, x})
	}
	for _, c := range wrong {
		for _, i := range []api.Inst{plain(), full()} {
			if got, e := SetKeys(i, c.from, c.to, c.shift, c.sample); e != api.ErrRange || !reflect.DeepEqual(got, api.Inst{}) {
				t.Errorf("%v: %v, %d", c, got, e)
			}
		}
	}
	for n, i := range broken() {
		for _, c := range append(wrong, call{0, 5, 0, 1}) {
			if got, e := SetKeys(i, c.from, c.to, c.shift, c.sample); e != api.ErrInvalid || !reflect.DeepEqual(got, api.Inst{}) {
				t.Errorf("instrument %d, %v: %v, %d", n, c, got, e)
			}
		}
	}
}

// Promise 4.3 and Details, Samples: each once, ascending, without 0; without keys own alone.
func TestSamples(t *testing.T) {
	ends, none := keyed(), keyed()
	for note := range ends.Keys {
		ends.Keys[note].Sample = 31 - 30*(note%2)
		none.Keys[note].Sample = 0
	}
	one := plain()
	one.Keys = slices.Clone(none.Keys)
	one.Keys[119].Sample = 17
	for n, c := range []struct {
		i    api.Inst
		own  int
		want []int
	}{
		{plain(), 4, []int{4}}, {plain(), 31, []int{31}}, {plain(), 1, []int{1}}, {plain(), 0, nil}, {plain(), -1, nil}, {plain(), 99, []int{99}},
		{plain(), math.MinInt, nil},
		{keyed(), 9, []int{1, 2, 3, 4, 5, 6}}, {ends, 9, []int{1, 31}}, {none, 9, nil}, {one, 9, []int{17}}, {one, -9, []int{17}},
	} {
		if got := Samples(c.i, c.own); !slices.Equal(got, c.want) {
			t.Errorf("case %d: %v, not %v", n, got, c.want)
		}
	}
	for n, i := range broken() {
		if got := Samples(i, 4); len(got) != 0 {
			t.Errorf("instrument %d is not valid: %v", n, got)
		}
	}
	all := keyed()
	for note := range all.Keys {
		all.Keys[note].Sample = (31 * note) % 32
	}
	if got := Samples(all, 0); len(got) != 31 || got[0] != 1 || got[30] != 31 || !slices.IsSorted(got) {
		t.Errorf("%v", got)
	}
}

// spared returns an instrument whose lists have more behind them, in their spare capacity, with those lists whole.
func spared() (i api.Inst, keys []api.Key, points [][]api.Point) {
	i = full()
	keys = append(i.Keys, api.Key{Note: 77}, api.Key{Note: 78})
	i.Keys = keys[:api.MaxNotes]
	for _, e := range []*api.Envelope{&i.Volume, &i.Panning, &i.Pitch} {
		whole := append(slices.Clone(e.Points), api.Point{Tick: 77}, api.Point{Tick: 78})
		e.Points = whole[:len(whole)-2]
		points = append(points, whole)
	}
	return i, keys, points
}

// all calls every function and returns what they return.
func all(i api.Inst, n, m int) []any {
	var l []any
	add := func(results ...any) { l = append(l, results...) }
	for _, e := range []api.Envelope{i.Volume, i.Panning, i.Pitch} {
		for _, held := range []bool{false, true} {
			add(ValidEnvelope(e, n, m), Value(e, n), After(e, n, held), Over(e, n, held))
		}
		add(Curve(e, n, m))
	}
	note, sample := Key(i, n, m)
	changed, e := SetKeys(i, n, m, n-m, n)
	add(Valid(i), note, sample, changed, e, Samples(i, n))
	return l
}

// R4: arguments stay as they are, with what stands behind them, and results share no memory.
func TestMemory(t *testing.T) {
	i, keys, points := spared()
	i0, keys0, points0 := full(), slices.Clone(keys), make([][]api.Point, len(points))
	for n := range points {
		points0[n] = slices.Clone(points[n])
	}
	a, _ := SetKeys(i, 3, 5, 1, 2)
	b, _ := SetKeys(i, 3, 5, 1, 2)
	want := full()
	for note := 3; note <= 5; note++ {
		want.Keys[note] = api.Key{Note: note + 1, Sample: 2}
	}
	spoil(a.Keys)
	spoil(a.Volume.Points)
	spoil(a.Panning.Points)
	spoil(a.Pitch.Points)
	curve, samples := Curve(i.Volume, 9, 2), Samples(i, 1)
	again, same := slices.Clone(curve), slices.Clone(samples)
	spoil(Curve(i.Volume, 9, 2))
	spoil(Samples(i, 1))
	all(i, 4, 9)
	if !slices.Equal(curve, again) || !slices.Equal(samples, same) {
		t.Error("two results share memory")
	}
	if !reflect.DeepEqual(b, want) {
		t.Errorf("two results share memory: %v", b)
	}
	if !reflect.DeepEqual(i, i0) || !slices.Equal(keys, keys0) || !reflect.DeepEqual(points, points0) {
		t.Error("an argument has changed")
	}
}

// spoil overwrites a list, with its spare capacity.
func spoil[T any](l []T) {
	var zero T
	l = l[:cap(l)]
	for i := range l {
		l[i] = zero
	}
}

// R7: the same calls give the same results, whatever was asked between them.
func TestRepeats(t *testing.T) {
	first := all(full(), 4, 40)
	all(keyed(), 0, 100)
	all(broken()[0], 4, 40)
	if again := all(full(), 4, 40); !reflect.DeepEqual(first, again) {
		t.Errorf("first %v, then %v", first, again)
	}
}

// R4: a nil list is as good as an empty one.
func TestNil(t *testing.T) {
	empty := plain()
	empty.Keys = []api.Key{}
	empty.Volume.Points, empty.Panning.Points, empty.Pitch.Points = []api.Point{}, []api.Point{}, []api.Point{}
	for _, n := range []int{-1, 0, 1, 60} {
		a, b := all(plain(), n, 70), all(empty, n, 70)
		for k := range a {
			if x, ok := a[k].(api.Inst); ok {
				y := b[k].(api.Inst)
				if !slices.Equal(x.Keys, y.Keys) || len(y.Volume.Points) != 0 {
					t.Errorf("%v and %v", x, y)
				}
			} else if !reflect.DeepEqual(a[k], b[k]) {
				t.Errorf("%v and %v", a[k], b[k])
			}
		}
	}
}

// R1: nothing panics or goes on for ever, whatever the numbers are.
func TestExtremes(t *testing.T) {
	numbers := append(extremes(), -1, 0, 1, 119, 120, 4000)
	insts := append(broken(), plain(), keyed(), full())
	for _, e := range silent() {
		i := full()
		i.Volume, i.Panning, i.Pitch = e, e, e
		insts = append(insts, i)
	}
	for _, i := range insts {
		for _, n := range numbers {
			for _, m := range numbers {
				all(i, n, m)
			}
		}
	}
	for _, x := range numbers {
		e := line(x, x, x, x)
		all(api.Inst{Keys: []api.Key{{Note: x, Sample: x}}, Volume: e, Panning: sustained(e, x, x), Pitch: looped(e, x, x), Fade: x}, x, x)
	}
}
