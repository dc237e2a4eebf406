package sample

import (
	"math/big"
	"reflect"
	"testing"

	"orchestrion/api"
)

// full returns a sample in which every field is set.
func full() api.Sample {
	return api.Sample{
		Name: "full", Data: []int{1, -2, 3, -4, 5, -6}, Bits: 8, Rate: 11025, Volume: 40, Pan: 200, Fine: -7,
		Loop: api.LoopForward, Start: 1, End: 3, Sus: api.LoopPingPong, SusStart: 2, SusEnd: 6,
	}
}

// like returns the full sample with other frames.
func like(data []int) api.Sample {
	s := full()
	s.Data = data
	return s
}

func checkSample(t *testing.T, what string, got api.Sample, e api.Errno, want api.Sample) {
	t.Helper()
	if e != api.OK || len(got.Data) != len(want.Data) || !Valid(got) {
		t.Errorf("%s: %v, %d, want %v", what, got, e, want)
		return
	}
	if len(got.Data) == 0 {
		got.Data, want.Data = nil, nil
	}
	if !reflect.DeepEqual(got, want) {
		t.Errorf("%s: %v, want %v", what, got, want)
	}
}

func checkRefused(t *testing.T, what string, got api.Sample, e, want api.Errno) {
	t.Helper()
	if e != want || !reflect.DeepEqual(got, api.Sample{}) {
		t.Errorf("%s: %v, %d, want error %d", what, got, e, want)
	}
}

// Promise 2.4: frames turn around, and loops with them.
func TestReverse(t *testing.T) {
	want := like([]int{-6, 5, -4, 3, -2, 1})
	want.Start, want.End = 3, 5
	want.SusStart, want.SusEnd = 0, 4
	got, e := Reverse(full())
	checkSample(t, "full", got, e, want)
	got, e = Reverse(plain(1, 2, 3))
	checkSample(t, "without loops", got, e, plain(3, 2, 1))
	got, e = Reverse(plain())
	checkSample(t, "without frames", got, e, plain())
	got, e = Reverse(sustained(plain(1, 2, 3), api.LoopForward, 0, 1))
	checkSample(t, "second loop alone", got, e, sustained(plain(3, 2, 1), api.LoopForward, 2, 3))
	got, e = Reverse(plain(128))
	checkRefused(t, "not valid", got, e, api.ErrInvalid)
}

// Promise 2.4 and the details: loops stay if they lie within the frames that stay.
func TestCrop(t *testing.T) {
	data := full().Data
	for _, c := range []struct {
		from, to   int
		loop, sust [3]int
	}{
		{0, 6, [3]int{1, 1, 3}, [3]int{2, 2, 6}},
		{1, 6, [3]int{1, 0, 2}, [3]int{2, 1, 5}},
		{1, 3, [3]int{1, 0, 2}, [3]int{}},
		{2, 6, [3]int{}, [3]int{2, 0, 4}},
		{3, 6, [3]int{}, [3]int{}},
		{0, 5, [3]int{1, 1, 3}, [3]int{}},
		{0, 2, [3]int{}, [3]int{}},
		{3, 4, [3]int{}, [3]int{}},
		{2, 2, [3]int{}, [3]int{}},
		{0, 0, [3]int{}, [3]int{}},
		{6, 6, [3]int{}, [3]int{}},
	} {
		want := like(data[c.from:c.to])
		want.Loop, want.Start, want.End = c.loop[0], c.loop[1], c.loop[2]
		want.Sus, want.SusStart, want.SusEnd = c.sust[0], c.sust[1], c.sust[2]
		got, e := Crop(full(), c.from, c.to)
		checkSample(t, "crop", got, e, want)
	}
	got, e := Crop(plain(1, 2, 3), 1, 3)
	checkSample(t, "without loops", got, e, plain(2, 3))
	for _, c := range []struct{ from, to int }{{-1, 2}, {3, 2}, {0, 7}, {7, 7}, {7, 6}, {-2, -1}, {1, -1}} {
		got, e := Crop(full(), c.from, c.to)
		checkRefused(t, "range", got, e, api.ErrRange)
	}
	for _, n := range extremes() {
		for _, c := range [][2]int{{0, n}, {n, 6}, {n, n}} {
			got, e := Crop(full(), c[0], c[1])
			checkRefused(t, "extremes", got, e, api.ErrRange)
		}
	}
	got, e = Crop(like([]int{1}), -1, 9)
	checkRefused(t, "not valid", got, e, api.ErrInvalid)
}

// Promise 2.4: rounding and clipping by hand.
func TestAmplify(t *testing.T) {
	for i, c := range []struct {
		bits, num, den int
		data, want     []int
	}{
		{8, 1, 1, []int{-128, 0, 127}, []int{-128, 0, 127}},
		{8, 1, 2, []int{1, -1, 3, -3, 2, -2, 127, -128}, []int{1, -1, 2, -2, 1, -1, 64, -64}},
		{8, 1, 3, []int{1, 2, 4, 5, -1, -2, -4, -5}, []int{0, 1, 1, 2, 0, -1, -1, -2}},
		{8, 1, 4, []int{1, 2, 3, -1, -2, -3}, []int{0, 1, 1, 0, -1, -1}},
		{8, 2, 1, []int{63, 64, -64, -65}, []int{126, 127, -128, -128}},
		{8, -1, 1, []int{-128, 127, 5}, []int{127, -127, -5}},
		{8, -1, 2, []int{1, -1, 3, -3}, []int{-1, 1, -2, 2}},
		{8, 0, 7, []int{-128, 127}, []int{0, 0}},
		{8, 10000, 1, []int{1, -1, 0}, []int{127, -128, 0}},
		{16, 10000, 1, []int{3, -3, 4, -4, 32767, -32768}, []int{30000, -30000, 32767, -32768, 32767, -32768}},
		{16, -10000, 1, []int{3, -3, 4, -4}, []int{-30000, 30000, -32768, 32767}},
		{16, 1, 10000, []int{4999, 5000, -4999, -5000, 32767}, []int{0, 1, 0, -1, 3}},
		{16, 10000, 10000, []int{-32768, 32767}, []int{-32768, 32767}},
		{16, 2, 3, []int{}, []int{}},
	} {
		s, want := plain(c.data...), plain(c.want...)
		s.Bits, want.Bits = c.bits, c.bits
		got, e := Amplify(s, c.num, c.den)
		checkSample(t, "case", got, e, want)
		if t.Failed() {
			t.Fatalf("case %d", i)
		}
	}
	got, e := Amplify(full(), 3, 1)
	checkSample(t, "other fields", got, e, like([]int{3, -6, 9, -12, 15, -18}))
}

// Promise 2.4: the errors of Amplify.
func TestAmplifyErrors(t *testing.T) {
	for _, c := range [][2]int{{10001, 1}, {-10001, 1}, {1, 0}, {1, -1}, {1, 10001}, {10001, 0}} {
		got, e := Amplify(full(), c[0], c[1])
		checkRefused(t, "range", got, e, api.ErrRange)
	}
	for _, n := range extremes() {
		got, e := Amplify(full(), n, 1)
		checkRefused(t, "num", got, e, api.ErrRange)
		got, e = Amplify(full(), 1, n)
		checkRefused(t, "den", got, e, api.ErrRange)
	}
	got, e := Amplify(plain(200), 10001, 0)
	checkRefused(t, "not valid", got, e, api.ErrInvalid)
}

// nearest returns x * num / den by exact fractions: the nearest whole number, halves away from 0.
func nearest(x, num, den int) int {
	r := new(big.Rat).SetFrac64(int64(x*num), int64(den))
	half := big.NewRat(1, 2)
	if r.Sign() < 0 {
		half.Neg(half)
	}
	r.Add(r, half)
	return int(new(big.Int).Quo(r.Num(), r.Denom()).Int64())
}

// Promise 2.4: all frames of 8 bits, against exact fractions.
func TestAmplifyExact(t *testing.T) {
	data := make([]int, 256)
	for i := range data {
		data[i] = i - 128
	}
	for _, num := range []int{-10000, -333, -2, 0, 1, 3, 100, 5000, 9999} {
		for _, den := range []int{1, 2, 3, 6, 7, 50, 1000, 9999, 10000} {
			got, e := Amplify(plain(data...), num, den)
			if e != api.OK {
				t.Fatalf("%d / %d: %d", num, den, e)
			}
			for i, x := range got.Data {
				if want := max(-128, min(127, nearest(i-128, num, den))); x != want {
					t.Fatalf("%d * %d / %d: %d, want %d", i-128, num, den, x, want)
				}
			}
		}
	}
}

// Promise 2.4: other bits.
func TestConvert(t *testing.T) {
	want := like([]int{256, -512, 768, -1024, 1280, -1536})
	want.Bits = 16
	got, e := Convert(full(), 16)
	checkSample(t, "to 16", got, e, want)
	got, e = Convert(full(), 8)
	checkSample(t, "8 to 8", got, e, full())
	got, e = Convert(want, 16)
	checkSample(t, "16 to 16", got, e, want)
	got, e = Convert(wide(plain(-32768, -257, -256, -255, -1, 0, 1, 255, 256, 32767)), 8)
	checkSample(t, "to 8", got, e, plain(-128, -2, -1, -1, -1, 0, 0, 0, 1, 127))
	got, e = Convert(plain(), 16)
	checkSample(t, "without frames", got, e, wide(plain()))
	for _, bits := range append(extremes(), 0, -8, 7, 9, 12, 15, 17, 24, 32) {
		got, e := Convert(full(), bits)
		checkRefused(t, "bits", got, e, api.ErrRange)
		got, e = Convert(plain(128), bits)
		checkRefused(t, "not valid", got, e, api.ErrInvalid)
	}
}

// P2.4: there and back.
func TestBack(t *testing.T) {
	for _, s := range append(loops(), full(), plain(), wide(plain(-32768, 32767, 3))) {
		once, _ := Reverse(s)
		twice, e := Reverse(once)
		checkSample(t, "Reverse", twice, e, s)
		if s.Bits == 8 {
			more, _ := Convert(s, 16)
			back, e := Convert(more, 8)
			checkSample(t, "Convert", back, e, s)
		}
	}
	data := make([]int, 256)
	for i := range data {
		data[i] = i - 128
	}
	more, _ := Convert(plain(data...), 16)
	back, e := Convert(more, 8)
	checkSample(t, "all frames", back, e, plain(data...))
}
