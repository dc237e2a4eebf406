package sample

import "orchestrion/api"

const maxFactor = 10000 // of Amplify's num and den

// Reverse returns the sample with its frames in the other order and its loops mirrored.
func Reverse(s api.Sample) (api.Sample, api.Errno) {
	if !Valid(s) {
		return api.Sample{}, api.ErrInvalid
	}
	n := len(s.Data)
	data := make([]int, n)
	for i, x := range s.Data {
		data[n-1-i] = x
	}
	s.Data = data
	return placeLoops(s, func(l loop) loop { return loop{l.kind, n - l.end, n - l.start} }), api.OK
}

// Crop returns the frames from..to - 1, with the loops that lie within them.
func Crop(s api.Sample, from, to int) (api.Sample, api.Errno) {
	if !Valid(s) {
		return api.Sample{}, api.ErrInvalid
	}
	if from < 0 || to < from || to > len(s.Data) {
		return api.Sample{}, api.ErrRange
	}
	data := make([]int, to-from)
	copy(data, s.Data[from:to])
	s.Data = data
	return placeLoops(s, func(l loop) loop {
		if l.start < from || l.end > to {
			return loop{}
		}
		return loop{l.kind, l.start - from, l.end - from}
	}), api.OK
}

// Amplify returns each frame times num / den, rounded to the nearest whole number, halves away from 0, and clipped to the range of its bits.
func Amplify(s api.Sample, num, den int) (api.Sample, api.Errno) {
	if !Valid(s) {
		return api.Sample{}, api.ErrInvalid
	}
	if !within(num, -maxFactor, maxFactor) || !within(den, 1, maxFactor) {
		return api.Sample{}, api.ErrRange
	}
	low, high := limits(s.Bits)
	return mapFrames(s, func(x int) int { return max(low, min(high, rounded(x*num, den))) }), api.OK
}

// Convert returns the sample with other bits.
func Convert(s api.Sample, bits int) (api.Sample, api.Errno) {
	if !Valid(s) {
		return api.Sample{}, api.ErrInvalid
	}
	if !validBits(bits) {
		return api.Sample{}, api.ErrRange
	}
	old := s.Bits
	s.Bits = bits
	return mapFrames(s, func(x int) int {
		switch {
		case bits > old:
			return 256 * x
		case bits < old:
			return x >> 8 // a shift rounds towards minus infinity
		}
		return x
	}), api.OK
}

// placeLoops returns the sample with its loops, where it has any, as place says.
func placeLoops(s api.Sample, place func(loop) loop) api.Sample {
	if s.Loop != api.LoopNone {
		l := place(firstLoop(s))
		s.Loop, s.Start, s.End = l.kind, l.start, l.end
	}
	if s.Sus != api.LoopNone {
		l := place(secondLoop(s))
		s.Sus, s.SusStart, s.SusEnd = l.kind, l.start, l.end
	}
	return s
}

// mapFrames returns the sample with f of each of its frames, in new memory.
func mapFrames(s api.Sample, f func(x int) int) api.Sample {
	data := make([]int, len(s.Data))
	for i, x := range s.Data {
		data[i] = f(x)
	}
	s.Data = data
	return s
}

// rounded returns a / b rounded to the nearest whole number, halves away from 0, for b above 0.
func rounded(a, b int) int {
	if a < 0 {
		return -rounded(-a, b)
	}
	return (2*a + b) / (2 * b)
}
