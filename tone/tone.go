// Package tone: pitches, periods, frequencies, waveforms.
//
// It is specified in shared/doc/01-tone.md.
package tone

import "orchestrion/api"

const (
	minPitch      = -3840 // the lowest and the highest pitch that a function takes
	maxPitch      = 11519
	middle        = 3840 // the pitch of C-5, at which a sample plays at its own rate
	octave        = 768  // steps of an octave: 12 semitones of 64
	maxExp        = 10 * octave
	maxSeed       = 1<<31 - 1
	maxSampleRate = 65535
	maxPeriod     = 1 << 20
	maxFreq       = 1 << 36
	maxStep       = 1 << 28
)

// Next returns (seed * 1103515245 + 12345) mod 2^31, for seeds from 0 to 2^31 - 1.
func Next(seed int) int {
	if !within(seed, 0, maxSeed) {
		return 0
	}
	return (seed*1103515245 + 12345) & maxSeed
}

// Pow2 returns floor(R(i) / 2^24), for i from 0 to 767.
func Pow2(i int) int {
	if !within(i, 0, octave-1) {
		return 0
	}
	return power(i) >> 24
}

// Exp returns floor(R(i) * 2^q / 2^24) with q = floor(v / 768) and i = v - 768 * q, for v from -7,680 to 7,680: 2^(v / 768) in 16.16.
func Exp(v int) int {
	if !within(v, -maxExp, maxExp) {
		return 0
	}
	// Go divides towards zero, so the octaves are counted from the lowest one.
	up := v + maxExp
	q := up/octave - maxExp/octave
	return power(up%octave) >> (24 - q)
}

// power returns R(i), about 2^40 * 2^(i / 768), for i from 0 to 767: up to there no product is beyond 2^63.
func power(i int) int {
	r := 1 << 40
	for range i {
		r += r * 3878110 >> 32
	}
	return r
}

// Freq returns the frequency in 1/256 Hz at which a sample of a rate (1 to 65,535) plays a pitch.
func Freq(rate, pitch int) int {
	if !within(rate, 1, maxSampleRate) || !isPitch(pitch) {
		return 0
	}
	return rate * Exp(pitch-middle) >> 8
}

// Period returns max(1, floor(1,712 * Exp(3,840 - pitch) / 65,536)).
func Period(pitch int) int {
	if !isPitch(pitch) {
		return 0
	}
	return max(1, 1712*Exp(middle-pitch)>>16)
}

// PitchOf returns the greatest pitch from 0 to MaxPitch whose Period is at least the period, or 0 if there is none (periods from 1 to 1,048,576).
func PitchOf(period int) int {
	if !within(period, 1, maxPeriod) {
		return 0
	}
	// A greater pitch has no greater period, so halving finds the last one that is long enough.
	low, high := 0, api.MaxPitch
	for low < high {
		pitch := (low + high + 1) / 2
		if Period(pitch) >= period {
			low = pitch
		} else {
			high = pitch - 1
		}
	}
	return low
}

// FreqOf returns floor(rate * 438,272 / period) (438,272 is 256 * 1,712), for rates from 1 to 65,535 and periods from 1 to 1,048,576.
func FreqOf(rate, period int) int {
	if !within(rate, 1, maxSampleRate) || !within(period, 1, maxPeriod) {
		return 0
	}
	return rate * 438272 / period
}

// Step returns min(2^28, floor(freq * 256 / out)): how far a cursor moves in 16.16 for one frame, for freq from 0 to 2^36 and out from MinRate to MaxRate.
func Step(freq, out int) int {
	if !within(freq, 0, maxFreq) || !within(out, api.MinRate, api.MaxRate) {
		return 0
	}
	return min(maxStep, freq*256/out)
}

// Semitone returns floor((pitch + 32) / 64) * 64.
func Semitone(pitch int) int {
	if !isPitch(pitch) {
		return 0
	}
	// A shift rounds towards minus infinity, also below 0.
	return (pitch + 32) >> 6 << 6
}

func isPitch(pitch int) bool { return within(pitch, minPitch, maxPitch) }

func within(n, low, high int) bool { return low <= n && n <= high }
