package tone

import (
	"math"
	"math/big"
	"testing"

	"orchestrion/api"
)

// powers returns R(0) to R(767), made by the document's formula with numbers of any length.
func powers() [768]*big.Int {
	var r [768]*big.Int
	r[0] = new(big.Int).Lsh(big.NewInt(1), 40)
	for i := range 767 {
		grown := new(big.Int).Mul(r[i], big.NewInt(3878110))
		r[i+1] = grown.Add(r[i], grown.Rsh(grown, 32))
	}
	return r
}

// exps returns Exp(-7680) to Exp(7680) by the document's formula.
func exps() []int {
	r := powers()
	var l []int
	for q := -10; q <= 10; q++ {
		for i := range 768 {
			up := new(big.Int).Lsh(r[i], uint(q+10))
			l = append(l, int(up.Rsh(up, 34).Int64()))
		}
	}
	return l[:2*7680+1]
}

type pair struct{ got, want int }

func checkAll(t *testing.T, l []pair) {
	t.Helper()
	for i, c := range l {
		if c.got != c.want {
			t.Errorf("case %d: got %d, want %d", i, c.got, c.want)
		}
	}
}

// Promise 1.1.
func TestNext(t *testing.T) {
	checkAll(t, []pair{
		{Next(0), 12345},
		{Next(1), 1103527590},
		{Next(12345), 1406932606},
		{Next(maxSeed), 1043980748},
		{Next(1 << 30), 1073754169},
		{Next(-1), 0},
		{Next(1 << 31), 0},
	})
	seed := 0
	for range 10000 {
		want := new(big.Int).Mul(big.NewInt(int64(seed)), big.NewInt(1103515245))
		want.Add(want, big.NewInt(12345)).Mod(want, big.NewInt(1<<31))
		if got := Next(seed); int64(got) != want.Int64() {
			t.Fatalf("Next(%d): %d, want %v", seed, got, want)
		}
		seed = Next(seed)
	}
}

// Promise 1.2.
func TestPow2(t *testing.T) {
	checkAll(t, []pair{
		{Pow2(0), 65536}, {Pow2(1), 65595}, {Pow2(384), 92681}, {Pow2(-1), 0}, {Pow2(768), 0},
	})
	for i, r := range powers() {
		if want := int(r.Rsh(r, 24).Int64()); Pow2(i) != want {
			t.Fatalf("Pow2(%d): %d, want %d", i, Pow2(i), want)
		}
	}
}

// Promise 1.2.
func TestExp(t *testing.T) {
	checkAll(t, []pair{
		{Exp(0), 65536}, {Exp(768), 131072}, {Exp(-768), 32768}, {Exp(1), 65595}, {Exp(-384), 46340},
		{Exp(7680), 1 << 26}, {Exp(-7680), 64}, {Exp(7681), 0}, {Exp(-7681), 0},
	})
	for i, want := range exps() {
		if got := Exp(i - 7680); got != want {
			t.Fatalf("Exp(%d): %d, want %d", i-7680, got, want)
		}
	}
}

// Promise 1.3: Freq.
func TestFreq(t *testing.T) {
	checkAll(t, []pair{
		{Freq(8363, 3840), 2140928}, {Freq(8363, 4608), 4281856}, {Freq(8363, 3072), 1070464},
		{Freq(1, 3840), 256}, {Freq(1, -3840), 0}, {Freq(4, -3840), 1}, {Freq(65535, 3840), 65535 * 256},
		{Freq(0, 3840), 0}, {Freq(-1, 3840), 0}, {Freq(65536, 3840), 0},
		{Freq(8363, -3841), 0}, {Freq(8363, 11520), 0},
	})
	e := exps()
	for _, rate := range []int{1, 3, 8363, 44100, 65535} {
		for pitch := -3840; pitch <= 11519; pitch++ {
			if want := rate * e[pitch+3840] / 256; Freq(rate, pitch) != want {
				t.Fatalf("Freq(%d, %d): %d, want %d", rate, pitch, Freq(rate, pitch), want)
			}
		}
	}
}

// Promise 1.3: Period.
func TestPeriod(t *testing.T) {
	checkAll(t, []pair{
		{Period(3840), 1712}, {Period(4608), 856}, {Period(3072), 3424}, {Period(0), 54784},
		{Period(-3840), 1712 * 1024}, {Period(11519), 1}, {Period(-3841), 0}, {Period(11520), 0},
	})
	e := exps()
	for pitch := -3840; pitch <= 11519; pitch++ {
		if want := max(1, 1712*e[3840-pitch+7680]/65536); Period(pitch) != want {
			t.Fatalf("Period(%d): %d, want %d", pitch, Period(pitch), want)
		}
	}
}

// Promise 1.3: PitchOf, against a search from the top.
func TestPitchOf(t *testing.T) {
	checkAll(t, []pair{
		{PitchOf(1712), 3840}, {PitchOf(1), 7679}, {PitchOf(54784), 0}, {PitchOf(54785), 0}, {PitchOf(54783), 0},
		{PitchOf(1 << 20), 0}, {PitchOf(0), 0}, {PitchOf(-1), 0}, {PitchOf(1<<20 + 1), 0},
	})
	pitch := api.MaxPitch
	for period := 1; period <= 60000; period++ {
		for pitch > 0 && Period(pitch) < period {
			pitch--
		}
		if period > 2000 && period%7 != 0 {
			continue
		}
		if got := PitchOf(period); got != pitch {
			t.Fatalf("PitchOf(%d): %d, want %d", period, got, pitch)
		}
	}
}

// Promise 1.3: FreqOf.
func TestFreqOf(t *testing.T) {
	checkAll(t, []pair{
		{FreqOf(8363, 1712), 2140928}, {FreqOf(8363, 856), 4281856}, {FreqOf(8363, 1713), 2139678},
		{FreqOf(1, 1), 438272}, {FreqOf(65535, 1), 65535 * 438272}, {FreqOf(1, 1<<20), 0}, {FreqOf(65535, 1<<20), 27391},
		{FreqOf(0, 1712), 0}, {FreqOf(65536, 1712), 0}, {FreqOf(8363, 0), 0}, {FreqOf(8363, 1<<20+1), 0},
		{FreqOf(-8363, -1712), 0},
	})
}

// Promise 1.4.
func TestStep(t *testing.T) {
	checkAll(t, []pair{
		{Step(2140928, 8363), 65536}, {Step(2140928, 44100), 12428}, {Step(0, 1000), 0}, {Step(1, 1000), 0},
		{Step(4, 1000), 1}, {Step(1<<36, 1000), 1 << 28}, {Step(1<<36, 96000), 183251937},
		{Step(1048576000, 1000), 1 << 28}, {Step(1048575999, 1000), 1<<28 - 1}, {Step(1048576004, 1000), 1 << 28},
		{Step(-1, 1000), 0}, {Step(1<<36+1, 1000), 0}, {Step(1000, 999), 0}, {Step(1000, 96001), 0},
		{Step(256000, 96000), 682},
	})
}

// Promise 1.4.
func TestSemitone(t *testing.T) {
	checkAll(t, []pair{
		{Semitone(3840), 3840}, {Semitone(3871), 3840}, {Semitone(3872), 3904}, {Semitone(31), 0}, {Semitone(32), 64},
		{Semitone(-32), 0}, {Semitone(-33), -64}, {Semitone(-3840), -3840}, {Semitone(-3808), -3776}, {Semitone(-3809), -3840},
		{Semitone(11519), 11520}, {Semitone(11487), 11456}, {Semitone(-3841), 0}, {Semitone(11520), 0},
	})
	for pitch := -3840; pitch <= 11519; pitch++ {
		if got := Semitone(pitch); got%64 != 0 || got > pitch+32 || got <= pitch-32 {
			t.Fatalf("Semitone(%d): %d", pitch, got)
		}
	}
}

// P1.1: an octave doubles.
func TestOctave(t *testing.T) {
	for v := -7680; v+768 <= 7680; v++ {
		if more := Exp(v+768) - 2*Exp(v); more != 0 && more != 1 {
			t.Fatalf("Exp(%d): %d, Exp(%d): %d", v, Exp(v), v+768, Exp(v+768))
		}
	}
}

// P1.2: a greater pitch has no smaller frequency and no greater period.
func TestMonotone(t *testing.T) {
	for pitch := -3839; pitch <= 11519; pitch++ {
		for _, rate := range []int{1, 8363, 65535} {
			if Freq(rate, pitch) < Freq(rate, pitch-1) {
				t.Fatalf("Freq(%d, %d) is smaller than one below", rate, pitch)
			}
		}
		if Period(pitch) > Period(pitch-1) {
			t.Fatalf("Period(%d) is greater than one below", pitch)
		}
	}
}

// P1.3: a period's pitch has that period.
func TestInverse(t *testing.T) {
	for pitch := range api.MaxPitch + 1 {
		if n := Period(pitch); Period(PitchOf(n)) != n {
			t.Fatalf("pitch %d: period %d, back %d", pitch, n, Period(PitchOf(n)))
		}
	}
}

// R1, R5: arguments far out of range neither panic nor wrap around into it.
func TestExtremes(t *testing.T) {
	for _, n := range []int{math.MinInt, math.MinInt + 1, math.MinInt + 3840, -1 << 40, 1 << 40, math.MaxInt - 3840, math.MaxInt} {
		checkAll(t, []pair{
			{Next(n), 0}, {Pow2(n), 0}, {Exp(n), 0}, {Period(n), 0}, {PitchOf(n), 0}, {Semitone(n), 0},
			{Freq(n, 3840), 0}, {Freq(8363, n), 0}, {Freq(n, n), 0},
			{FreqOf(n, 1712), 0}, {FreqOf(8363, n), 0}, {FreqOf(n, n), 0},
			{Step(n, 8000), 0}, {Step(2140928, n), 0}, {Step(n, n), 0},
			{Wave(n, 1, 1), 0}, {Wave(3, 1, n), 0}, {len(Name(n)), 0},
		})
	}
}

// R7: calls do not depend on those before them.
func TestRepeats(t *testing.T) {
	first := []int{Exp(5), Freq(8363, 3841), PitchOf(428), Wave(3, 0, 7)}
	Exp(7680)
	Wave(3, 0, 8)
	again := []int{Exp(5), Freq(8363, 3841), PitchOf(428), Wave(3, 0, 7)}
	for i := range first {
		if first[i] != again[i] {
			t.Errorf("call %d: %d, then %d", i, first[i], again[i])
		}
	}
}
