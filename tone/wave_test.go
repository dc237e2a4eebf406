package tone

import (
	"math"
	"testing"
)

// Promise 1.5: the sine as the document writes it, quarter by quarter.
func TestSine(t *testing.T) {
	s := []int{0, 25, 50, 74, 98, 120, 142, 162, 180, 197, 212, 225, 236, 244, 250, 254, 255}
	for pos := range 64 {
		want := 0
		switch {
		case pos <= 16:
			want = s[pos]
		case pos <= 32:
			want = s[32-pos]
		case pos <= 48:
			want = -s[pos-32]
		default:
			want = -s[64-pos]
		}
		if got := Wave(0, pos, 0); got != want {
			t.Errorf("Wave(0, %d): %d, want %d", pos, got, want)
		}
	}
}

// Promise 1.5: ramp and square.
func TestRampAndSquare(t *testing.T) {
	for pos := range 64 {
		if got := Wave(1, pos, 0); got != 255-8*pos {
			t.Errorf("Wave(1, %d): %d", pos, got)
		}
		if got := Wave(2, pos, 0); pos < 32 && got != 255 || pos >= 32 && got != -255 {
			t.Errorf("Wave(2, %d): %d", pos, got)
		}
	}
}

// Promise 1.5: positions count mod 64, also below 0.
func TestPositions(t *testing.T) {
	checkAll(t, []pair{
		{Wave(0, -16, 0), -255}, {Wave(0, -1, 0), -25}, {Wave(0, 80, 0), 255}, {Wave(0, 64, 0), 0},
		{Wave(1, -1, 0), -249}, {Wave(1, 64, 0), 255}, {Wave(1, -64, 0), 255}, {Wave(1, -65, 0), -249},
		{Wave(2, -1, 0), -255}, {Wave(2, -32, 0), -255}, {Wave(2, -33, 0), 255}, {Wave(2, 95, 0), 255},
		{Wave(1, math.MinInt, 0), 255}, {Wave(1, math.MaxInt, 0), -249}, {Wave(1, math.MinInt+1, 0), 247},
	})
	for kind := range 3 {
		for pos := -200; pos < 200; pos++ {
			if Wave(kind, pos, 0) != Wave(kind, pos+64, 0) {
				t.Fatalf("Wave(%d, %d) and 64 on", kind, pos)
			}
		}
	}
}

// Promise 1.5 and the details: the random wave asks its seed and no position; the others ask no seed.
func TestRandom(t *testing.T) {
	checkAll(t, []pair{
		{Wave(3, 0, 0), 48%511 - 255}, {Wave(3, 63, 0), 48 - 255}, {Wave(3, -9, 0), 48 - 255},
		{Wave(3, 0, 1), 1103527590/256%511 - 255}, {Wave(3, 0, maxSeed), 1043980748/256%511 - 255},
		{Wave(3, 0, -1), 0}, {Wave(3, 0, 1<<31), 0},
		{Wave(0, 16, -1), 255}, {Wave(1, 0, -1), 255}, {Wave(2, 0, 1<<31), 255},
		{Wave(-1, 16, 0), 0}, {Wave(4, 16, 0), 0},
	})
	low, high := 0, 0
	for seed := range 500000 {
		n := Wave(3, 0, seed)
		low, high = min(low, n), max(high, n)
	}
	if low != -255 || high != 255 {
		t.Errorf("random from %d to %d", low, high)
	}
}

// P1.4: the second half of sine and square is the first one's negative.
func TestHalves(t *testing.T) {
	for _, kind := range []int{0, 2} {
		for pos := -100; pos < 100; pos++ {
			if Wave(kind, pos+32, 0) != -Wave(kind, pos, 0) {
				t.Fatalf("Wave(%d, %d) and 32 on", kind, pos)
			}
		}
	}
}
