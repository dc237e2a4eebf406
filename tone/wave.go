package tone

// quarter is the first quarter of the sine, S(0) to S(16).
var quarter = [17]int{0, 25, 50, 74, 98, 120, 142, 162, 180, 197, 212, 225, 236, 244, 250, 254, 255}

// Wave returns a value from -255 to 255 for the position pos mod 64 (Euclidean) of a waveform: kind 0 a sine, 1 a falling ramp, 2 a square, 3 random (by the seed, which the others do not ask).
func Wave(kind, pos, seed int) int {
	// The low bits of a negative number, too, are its Euclidean remainder.
	pos &= 63
	switch kind {
	case 0:
		return sine(pos)
	case 1:
		return 255 - 8*pos
	case 2:
		return square(pos)
	case 3:
		return random(seed)
	}
	return 0
}

func sine(pos int) int {
	half := pos & 31
	s := quarter[min(half, 32-half)]
	if pos < 32 {
		return s
	}
	return -s
}

func square(pos int) int {
	if pos < 32 {
		return 255
	}
	return -255
}

func random(seed int) int {
	// Next of such a seed is 0, which would make -255.
	if !within(seed, 0, maxSeed) {
		return 0
	}
	return Next(seed)/256%511 - 255
}
