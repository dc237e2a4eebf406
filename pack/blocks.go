package pack

import "orchestrion/api"

const blockFrames = 256 // frames of a block; the last one may have fewer

// coding is a version of blocks: what makes values of frames, and what makes frames of values again.
type coding struct{ value, frame transform }

// codings returns the versions by their numbers. Each one begins anew, before the first frame.
func codings() map[int]func(bits int) coding {
	return map[int]func(bits int) coding{
		1: func(bits int) coding {
			return coding{value: differences(bits), frame: sums(bits)}
		},
		2: func(bits int) coding {
			return coding{
				value: joined(differences(bits), differences(bits)),
				frame: joined(sums(bits), sums(bits)),
			}
		},
	}
}

// joined returns what turns numbers by first and then by second.
func joined(first, second transform) transform {
	return func(x int) int { return second(first(x)) }
}

// Blocks writes the frames in blocks of 256, the last one shorter: the wrapped differences of version 1, or the differences of these of version 2, in as few bits as all values of a block need.
func Blocks(data []int, bits, version int) ([]byte, api.Errno) {
	begin, known := codings()[version]
	if !known {
		return nil, api.ErrInvalid
	}
	if e := askData(data, bits); e != api.OK {
		return nil, e
	}
	value := begin(bits).value
	values := make([]int, len(data))
	for i, x := range data {
		values[i] = value(x)
	}
	var out []byte
	for from := 0; from < len(values); from += blockFrames {
		out = appendBlock(out, values[from:min(from+blockFrames, len(values))])
	}
	return out, api.OK
}

// appendBlock appends a block: its width, and its values in as many bits each.
func appendBlock(out []byte, values []int) []byte {
	w := width(values)
	out = append(out, byte(w))
	put := bitWriter(&out)
	for _, v := range values {
		put(v, w)
	}
	return out
}

// width returns the least number of bits, from 1 on, with which all values can be written.
func width(values []int) int {
	w := 1
	for !allWithin(values, w) {
		w++
	}
	return w
}

// bitWriter returns what appends the lowest bits of values to out, from the lowest bit of a new byte on. What is not filled of the last byte is 0.
func bitWriter(out *[]byte) func(value, count int) {
	at := 0
	return func(value, count int) {
		for i := range count {
			if at%8 == 0 {
				*out = append(*out, 0)
			}
			bit := byte(value>>i) & 1
			(*out)[len(*out)-1] |= bit << (at % 8)
			at++
		}
	}
}

// bitReader returns what reads the bits that bitWriter wrote, as many as b has.
func bitReader(b []byte) func(count int) int {
	at := 0
	return func(count int) int {
		value := 0
		for i := range count {
			bit := int(b[at/8]>>(at%8)) & 1
			value |= bit << i
			at++
		}
		return value
	}
}

// Unblocks reads n frames of what Blocks wrote. used is how many bytes were read, missing how many frames were not there; these are 0.
func Unblocks(b []byte, bits, version, n int) (data []int, used, missing int, e api.Errno) {
	begin, known := codings()[version]
	if !known || !validBits(bits) {
		return nil, 0, 0, api.ErrInvalid
	}
	if e := askBytes(b, n); e != api.OK {
		return nil, 0, 0, e
	}
	data = make([]int, n)
	frame := begin(bits).frame
	for from := 0; from < n; from += blockFrames {
		block := data[from:min(from+blockFrames, n)]
		whole, size, e := readBlock(b[used:], block, bits, frame)
		if e != api.OK {
			return nil, 0, 0, e
		}
		used += size
		if whole < len(block) {
			return data, used, n - from - whole, api.OK
		}
	}
	return data, used, 0, api.OK
}

// readBlock reads a block's frames from the beginning of b, and returns how many of them are whole there and how many bytes they take: all of b if it ends within the block.
func readBlock(b []byte, block []int, bits int, frame transform) (whole, size int, e api.Errno) {
	if len(b) == 0 {
		return 0, 0, api.OK
	}
	w, b := int(b[0]), b[1:]
	if !within(w, 1, bits) {
		return 0, 0, api.ErrData
	}
	whole = min(len(block), 8*len(b)/w)
	take := bitReader(b)
	for i := range whole {
		block[i] = frame(wrap(take(w), w))
	}
	return whole, 1 + min(len(b), (w*len(block)+7)/8), api.OK
}
