package pack

import (
	"math/big"
	"slices"
	"testing"

	"orchestrion/api"
)

type blocksCase struct {
	bits, version int
	data          []int
	want          []byte
}

// run returns n frames of one value.
func run(n, x int) []int { return slices.Repeat([]int{x}, n) }

// bytesOf returns n bytes of one value.
func bytesOf(n int, x byte) []byte { return slices.Repeat([]byte{x}, n) }

// Promise 3.2: blocks worked out by hand.
func TestBlocks(t *testing.T) {
	for i, c := range []blocksCase{
		{8, 1, []int{1, 2, 3}, []byte{2, 0b010101}},
		{8, 2, []int{1, 2, 3}, []byte{2, 0b000001}},
		{16, 1, []int{1, 2, 3}, []byte{2, 0b010101}},
		{16, 2, []int{1, 2, 3}, []byte{2, 0b000001}},
		{8, 1, nil, nil},
		{16, 2, nil, nil},
		{8, 1, []int{0}, []byte{1, 0}},
		{8, 1, []int{-1, -1, -2}, []byte{1, 0b101}},
		{8, 2, []int{-1, -2, -4}, []byte{1, 0b101}},
		{8, 1, []int{1, 0}, []byte{2, 0b1101}},
		{8, 1, []int{1, -1}, []byte{2, 0b1001}},
		{8, 1, []int{2, 0}, []byte{3, 0b110010}},
		{8, 1, []int{-4, -3, -1}, []byte{3, 0b10001100, 0b0}},
		{8, 1, []int{-5, 0, 3}, []byte{4, 0b01011011, 0b0011}},
		{8, 1, []int{127}, []byte{8, 127}},
		{8, 1, []int{-128, 127, -128}, []byte{8, 128, 255, 1}},
		{8, 2, []int{-128, 127, -128}, []byte{8, 128, 127, 2}},
		{8, 2, []int{127, -1}, []byte{8, 127, 1}},
		{16, 1, []int{127, 126}, []byte{8, 127, 255}},
		{16, 1, []int{128, 127}, []byte{9, 0b10000000, 0b11111110, 0b11}},
		{16, 1, []int{-32768, 32767}, []byte{16, 0, 128, 255, 255}},
		{16, 2, []int{-32768, 32767}, []byte{16, 0, 128, 255, 127}},
		{8, 1, run(9, 1), []byte{2, 1, 0, 0}},
		{8, 1, run(256, 1), slices.Concat([]byte{2, 1}, bytesOf(63, 0))},
		{8, 1, run(257, 1), slices.Concat([]byte{2, 1}, bytesOf(63, 0), []byte{1, 0})},
		{8, 2, run(257, 1), slices.Concat([]byte{2, 0b1101}, bytesOf(63, 0), []byte{1, 0})},
		{8, 1, append(run(256, 0), 5, 4), slices.Concat([]byte{1}, bytesOf(32, 0), []byte{4, 0b11110101})},
		{8, 2, append(run(256, 0), 5, 4), slices.Concat([]byte{1}, bytesOf(32, 0), []byte{4, 0b10100101})},
		{16, 1, append(run(256, -1), -2), slices.Concat([]byte{1, 1}, bytesOf(31, 0), []byte{1, 1})},
	} {
		got, e := Blocks(c.data, c.bits, c.version)
		checkBytes(t, "Blocks", got, e, c.want)
		if t.Failed() {
			t.Fatalf("case %d", i)
		}
	}
}

// spelled writes blocks by the chapter's words, a block's bits as one great number.
func spelled(data []int, bits, version int) []byte {
	values := slices.Clone(data)
	for range version {
		for i := len(values) - 1; i > 0; i-- {
			values[i] = signed(values[i]-values[i-1], bits)
		}
	}
	var out []byte
	for block := range slices.Chunk(values, 256) {
		w := 1
		for slices.Min(block) < -1<<(w-1) || slices.Max(block) > 1<<(w-1)-1 {
			w++
		}
		number := new(big.Int)
		for i, v := range block {
			part := big.NewInt(int64(v & (1<<w - 1)))
			number.Or(number, part.Lsh(part, uint(i*w)))
		}
		filled := number.FillBytes(make([]byte, (len(block)*w+7)/8))
		slices.Reverse(filled)
		out = append(append(out, byte(w)), filled...)
	}
	return out
}

// Promise 3.2: more blocks, of all widths.
func TestBlocksSpelled(t *testing.T) {
	for _, bits := range []int{8, 16} {
		l := sets(bits)
		for width := 1; width <= bits; width++ {
			l = append(l, noise(600, bits, width))
		}
		widths := map[byte]bool{}
		for _, version := range []int{1, 2} {
			for _, data := range l {
				got, e := Blocks(data, bits, version)
				checkBytes(t, "Blocks", got, e, spelled(data, bits, version))
				if len(got) > 0 {
					widths[got[0]] = true
				}
			}
		}
		if len(widths) != bits {
			t.Errorf("%d bits: blocks of the widths %v", bits, widths)
		}
	}
}

type unblocksCase struct {
	b                []byte
	bits, version, n int
	want             []int
	used, missing    int
}

// unblocksCases are worked out by hand.
func unblocksCases() []unblocksCase {
	zeros := slices.Concat([]byte{1}, bytesOf(32, 0))
	return []unblocksCase{
		{[]byte{2, 21}, 8, 1, 3, []int{1, 2, 3}, 2, 0},
		{[]byte{2, 1}, 8, 2, 3, []int{1, 2, 3}, 2, 0},
		{[]byte{2, 21, 9, 9}, 8, 1, 3, []int{1, 2, 3}, 2, 0},
		{[]byte{2, 21}, 8, 1, 2, []int{1, 2}, 2, 0},
		{[]byte{2, 21, 21}, 8, 1, 2, []int{1, 2}, 2, 0},
		{[]byte{2, 21}, 8, 1, 0, nil, 0, 0},
		{[]byte{0, 21}, 8, 1, 0, nil, 0, 0},
		{nil, 8, 2, 0, nil, 0, 0},
		// the bits that fill up a byte are ignored
		{[]byte{2, 0b11010101}, 8, 1, 3, []int{1, 2, 3}, 2, 0},
		{[]byte{1, 0b11111110}, 16, 2, 1, []int{0}, 2, 0},
		// a width may be greater than it need be
		{[]byte{8, 1, 255}, 8, 1, 2, []int{1, 0}, 3, 0},
		{[]byte{16, 1, 0, 255, 255}, 16, 1, 2, []int{1, 0}, 5, 0},
		// sums wrap
		{[]byte{8, 127, 1, 127, 3}, 8, 1, 4, []int{127, -128, -1, 2}, 5, 0},
		{[]byte{8, 100, 100}, 8, 2, 2, []int{100, 44}, 3, 0},
		{[]byte{16, 255, 127, 1, 0}, 16, 1, 2, []int{32767, -32768}, 5, 0},
		{[]byte{16, 0, 64, 0, 64, 0, 64}, 16, 2, 3, []int{16384, -16384, -32768}, 7, 0},
		// bytes that end too early
		{nil, 8, 1, 2, []int{0, 0}, 0, 2},
		{[]byte{2}, 8, 1, 3, []int{0, 0, 0}, 1, 3},
		{[]byte{2, 21}, 8, 1, 5, []int{1, 2, 3, 3, 0}, 2, 1},
		{[]byte{3, 0b10001001}, 8, 1, 3, []int{1, 2, 0}, 2, 1},
		{[]byte{3, 0b10001001, 0b0}, 8, 1, 3, []int{1, 2, 4}, 3, 0},
		{[]byte{5, 1, 0}, 16, 1, 9, []int{1, 1, 1, 0, 0, 0, 0, 0, 0}, 3, 6},
		{[]byte{16, 1}, 16, 1, 1, []int{0}, 2, 1},
		{[]byte{16, 1, 0, 1}, 16, 2, 2, []int{1, 0}, 4, 1},
		// several blocks
		{append(slices.Clone(zeros), 4, 0b11110101), 8, 1, 258, append(run(256, 0), 5, 4), 35, 0},
		{append(slices.Clone(zeros), 4, 0b11110101, 7), 8, 1, 257, append(run(256, 0), 5), 35, 0},
		{zeros, 8, 1, 256, run(256, 0), 33, 0},
		{append(slices.Clone(zeros), 0), 8, 1, 256, run(256, 0), 33, 0},
		{zeros, 8, 1, 258, run(258, 0), 33, 2},
		{append(slices.Clone(zeros), 16), 16, 1, 258, run(258, 0), 34, 2},
		{append(slices.Clone(zeros), 16, 7, 0, 9), 16, 1, 258, append(run(256, 0), 7, 0), 37, 1},
		{bytesOf(33, 1), 8, 1, 300, slices.Concat(wholeRun(), run(44, 0)), 33, 44},
	}
}

// wholeRun returns the frames of a block of the width 1 whose bytes are all 1: every eighth difference is -1.
func wholeRun() []int {
	var l []int
	for i := range 32 {
		l = append(l, run(8, -1-i)...)
	}
	return l
}

// Promise 3.2: what is read, how many bytes it takes, and what is missing.
func TestUnblocks(t *testing.T) {
	for i, c := range unblocksCases() {
		got, used, missing, e := Unblocks(c.b, c.bits, c.version, c.n)
		if e != api.OK || used != c.used || missing != c.missing || !slices.Equal(got, c.want) {
			t.Errorf("case %d: %v, %d, %d, %d, want %v, %d, %d", i, got, used, missing, e, c.want, c.used, c.missing)
		}
	}
}

// Promise 3.2: every width, in the first block and in the second one.
func TestWidths(t *testing.T) {
	for _, bits := range []int{8, 16} {
		for w := range 256 {
			first := append([]byte{byte(w)}, bytesOf(512, 0)...)
			second := slices.Concat([]byte{1}, bytesOf(32, 0), []byte{byte(w)}, bytesOf(32, 0))
			for _, version := range []int{1, 2} {
				want := api.OK
				if w < 1 || w > bits {
					want = api.ErrData
				}
				checkWidth(t, first, bits, version, 256, want, 1+32*w)
				checkWidth(t, first, bits, version, 3, want, 1+(3*w+7)/8)
				checkWidth(t, first[:1], bits, version, 1, want, 1)
				checkWidth(t, second, bits, version, 258, want, 34+(2*w+7)/8)
				checkWidth(t, second, bits, version, 256, api.OK, 33)
				checkWidth(t, second[:34], bits, version, 257, want, 34)
			}
		}
	}
}

func checkWidth(t *testing.T, b []byte, bits, version, n int, want api.Errno, size int) {
	t.Helper()
	data, used, missing, e := Unblocks(b, bits, version, n)
	if e != want {
		t.Errorf("%d frames of %d bits: error %d, want %d", n, bits, e, want)
	}
	if e == api.OK && (used != size || len(data) != n) || e != api.OK && (used != 0 || missing != 0 || len(data) != 0) {
		t.Errorf("%d frames of %d bits: %d frames, %d bytes, %d missing, want %d bytes", n, bits, len(data), used, missing, size)
	}
}

// Details: a width that is not there is no wrong one, and one behind the frames is not asked.
func TestWidthNotThere(t *testing.T) {
	b, _ := Blocks(run(512, 9), 8, 1)
	first := 1 + 256*5/8
	for k := range 3 {
		data, used, missing, e := Unblocks(b[:first+k], 8, 1, 512)
		whole := 256 + max(0, k-1)*8
		if e != api.OK || used != first+k || missing != 512-whole || len(data) != 512 {
			t.Errorf("%d bytes of the second block: %d, %d, %d", k, used, missing, e)
		}
	}
	b[first] = 9
	if _, _, _, e := Unblocks(b, 8, 1, 256); e != api.OK {
		t.Errorf("behind the frames: %d", e)
	}
	if _, _, _, e := Unblocks(b, 8, 1, 257); e != api.ErrData {
		t.Errorf("among the frames: %d", e)
	}
}
