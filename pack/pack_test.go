package pack

import (
	"bytes"
	"math"
	"reflect"
	"slices"
	"testing"

	"orchestrion/api"
)

// extremes are numbers that no argument may be.
func extremes() []int {
	return []int{math.MinInt, math.MinInt + 1, -1 << 40, 1 << 40, math.MaxInt - 1, math.MaxInt}
}

// noise returns n frames of a number of bits, the same ones at each call; with a smaller spread they stay nearer to 0.
func noise(n, bits, spread int) []int {
	l := make([]int, n)
	seed := uint32(n + 7*spread + bits)
	for i := range l {
		seed = seed*1664525 + 1013904223
		l[i] = signed(int(seed>>8), spread)
	}
	return l
}

// signed returns the lowest bits of x as a number with a sign.
func signed(x, bits int) int {
	x &= 1<<bits - 1
	if x>>(bits-1) == 1 {
		x -= 1 << bits
	}
	return x
}

// wave returns n frames of 8 bits that go up and down.
func wave(n int) []int {
	l := make([]int, n)
	for i := range l {
		l[i] = 100 - 2*max(i%100, 100-i%100)
	}
	return l
}

// sets returns data of a number of bits: none, few frames, one block and just less and more, all that are allowed.
func sets(bits int) [][]int {
	low, high := -1<<(bits-1), 1<<(bits-1)-1
	l := [][]int{
		nil, {0}, {1}, {-1}, {low}, {high}, {1, 2, 3}, {low, high, low, high, 0}, {high, low, low, high},
		make([]int, 300), wave(700), noise(api.MaxFrames, bits, bits),
	}
	for _, n := range []int{1, 2, 3, 7, 255, 256, 257, 511, 512, 513} {
		l = append(l, noise(n, bits, bits), noise(n, bits, 3))
	}
	return l
}

func checkBytes(t *testing.T, what string, got []byte, e api.Errno, want []byte) {
	t.Helper()
	if e != api.OK || !bytes.Equal(got, want) {
		t.Errorf("%s: %v, %d, want %v", what, got, e, want)
	}
}

type deltaCase struct {
	bits int
	data []int
	want []byte
}

// deltaCases are worked out by hand.
func deltaCases() []deltaCase {
	return []deltaCase{
		{8, []int{1, 2, 3}, []byte{1, 1, 1}},
		{8, nil, nil},
		{8, []int{-1, -3, 5}, []byte{255, 254, 8}},
		{8, []int{-128, 127, -128}, []byte{128, 255, 1}},
		{8, []int{127, -1, 127}, []byte{127, 128, 128}},
		{16, []int{1, 2, 3}, []byte{1, 0, 1, 0, 1, 0}},
		{16, nil, nil},
		{16, []int{300, 299, -1}, []byte{44, 1, 255, 255, 212, 254}},
		{16, []int{-32768, 32767, -32768}, []byte{0, 128, 255, 255, 1, 0}},
		{16, []int{32767, -1, 32767}, []byte{255, 127, 0, 128, 0, 128}},
		{16, []int{200, -200}, []byte{200, 0, 112, 254}},
	}
}

// Promise 3.1: differences in one byte or two.
func TestDelta(t *testing.T) {
	for _, c := range deltaCases() {
		got, e := Delta(c.data, c.bits)
		checkBytes(t, "Delta", got, e, c.want)
	}
}

// Promise 3.1: all bytes as frames' differences, by Go's own integers that wrap.
func TestUndeltaWraps(t *testing.T) {
	b := make([]byte, 4096)
	for i, x := range noise(len(b), 8, 8) {
		b[i] = byte(x)
	}
	narrow, _, _ := Undelta(b, 8, 4096)
	broad, _, _ := Undelta(b, 16, 2048)
	var p int8
	for i, x := range narrow {
		if p += int8(b[i]); x != int(p) {
			t.Fatalf("8 bits, frame %d: %d, want %d", i, x, p)
		}
	}
	var q int16
	for i, x := range broad {
		if q += int16(uint16(b[2*i]) + 256*uint16(b[2*i+1])); x != int(q) {
			t.Fatalf("16 bits, frame %d: %d, want %d", i, x, q)
		}
	}
}

// Promise 3.1: what is read, what is missing, and what is behind.
func TestUndelta(t *testing.T) {
	for i, c := range []struct {
		b       []byte
		bits, n int
		want    []int
		missing int
	}{
		{[]byte{1, 1, 1}, 8, 3, []int{1, 2, 3}, 0},
		{[]byte{1, 1, 1}, 8, 2, []int{1, 2}, 0},
		{[]byte{1, 1, 1}, 8, 5, []int{1, 2, 3, 0, 0}, 2},
		{[]byte{1, 1, 1}, 8, 0, nil, 0},
		{nil, 8, 0, nil, 0},
		{nil, 8, 2, []int{0, 0}, 2},
		{[]byte{128, 255, 1, 9}, 8, 3, []int{-128, 127, -128}, 0},
		{[]byte{44, 1, 255, 255}, 16, 2, []int{300, 299}, 0},
		{[]byte{44, 1, 255, 255, 7, 7, 7}, 16, 2, []int{300, 299}, 0},
		{[]byte{44, 1, 255, 255, 7}, 16, 4, []int{300, 299, 0, 0}, 2},
		{[]byte{44, 1, 255}, 16, 2, []int{300, 0}, 1},
		{[]byte{44}, 16, 1, []int{0}, 1},
		{nil, 16, 1, []int{0}, 1},
		{make([]byte, api.MaxBytes), 16, 3, []int{0, 0, 0}, 0},
	} {
		got, missing, e := Undelta(c.b, c.bits, c.n)
		if e != api.OK || missing != c.missing || !slices.Equal(got, c.want) {
			t.Errorf("case %d: %v, %d, %d, want %v, %d", i, got, missing, e, c.want, c.missing)
		}
	}
	got, missing, e := Undelta([]byte{5}, 8, api.MaxFrames)
	if e != api.OK || missing != api.MaxFrames-1 || len(got) != api.MaxFrames || got[0] != 5 || got[1] != 0 {
		t.Errorf("as many frames as may be: %d missing, %d", missing, e)
	}
}

// wrongBits are no numbers of bits.
func wrongBits() []int { return append(extremes(), -16, -8, -1, 0, 1, 7, 9, 12, 15, 17, 24, 32, 64) }

// wrongData returns data with a frame that is out of the range of a number of bits, at the first, the last or another place.
func wrongData(bits int) [][]int {
	var l [][]int
	for _, x := range append(extremes(), -1<<(bits-1)-1, 1<<(bits-1)) {
		l = append(l, []int{x}, []int{0, 0, x}, []int{x, 0, 0}, append(make([]int, api.MaxFrames), x))
	}
	return l
}

// The errors of what writes, in their order.
func TestWriteErrors(t *testing.T) {
	long := make([]int, api.MaxFrames+1)
	check := func(want api.Errno, data []int, bits, version int) {
		t.Helper()
		if version == 1 {
			if b, e := Delta(data, bits); e != want || len(b) != 0 {
				t.Errorf("Delta of %d bits: %v, %d, want %d", bits, b, e, want)
			}
		}
		if b, e := Blocks(data, bits, version); e != want || len(b) != 0 {
			t.Errorf("Blocks of %d bits, version %d: %v, %d, want %d", bits, version, b, e, want)
		}
	}
	for _, version := range []int{1, 2} {
		for _, bits := range wrongBits() {
			check(api.ErrInvalid, nil, bits, version)
			check(api.ErrInvalid, []int{0}, bits, version)
			check(api.ErrInvalid, long, bits, version)
		}
		for _, bits := range []int{8, 16} {
			check(api.ErrLong, long, bits, version)
			for _, data := range wrongData(bits) {
				check(api.ErrInvalid, data, bits, version)
			}
		}
	}
	for _, version := range append(extremes(), -2, -1, 0, 3, 257) {
		check(api.ErrInvalid, []int{0}, 8, version)
		check(api.ErrInvalid, long, 16, version)
	}
}

// The errors of what reads, in their order.
func TestReadErrors(t *testing.T) {
	long := make([]byte, api.MaxBytes+1)
	check := func(want api.Errno, b []byte, bits, version, n int) {
		t.Helper()
		if version == 1 {
			if l, missing, e := Undelta(b, bits, n); e != want || len(l) != 0 || missing != 0 {
				t.Errorf("Undelta of %d bits, %d frames: %d, %d, %d, want %d", bits, n, len(l), missing, e, want)
			}
		}
		if l, used, missing, e := Unblocks(b, bits, version, n); e != want || len(l) != 0 || used != 0 || missing != 0 {
			t.Errorf("Unblocks of %d bits, version %d, %d frames: %d, %d, %d, %d, want %d", bits, version, n, len(l), used, missing, e, want)
		}
	}
	wrongCounts := append(extremes(), -1, -api.MaxFrames, api.MaxFrames+1)
	for _, version := range []int{1, 2} {
		for _, bits := range wrongBits() {
			check(api.ErrInvalid, nil, bits, version, 0)
			check(api.ErrInvalid, long, bits, version, -1)
		}
		for _, bits := range []int{8, 16} {
			check(api.ErrLong, long, bits, version, 0)
			for _, n := range wrongCounts {
				check(api.ErrLong, long, bits, version, n)
				check(api.ErrRange, nil, bits, version, n)
				check(api.ErrRange, []byte{99, 99}, bits, version, n)
			}
		}
	}
	for _, version := range append(extremes(), -2, -1, 0, 3, 257) {
		check(api.ErrInvalid, []byte{1, 0}, 8, version, 1)
		check(api.ErrInvalid, long, 16, version, -1)
	}
}

// The errors of tables, in their order.
func TestTableErrors(t *testing.T) {
	good := []int{-128, -7, -6, -5, -4, -3, -2, -1, 0, 1, 2, 3, 4, 5, 6, 127}
	wrong := [][]int{nil, {}, {0}, good[:15], append(slices.Clone(good), 0)}
	for _, x := range append(extremes(), -129, 128, 256) {
		first, last := slices.Clone(good), slices.Clone(good)
		first[0], last[15] = x, x
		wrong = append(wrong, first, last)
	}
	longData, longBytes := make([]int, api.MaxFrames+1), make([]byte, api.MaxBytes+1)
	check := func(want api.Errno, data []int, b []byte, table []int, n int) {
		t.Helper()
		if out, e := Nibbles(data, table); e != want || len(out) != 0 {
			t.Errorf("Nibbles: %v, %d, want %d", out, e, want)
		}
		if l, missing, e := Unnibbles(b, table, n); e != want || len(l) != 0 || missing != 0 {
			t.Errorf("Unnibbles: %d, %d, %d, want %d", len(l), missing, e, want)
		}
	}
	for _, table := range wrong {
		check(api.ErrInvalid, nil, nil, table, 0)
		check(api.ErrInvalid, []int{1, 2}, []byte{1, 2}, table, 2)
		check(api.ErrInvalid, longData, longBytes, table, -1)
		check(api.ErrInvalid, []int{128}, longBytes, table, 4)
	}
	check(api.ErrLong, longData, longBytes, good, 0)
	check(api.ErrLong, longData, longBytes, good, -1)
	for _, n := range append(extremes(), -1, api.MaxFrames+1) {
		if l, missing, e := Unnibbles([]byte{1}, good, n); e != api.ErrRange || len(l) != 0 || missing != 0 {
			t.Errorf("Unnibbles of %d frames: %d, %d, %d", n, len(l), missing, e)
		}
	}
	if l, e := Table(longData); e != api.ErrLong || len(l) != 0 {
		t.Errorf("Table of too much: %v, %d", l, e)
	}
	for _, data := range wrongData(8) {
		if l, e := Table(data); e != api.ErrInvalid || len(l) != 0 {
			t.Errorf("Table of a frame out of range: %v, %d", l, e)
		}
		if b, e := Nibbles(data, good); e != api.ErrInvalid || len(b) != 0 {
			t.Errorf("Nibbles of a frame out of range: %v, %d", b, e)
		}
	}
}

// Limits: as much as is allowed is taken.
func TestLimits(t *testing.T) {
	b := make([]byte, api.MaxBytes)
	for i := range b {
		b[i] = 1
	}
	table, e := Table(make([]int, api.MaxFrames))
	if e != api.OK {
		t.Fatalf("Table: %d", e)
	}
	if b, e := Nibbles(make([]int, api.MaxFrames), table); e != api.OK || len(b) != api.MaxFrames/2 {
		t.Errorf("Nibbles: %d bytes, %d", len(b), e)
	}
	if l, missing, e := Unnibbles(b, table, api.MaxFrames); e != api.OK || missing != 0 || len(l) != api.MaxFrames {
		t.Errorf("Unnibbles: %d frames, %d missing, %d", len(l), missing, e)
	}
	if l, missing, e := Undelta(b, 16, api.MaxFrames); e != api.OK || missing != 0 || len(l) != api.MaxFrames {
		t.Errorf("Undelta: %d frames, %d missing, %d", len(l), missing, e)
	}
	for _, version := range []int{1, 2} {
		l, used, missing, e := Unblocks(b, 16, version, api.MaxFrames)
		if e != api.OK || used != 16*(1+32) || missing != 0 || len(l) != api.MaxFrames {
			t.Errorf("Unblocks of version %d: %d frames, %d bytes, %d missing, %d", version, len(l), used, missing, e)
		}
	}
}

// reading is one way to read what was written.
type reading struct {
	name  string
	bits  int
	write func(data []int) ([]byte, api.Errno)
	read  func(b []byte, n int) (data []int, used, missing int, e api.Errno)
}

// readings returns Delta and both versions of Blocks, of both numbers of bits.
func readings() []reading {
	var l []reading
	for _, bits := range []int{8, 16} {
		l = append(l, reading{"Delta", bits,
			func(data []int) ([]byte, api.Errno) { return Delta(data, bits) },
			func(b []byte, n int) ([]int, int, int, api.Errno) {
				data, missing, e := Undelta(b, bits, n)
				return data, min(len(b), n*bits/8), missing, e
			},
		})
		for _, version := range []int{1, 2} {
			l = append(l, reading{"Blocks", bits,
				func(data []int) ([]byte, api.Errno) { return Blocks(data, bits, version) },
				func(b []byte, n int) ([]int, int, int, api.Errno) { return Unblocks(b, bits, version, n) },
			})
		}
	}
	return l
}

// P3.1: what is written is read as it was, whatever follows, and all its bytes are used.
func TestBack(t *testing.T) {
	for _, r := range readings() {
		for _, data := range sets(r.bits) {
			b, e := r.write(data)
			if e != api.OK {
				t.Fatalf("%s: %d", r.name, e)
			}
			for _, more := range [][]byte{nil, {0}, {255, 255, 255}} {
				got, used, missing, e := r.read(append(slices.Clone(b), more...), len(data))
				if e != api.OK || !slices.Equal(got, data) || missing != 0 || used != len(b) {
					t.Fatalf("%s of %d frames of %d bits: %d of %d bytes, %d missing, %d", r.name, len(data), r.bits, used, len(b), missing, e)
				}
			}
		}
	}
}

// P3.2: of each beginning, the frames that are there are the first ones, and the others are 0.
func TestBeginning(t *testing.T) {
	for _, r := range readings() {
		for _, data := range sets(r.bits) {
			if len(data) > 600 {
				continue
			}
			b, _ := r.write(data)
			last := 0
			for k := range b {
				got, used, missing, e := r.read(b[:k], len(data))
				there := len(data) - missing
				if e != api.OK || len(got) != len(data) || used != k || there < last || there >= len(data) {
					t.Fatalf("%s, %d of %d bytes: %d frames, %d used, %d missing, %d", r.name, k, len(b), len(got), used, missing, e)
				}
				if !slices.Equal(got[:there], data[:there]) || slices.ContainsFunc(got[there:], func(x int) bool { return x != 0 }) {
					t.Fatalf("%s, %d of %d bytes: %v of %v", r.name, k, len(b), got, data)
				}
				last = there
			}
		}
	}
}

// all calls every function and returns what they return.
func all(data []int, b []byte, table []int, bits, version, n int) []any {
	var l []any
	add := func(results ...any) { l = append(l, results...) }
	two := func(result any, e api.Errno) { add(result, e) }
	three := func(result any, missing int, e api.Errno) { add(result, missing, e) }
	written, e := Delta(data, bits)
	two(written, e)
	read, missing, e := Undelta(b, bits, n)
	three(read, missing, e)
	written, e = Blocks(data, bits, version)
	two(written, e)
	read, used, missing, e := Unblocks(b, bits, version, n)
	add(read, used, missing, e)
	made, e := Table(data)
	two(made, e)
	written, e = Nibbles(data, table)
	two(written, e)
	read, missing, e = Unnibbles(b, table, n)
	three(read, missing, e)
	return l
}

// filled returns a copy of l with more numbers behind it, in its spare capacity.
func filled[T any](l []T, more ...T) (part, whole []T) {
	whole = append(slices.Clone(l), more...)
	return whole[:len(l)], whole
}

// R4: arguments stay as they are, with what stands behind them, and results share no memory.
func TestMemory(t *testing.T) {
	data, allData := filled(noise(300, 8, 8), 77, 78, 79)
	b, allBytes := filled([]byte{3, 1, 2, 3, 4, 5, 6}, 77, 78, 79)
	table, allTable := filled([]int{5, 4, 3, 2, 1, 0, -1, -2, -3, -4, 100, 50, -50, -100, 7, 8}, 77, 78, 79)
	data0, bytes0, table0 := slices.Clone(allData), slices.Clone(allBytes), slices.Clone(allTable)
	var results []any
	for range 2 {
		for _, bits := range []int{8, 16} {
			for _, version := range []int{1, 2} {
				results = append(results, all(data, b, table, bits, version, 12)...)
			}
		}
	}
	for i, r := range results {
		switch x := r.(type) {
		case []int:
			fill(x[:cap(x)], 1000+i)
		case []byte:
			fill(x[:cap(x)], byte(i))
		}
	}
	for i, r := range results {
		switch x := r.(type) {
		case []int:
			checkFilled(t, x, 1000+i)
		case []byte:
			checkFilled(t, x, byte(i))
		}
	}
	if !slices.Equal(allData, data0) || !slices.Equal(allBytes, bytes0) || !slices.Equal(allTable, table0) {
		t.Error("an argument has changed")
	}
}

func fill[T any](l []T, x T) {
	for i := range l {
		l[i] = x
	}
}

func checkFilled[T comparable](t *testing.T, l []T, x T) {
	t.Helper()
	if slices.ContainsFunc(l, func(y T) bool { return x != y }) {
		t.Errorf("result %v shares memory with another one", x)
	}
}

// R7: the same calls give the same results, whatever was asked between them.
func TestRepeats(t *testing.T) {
	data, b, table := noise(400, 8, 8), []byte{4, 9, 8, 7, 6}, wave(16)
	first := all(data, b, table, 8, 2, 20)
	all(wave(50), []byte{1, 2}, noise(16, 8, 8), 16, 1, 9)
	if again := all(data, b, table, 8, 2, 20); !reflect.DeepEqual(first, again) {
		t.Errorf("first %v, then %v", first, again)
	}
}

// R4: a nil list is as good as an empty one.
func TestNil(t *testing.T) {
	for _, n := range []int{-1, 0, 1, 300} {
		none, empty := all(nil, nil, nil, 8, 1, n), all([]int{}, []byte{}, []int{}, 8, 1, n)
		if len(none) != len(empty) {
			t.Fatalf("%d and %d results", len(none), len(empty))
		}
		for i := range none {
			a, b := reflect.ValueOf(none[i]), reflect.ValueOf(empty[i])
			if a.Kind() == reflect.Slice && a.Len() == 0 && b.Len() == 0 {
				continue
			}
			if !reflect.DeepEqual(none[i], empty[i]) {
				t.Errorf("%d frames, result %d: %v and %v", n, i, none[i], empty[i])
			}
		}
	}
}

// R1: nothing panics or goes on for ever, whatever the numbers are.
func TestExtremes(t *testing.T) {
	numbers := append(extremes(), -1, 0, 1, 2, 8, 16, 255, 4096)
	for _, bits := range numbers {
		for _, version := range numbers {
			for _, n := range numbers {
				all(numbers, []byte{0, 255, 8, 16}, append(numbers, 0, 0)[:16], bits, version, n)
			}
		}
	}
}
