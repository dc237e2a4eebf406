package pattern

import (
	"bytes"
	"math/rand"
	"slices"
	"testing"

	"orchestrion/api"
)

type packCase struct {
	name           string
	rows, channels int
	cells          []api.Cell
	want           []byte
}

// packCases are worked out by hand.
func packCases() []packCase {
	return []packCase{
		{"the example", 1, 1, []api.Cell{cell(61, 1, 0, 0, 11, 15)}, []byte{1, 11, 61, 1, 11, 15, 0}},
		{"nothing", 3, 2, make([]api.Cell, 6), []byte{0, 0, 0}},
		{"all parts", 1, 1, []api.Cell{cell(255, 31, 12, 99, 36, 255)}, []byte{1, 15, 255, 31, 12, 99, 36, 255, 0}},
		{"one part each", 4, 1,
			[]api.Cell{cell(1, 0, 0, 0, 0, 0), cell(0, 2, 0, 0, 0, 0), cell(0, 0, 3, 0, 0, 0), cell(0, 0, 0, 0, 4, 0)},
			[]byte{1, 1, 1, 0, 1, 2, 2, 0, 1, 4, 3, 0, 0, 1, 8, 4, 0, 0}},
		{"channels in their order", 1, 16, append(append(make([]api.Cell, 14), cell(5, 0, 0, 0, 0, 0)), cell(6, 0, 0, 0, 0, 0)),
			[]byte{15, 1, 5, 16, 1, 6, 0}},
		{"each part repeated", 2, 1,
			[]api.Cell{cell(1, 2, 3, 4, 5, 6), cell(1, 2, 3, 4, 5, 6)},
			[]byte{1, 15, 1, 2, 3, 4, 5, 6, 0, 1, 240, 0}},
		{"parts are repeated one by one", 5, 1,
			[]api.Cell{cell(1, 2, 3, 4, 5, 6), cell(1, 9, 0, 0, 0, 0), cell(8, 9, 3, 4, 0, 0), cell(1, 0, 0, 0, 5, 6), cell(1, 2, 0, 0, 0, 0)},
			[]byte{1, 15, 1, 2, 3, 4, 5, 6, 0, 1, 18, 9, 0, 1, 97, 8, 0, 1, 129, 1, 0, 1, 18, 2, 0}},
		{"a part of two numbers is compared whole", 3, 1,
			[]api.Cell{cell(0, 0, 3, 4, 5, 6), cell(0, 0, 3, 5, 4, 6), cell(0, 0, 4, 5, 4, 6)},
			[]byte{1, 12, 3, 4, 5, 6, 0, 1, 12, 3, 5, 4, 6, 0, 1, 132, 4, 5, 0}},
		{"over an empty row", 3, 1,
			[]api.Cell{cell(1, 0, 0, 0, 0, 0), {}, cell(1, 0, 0, 0, 0, 0)},
			[]byte{1, 1, 1, 0, 0, 1, 16, 0}},
		{"over cells without the part", 3, 1,
			[]api.Cell{cell(1, 0, 0, 0, 0, 0), cell(0, 7, 0, 0, 0, 0), cell(1, 7, 0, 0, 0, 0)},
			[]byte{1, 1, 1, 0, 1, 2, 7, 0, 1, 48, 0}},
		{"over a repeated one", 4, 1,
			[]api.Cell{cell(1, 0, 0, 0, 0, 0), cell(1, 0, 0, 0, 0, 0), cell(2, 0, 0, 0, 0, 0), cell(1, 0, 0, 0, 0, 0)},
			[]byte{1, 1, 1, 0, 1, 16, 0, 1, 1, 2, 0, 1, 1, 1, 0}},
		{"each channel by itself", 2, 2,
			[]api.Cell{cell(1, 0, 0, 0, 0, 0), cell(1, 2, 0, 0, 0, 0), cell(0, 2, 0, 0, 0, 0), cell(1, 0, 0, 0, 0, 0)},
			[]byte{1, 1, 1, 2, 3, 1, 2, 0, 1, 2, 2, 2, 16, 0}},
	}
}

// Promise 5.4: Pack and Unpack.
func TestPack(t *testing.T) {
	for _, c := range packCases() {
		p := api.Pattern{Rows: c.rows, Cells: c.cells}
		if b, e := Pack(p, c.channels); e != api.OK || !bytes.Equal(b, c.want) {
			t.Errorf("%s: %v, %d, want %v", c.name, b, e, c.want)
		}
		got, used, e := Unpack(c.want, c.rows, c.channels)
		checkPattern(t, c.name, got, e, p)
		if used != len(c.want) {
			t.Errorf("%s: %d bytes used", c.name, used)
		}
	}
}

// P5.1 and Pack by the chapter's words: each beginning of what Pack wrote ends too early, and whatever follows is not asked.
func TestPackAndUnpack(t *testing.T) {
	patterns, channels := drawings(80)
	for i, p := range patterns {
		b, e := Pack(p, channels[i])
		if want := packed(p, channels[i]); e != api.OK || !bytes.Equal(b, want) {
			t.Fatalf("pattern %d: %v, %d, want %v", i, b, e, want)
		}
		for _, more := range [][]byte{nil, {0}, {1, 15, 61}, {255, 255}, make([]byte, api.MaxBytes-len(b))} {
			got, used, e := Unpack(append(slices.Clone(b), more...), p.Rows, channels[i])
			checkPattern(t, "unpacked", got, e, p)
			if used != len(b) {
				t.Fatalf("pattern %d: %d of %d bytes used", i, used, len(b))
			}
		}
		for n := 0; n < len(b); n += 1 + n/20 {
			got, used, e := Unpack(b[:n], p.Rows, channels[i])
			checkError(t, "a beginning", got, e, api.ErrTruncated)
			if used != 0 {
				t.Fatalf("%d bytes of a beginning used", used)
			}
		}
	}
}

// packed packs a pattern by the chapter's words, part by part, with the last parts in a map.
func packed(p api.Pattern, channels int) (b []byte) {
	type place struct{ channel, part int }
	last := map[place][2]int{}
	for row := range p.Rows {
		for channel := range channels {
			c := p.Cells[row*channels+channel]
			var mask byte
			var more []byte
			for i, v := range [][2]int{{c.Note}, {c.Inst}, {c.VolCmd, c.VolArg}, {c.Effect, c.Param}} {
				at := place{channel, i}
				if v[0] == 0 {
					continue
				}
				if last[at] == v {
					mask |= []byte{16, 32, 64, 128}[i]
					continue
				}
				last[at] = v
				mask |= []byte{1, 2, 4, 8}[i]
				more = append(more, byte(v[0]))
				if i >= 2 {
					more = append(more, byte(v[1]))
				}
			}
			if mask != 0 {
				b = append(append(b, byte(channel+1), mask), more...)
			}
		}
		b = append(b, 0)
	}
	return b
}

// Promise 5.4: parts that could be repeated may be written.
func TestUnpackWritten(t *testing.T) {
	b := []byte{1, 3, 61, 1, 0, 1, 3, 61, 1, 0, 1, 33, 61, 0, 9}
	c := cell(61, 1, 0, 0, 0, 0)
	got, used, e := Unpack(b, 3, 1)
	checkPattern(t, "written again", got, e, api.Pattern{Rows: 3, Cells: []api.Cell{c, c, c}})
	if used != 14 {
		t.Errorf("%d bytes used", used)
	}
	again, _ := Pack(got, 1)
	if want := []byte{1, 3, 61, 1, 0, 1, 48, 0, 1, 48, 0}; !bytes.Equal(again, want) {
		t.Errorf("%v", again)
	}
	// what was written once more is the last one from then on
	got, _, e = Unpack([]byte{1, 1, 5, 0, 1, 1, 6, 0, 1, 16, 0}, 3, 1)
	checkPattern(t, "the last one", got, e, api.Pattern{Rows: 3, Cells: []api.Cell{{Note: 5}, {Note: 6}, {Note: 6}}})
}

// Promise 5.4 and Details: the first wrong or missing byte decides.
func TestUnpackErrors(t *testing.T) {
	for _, c := range []struct {
		b    []byte
		want api.Errno
	}{
		{nil, api.ErrTruncated},
		{[]byte{0}, api.ErrTruncated},
		{[]byte{0, 0}, api.OK},
		{[]byte{1}, api.ErrTruncated},
		{[]byte{3}, api.ErrData},
		{[]byte{255}, api.ErrData},
		{[]byte{2, 1, 5, 1}, api.ErrData},
		{[]byte{2, 1, 5, 2}, api.ErrData},
		{[]byte{1, 1, 5, 1, 1, 5, 0, 0}, api.ErrData},
		{[]byte{1, 1, 5, 2, 1, 5, 0, 0}, api.OK},
		{[]byte{1, 1, 5, 2, 1, 5, 3}, api.ErrData},
		{[]byte{2, 1, 5, 0, 1, 1, 5, 0}, api.OK},
		{[]byte{1, 0}, api.ErrData},
		{[]byte{1, 0, 0, 0}, api.ErrData},
		{[]byte{1, 17}, api.ErrData},
		{[]byte{1, 16}, api.ErrData},
		{[]byte{1, 32}, api.ErrData},
		{[]byte{1, 64}, api.ErrData},
		{[]byte{1, 128}, api.ErrData},
		{[]byte{1, 129}, api.ErrData},
		{[]byte{1, 1, 5, 0, 1, 17}, api.ErrData},
		{[]byte{1, 1, 5, 0, 1, 32}, api.ErrData},
		{[]byte{1, 1, 5, 0, 1, 16, 0}, api.OK},
		{[]byte{1, 1, 5, 0, 2, 16}, api.ErrData},
		{[]byte{1, 15, 1, 1, 1, 1, 1, 1, 0, 1, 240, 0}, api.OK},
		{[]byte{1, 15, 1, 1, 1, 1, 1, 1, 0, 1, 255}, api.ErrData},
		{[]byte{1, 15, 1, 1, 1, 1, 1, 1, 0, 1, 34}, api.ErrData},
		{[]byte{1, 15, 1, 1, 1, 1, 1, 1, 0, 1, 68}, api.ErrData},
		{[]byte{1, 15, 1, 1, 1, 1, 1, 1, 0, 1, 136}, api.ErrData},
		{[]byte{1, 1}, api.ErrTruncated},
		{[]byte{1, 1, 0}, api.ErrData},
		{[]byte{1, 2, 0}, api.ErrData},
		{[]byte{1, 4, 0}, api.ErrData},
		{[]byte{1, 8, 0}, api.ErrData},
		{[]byte{1, 4, 1}, api.ErrTruncated},
		{[]byte{1, 8, 1}, api.ErrTruncated},
		{[]byte{1, 4, 1, 0}, api.ErrTruncated},
		{[]byte{1, 4, 1, 0, 0, 0}, api.OK},
		{[]byte{1, 1, 120, 0, 0}, api.OK},
		{[]byte{1, 1, 121}, api.ErrData},
		{[]byte{1, 1, 252}, api.ErrData},
		{[]byte{1, 1, 253, 0, 0}, api.OK},
		{[]byte{1, 2, 31, 0, 0}, api.OK},
		{[]byte{1, 2, 32}, api.ErrData},
		{[]byte{1, 4, 12, 99, 0, 0}, api.OK},
		{[]byte{1, 4, 13, 0}, api.ErrData},
		{[]byte{1, 4, 1, 100}, api.ErrData},
		{[]byte{1, 8, 36, 255, 0, 0}, api.OK},
		{[]byte{1, 8, 37, 0}, api.ErrData},
		// a cell is asked when it is whole, a part's first number at once
		{[]byte{1, 3, 121}, api.ErrTruncated},
		{[]byte{1, 3, 121, 0}, api.ErrData},
		{[]byte{1, 3, 121, 1}, api.ErrData},
		{[]byte{1, 4, 13}, api.ErrTruncated},
		{[]byte{1, 15, 121, 32, 13, 100, 37}, api.ErrTruncated},
		{[]byte{1, 15, 121, 32, 13, 100, 37, 0}, api.ErrData},
		{[]byte{1, 1, 5}, api.ErrTruncated},
		{[]byte{0, 3}, api.ErrData},
		{[]byte{0, 1, 1, 5}, api.ErrTruncated},
	} {
		got, used, e := Unpack(c.b, 2, 2)
		if e != c.want || e != api.OK && (!none(got) || used != 0) || e == api.OK && used != len(c.b) {
			t.Errorf("%v: %v, %d, %d, want %d", c.b, got, used, e, c.want)
		}
	}
}

// Section Functions and R2: channels, then rows, then too many bytes, then the bytes.
func TestUnpackArguments(t *testing.T) {
	long := make([]byte, api.MaxBytes+1)
	for _, b := range [][]byte{nil, {0}, {9}, long} {
		for _, n := range append(extremes(), -1, 0, 65) {
			for _, channels := range append(extremes(), -1, 0, 17) {
				got, used, e := Unpack(b, n, channels)
				checkError(t, "channels", got, e, api.ErrInvalid)
				if used != 0 {
					t.Error("bytes used")
				}
			}
			got, used, e := Unpack(b, n, 16)
			checkError(t, "rows", got, e, api.ErrRange)
			if used != 0 {
				t.Error("bytes used")
			}
		}
	}
	got, used, e := Unpack(long, 1, 1)
	checkError(t, "long", got, e, api.ErrLong)
	long[0] = 9
	got, _, e = Unpack(long, 1, 1)
	checkError(t, "long and wrong", got, e, api.ErrLong)
	if used != 0 {
		t.Error("bytes used")
	}
	got, used, e = Unpack(make([]byte, api.MaxBytes), 64, 16)
	checkPattern(t, "just not too long", got, e, api.Pattern{Rows: 64, Cells: make([]api.Cell, 1024)})
	if used != 64 {
		t.Errorf("%d bytes used", used)
	}
}

// unpacked reads bytes by the chapter's words, in one long walk.
func unpacked(b []byte, rows, channels int) (api.Pattern, int, api.Errno) {
	p := api.Pattern{Rows: rows, Cells: make([]api.Cell, rows*channels)}
	var notes, insts, vols, args, effects, params [17]int
	at := 0
	for row := 0; row < rows; row++ {
		for before := 0; ; {
			if at == len(b) {
				return api.Pattern{}, 0, api.ErrTruncated
			}
			channel := int(b[at])
			at++
			if channel == 0 {
				break
			}
			if channel > channels || channel <= before {
				return api.Pattern{}, 0, api.ErrData
			}
			before = channel
			if at == len(b) {
				return api.Pattern{}, 0, api.ErrTruncated
			}
			mask := b[at]
			at++
			if mask == 0 || mask&15&(mask>>4) != 0 ||
				mask&16 != 0 && notes[channel] == 0 || mask&32 != 0 && insts[channel] == 0 ||
				mask&64 != 0 && vols[channel] == 0 || mask&128 != 0 && effects[channel] == 0 {
				return api.Pattern{}, 0, api.ErrData
			}
			for i, list := range []*[17]int{&notes, &insts, &vols, &args, &effects, &params} {
				bit, first := []byte{1, 2, 4, 4, 8, 8}[i], i != 3 && i != 5
				if mask&bit == 0 {
					continue
				}
				if at == len(b) {
					return api.Pattern{}, 0, api.ErrTruncated
				}
				if first && b[at] == 0 {
					return api.Pattern{}, 0, api.ErrData
				}
				list[channel] = int(b[at])
				at++
			}
			var c api.Cell
			if mask&17 != 0 {
				c.Note = notes[channel]
			}
			if mask&34 != 0 {
				c.Inst = insts[channel]
			}
			if mask&68 != 0 {
				c.VolCmd, c.VolArg = vols[channel], args[channel]
			}
			if mask&136 != 0 {
				c.Effect, c.Param = effects[channel], params[channel]
			}
			if c.Note > 120 && c.Note < 253 || c.Inst > 31 || c.VolCmd > 12 || c.VolArg > 99 || c.Effect > 36 {
				return api.Pattern{}, 0, api.ErrData
			}
			p.Cells[row*channels+channel-1] = c
		}
	}
	return p, at, api.OK
}

// checkUnpack holds Unpack against the chapter's words, and asks P5.2 of what it accepts.
func checkUnpack(t *testing.T, b []byte, rows, channels int) api.Errno {
	t.Helper()
	want, wantUsed, wantE := unpacked(b, rows, channels)
	got, used, e := Unpack(b, rows, channels)
	if e != wantE || used != wantUsed || !same(got, want) {
		t.Fatalf("%v: %v, %d, %d, want %v, %d, %d", b, got, used, e, want, wantUsed, wantE)
	}
	if e != api.OK {
		return e
	}
	again, e := Pack(got, channels)
	if e != api.OK || len(again) > used {
		t.Fatalf("%v: packed %v, %d", b, again, e)
	}
	back, _, e := Unpack(again, rows, channels)
	checkPattern(t, "packed again", back, e, got)
	return api.OK
}

// P5.2 and promise 5.4: all short lists of some bytes.
func TestUnpackShort(t *testing.T) {
	kinds := []byte{0, 1, 2, 3, 4, 16, 17, 20, 121}
	count := map[api.Errno]int{}
	var b []byte
	var all func(left int)
	all = func(left int) {
		count[checkUnpack(t, b, 2, 2)]++
		if left == 0 {
			return
		}
		for _, x := range kinds {
			b = append(b, x)
			all(left - 1)
			b = b[:len(b)-1]
		}
	}
	all(6)
	for _, e := range []api.Errno{api.OK, api.ErrData, api.ErrTruncated} {
		if count[e] < 1000 {
			t.Errorf("error %d: %d times", e, count[e])
		}
	}
}

// P5.2 and promise 5.4: patterns that were packed and then damaged.
func TestUnpackDamaged(t *testing.T) {
	r := rand.New(rand.NewSource(2))
	count := map[api.Errno]int{}
	for i := range 6000 {
		rows, channels := 1+r.Intn(6), 1+r.Intn(4)
		b, e := Pack(drawn(r, rows, channels, []int{2, 4, 300}[i%3]), channels)
		if e != api.OK {
			t.Fatal(e)
		}
		for range r.Intn(3) {
			if at := r.Intn(len(b)); r.Intn(2) > 0 {
				b[at] = byte(r.Intn(40))
			} else {
				b[at] ^= 1 << r.Intn(8)
			}
		}
		count[checkUnpack(t, b[:len(b)-r.Intn(2)*r.Intn(len(b))], rows, channels)]++
	}
	for _, e := range []api.Errno{api.OK, api.ErrData, api.ErrTruncated} {
		if count[e] < 500 {
			t.Errorf("error %d: %d times", e, count[e])
		}
	}
}

// R4: the bytes stay as they are, and the results have memory of their own.
func TestUnpackMemory(t *testing.T) {
	p, _ := Blank(2, 2)
	p.Cells[3] = cell(61, 1, 2, 3, 4, 5)
	b, _ := Pack(p, 2)
	before := slices.Clone(b)
	one, _, _ := Unpack(b, 2, 2)
	two, _, _ := Unpack(b, 2, 2)
	spoil(one)
	if !bytes.Equal(b, before) || !same(two, p) {
		t.Error("memory is shared")
	}
}
