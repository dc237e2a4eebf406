package pack

import (
	"slices"
	"testing"

	"orchestrion/api"
)

// ascending returns the table of the numbers from the first one on.
func ascending(first int) []int {
	l := make([]int, 16)
	for i := range l {
		l[i] = first + i
	}
	return l
}

// path returns frames whose wrapped differences are those given.
func path(differences ...int) []int {
	var l []int
	var p int8
	for _, d := range differences {
		p += int8(d)
		l = append(l, int(p))
	}
	return l
}

// Promise 3.3: tables worked out by hand.
func TestTable(t *testing.T) {
	all := slices.Repeat([]int{-128}, 2)
	for d := 15; d > 0; d-- {
		all = append(all, 5*d, 5*d)
	}
	ties := []int{100, -100, 100, -100}
	for d := range 15 {
		ties = append(ties, 3*d, 3*d, 3*d)
	}
	for i, c := range []struct{ data, want []int }{
		{nil, ascending(-7)},
		{[]int{0, 0, 0}, ascending(-7)},
		{[]int{8}, ascending(-7)},
		{[]int{-8}, []int{-8, -7, -6, -5, -4, -3, -2, -1, 0, 1, 2, 3, 4, 5, 6, 7}},
		{[]int{100}, []int{-7, -6, -5, -4, -3, -2, -1, 0, 1, 2, 3, 4, 5, 6, 7, 100}},
		{[]int{-128}, []int{-128, -7, -6, -5, -4, -3, -2, -1, 0, 1, 2, 3, 4, 5, 6, 7}},
		{[]int{100, -100}, []int{-6, -5, -4, -3, -2, -1, 0, 1, 2, 3, 4, 5, 6, 7, 56, 100}},
		{path(127, -127), []int{-127, -6, -5, -4, -3, -2, -1, 0, 1, 2, 3, 4, 5, 6, 7, 127}},
		{path(all...), []int{-128, 5, 10, 15, 20, 25, 30, 35, 40, 45, 50, 55, 60, 65, 70, 75}},
		// 100 and -100 occur as often as each other and are as near to 0: the positive one
		{path(ties...), []int{0, 3, 6, 9, 12, 15, 18, 21, 24, 27, 30, 33, 36, 39, 42, 100}},
		// those that occur thrice before those nearer to 0
		{path(append(all, 90, 90, 90)...), []int{5, 10, 15, 20, 25, 30, 35, 40, 45, 50, 55, 60, 65, 70, 75, 90}},
	} {
		if got, e := Table(c.data); e != api.OK || !slices.Equal(got, c.want) {
			t.Errorf("case %d: %v, %d, want %v", i, got, e, c.want)
		}
	}
}

// better reports whether the chapter takes x into a table before y.
func better(counts map[int]int, x, y int) bool {
	if counts[x] != counts[y] {
		return counts[x] > counts[y]
	}
	if x*x != y*y {
		return x*x < y*y
	}
	return x > y
}

// chosen returns the table by the chapter's words: sixteen times the best difference that is not taken yet.
func chosen(data []int) []int {
	counts := map[int]int{}
	last := 0
	for _, x := range data {
		counts[int(int8(x-last))]++
		last = x
	}
	var table []int
	for range 16 {
		best := 999
		for d := -128; d <= 127; d++ {
			if !slices.Contains(table, d) && (best == 999 || better(counts, d, best)) {
				best = d
			}
		}
		table = append(table, best)
	}
	slices.Sort(table)
	return table
}

// Promise 3.3: more tables.
func TestTableChosen(t *testing.T) {
	for spread := 1; spread <= 8; spread++ {
		for _, n := range []int{1, 2, 5, 12, 20, 40, 100, 1000, api.MaxFrames} {
			data := noise(n, 8, spread)
			if got, e := Table(data); e != api.OK || !slices.Equal(got, chosen(data)) {
				t.Fatalf("%d frames of %d bits: %v, %d, want %v", n, spread, got, e, chosen(data))
			}
		}
	}
}

// Promise 3.3: what is written with a table, worked out by hand.
func TestNibbles(t *testing.T) {
	near := ascending(-7)
	same := make([]int, 16)
	twice := []int{3, 3, 1, 1, 0, 0, 0, 0, 0, 0, 0, 0, 0, 0, 0, -2}
	far := []int{-128, -100, -64, -32, -16, -8, -4, -1, 0, 2, 5, 12, 30, 60, 90, 127}
	for i, c := range []struct {
		data, table []int
		want        []byte
	}{
		{nil, near, nil},
		{[]int{0}, near, []byte{7}},
		{[]int{8, 1}, near, []byte{0x0f}},
		{[]int{1, 2, 3}, near, []byte{0x88, 8}},
		{[]int{100, 100}, near, []byte{0xff}},
		{[]int{-100, -7}, near, []byte{0x70}},
		{[]int{1, -1}, same, []byte{0}},
		{[]int{3, 4, 2, 2}, twice, []byte{0x20, 0x4f}},
		// two as near as each other: the first one
		{[]int{2}, []int{1, 3, 0, 0, 0, 0, 0, 0, 0, 0, 0, 0, 0, 0, 0, 0}, []byte{0}},
		{[]int{2}, []int{3, 1, 0, 0, 0, 0, 0, 0, 0, 0, 0, 0, 0, 0, 0, 0}, []byte{0}},
		{[]int{1, 1}, []int{0, 0, 2, 2, 1, 1, 5, 5, 5, 5, 5, 5, 5, 5, 5, 5}, []byte{0x04}},
		// the way goes on from where it is, not from the frame that was meant
		{[]int{20, 20, 20}, near, []byte{0xff, 11}},
		// it wraps, and the distance does not
		{[]int{127, -128}, far, []byte{0x9f}},
		{[]int{-128, 127}, far, []byte{0x70}},
		{[]int{90, -128}, far, []byte{0xde}},
	} {
		got, e := Nibbles(c.data, c.table)
		checkBytes(t, "Nibbles", got, e, c.want)
		if t.Failed() {
			t.Fatalf("case %d", i)
		}
	}
}

// led writes nibbles by the chapter's words, with Go's own bytes that wrap, and tells where they lead.
func led(data, table []int) (out []byte, frames []int) {
	var p int8
	for i, x := range data {
		var offs []int
		for _, d := range table {
			off := int(p+int8(d)) - x
			offs = append(offs, max(off, -off))
		}
		j := slices.Index(offs, slices.Min(offs))
		p += int8(table[j])
		frames = append(frames, int(p))
		if i%2 == 0 {
			out = append(out, byte(j))
		} else {
			out[i/2] += byte(16 * j)
		}
	}
	return out, frames
}

// tables returns tables: of data, in other orders, with numbers more than once, of the greatest numbers.
func tables() [][]int {
	descending := ascending(-8)
	slices.Reverse(descending)
	return [][]int{
		ascending(-7), ascending(0), ascending(-128), ascending(112), descending, make([]int, 16), run(16, -128), run(16, 127),
		noise(16, 8, 8), noise(16, 8, 4), noise(16, 8, 2), chosen(wave(300)), chosen(noise(3000, 8, 8)),
	}
}

// Promise 3.3: more data with more tables, and what is read of it.
func TestNibblesLed(t *testing.T) {
	for _, table := range tables() {
		for _, data := range sets(8) {
			want, frames := led(data, table)
			got, e := Nibbles(data, table)
			checkBytes(t, "Nibbles", got, e, want)
			back, missing, e := Unnibbles(got, table, len(data))
			if e != api.OK || missing != 0 || !slices.Equal(back, frames) {
				t.Fatalf("table %v: %v, %d, %d, want %v", table, back, missing, e, frames)
			}
		}
	}
}

// Promise 3.3: what is read, and what is missing.
func TestUnnibbles(t *testing.T) {
	near := ascending(-7)
	for i, c := range []struct {
		b       []byte
		table   []int
		n       int
		want    []int
		missing int
	}{
		{[]byte{0x88, 8}, near, 3, []int{1, 2, 3}, 0},
		{[]byte{0x88, 8}, near, 4, []int{1, 2, 3, -4}, 0},
		{[]byte{0x88, 8}, near, 2, []int{1, 2}, 0},
		{[]byte{0x88, 0xf8}, near, 3, []int{1, 2, 3}, 0},
		{[]byte{0x88, 8}, near, 1, []int{1}, 0},
		{[]byte{0x88, 8}, near, 0, nil, 0},
		{[]byte{0x88, 8}, near, 7, []int{1, 2, 3, -4, 0, 0, 0}, 3},
		{nil, near, 0, nil, 0},
		{nil, near, 3, []int{0, 0, 0}, 3},
		{[]byte{0xf0}, near, 3, []int{-7, 1, 0}, 1},
		{[]byte{0x00, 0x10}, ascending(-128), 4, []int{-128, 0, -128, 1}, 0},
		{[]byte{0xff, 0xff}, ascending(112), 4, []int{127, -2, 125, -4}, 0},
	} {
		got, missing, e := Unnibbles(c.b, c.table, c.n)
		if e != api.OK || missing != c.missing || !slices.Equal(got, c.want) {
			t.Errorf("case %d: %v, %d, %d, want %v, %d", i, got, missing, e, c.want, c.missing)
		}
	}
}

// P3.3: where the table has all differences, the data comes back.
func TestExact(t *testing.T) {
	for _, table := range tables() {
		for _, n := range []int{0, 1, 2, 15, 16, 17, 500, api.MaxFrames} {
			var l []int
			for _, x := range noise(n, 8, 8) {
				l = append(l, table[x&15])
			}
			checkExact(t, path(l...), table)
		}
	}
	for _, data := range [][]int{wave(700), {-128, 127, -128, 0}, run(300, 5), path(ascending(-64)...)} {
		table, _ := Table(data)
		checkExact(t, data, table)
	}
}

func checkExact(t *testing.T, data, table []int) {
	t.Helper()
	b, e := Nibbles(data, table)
	if e != api.OK {
		t.Fatalf("Nibbles: %d", e)
	}
	got, missing, e := Unnibbles(b, table, len(data))
	if e != api.OK || missing != 0 || !slices.Equal(got, data) {
		t.Errorf("table %v: %v, want %v", table, got, data)
	}
}

// P3.4: data that was read is written and read as itself.
func TestStill(t *testing.T) {
	for _, table := range tables() {
		for _, l := range sets(8) {
			b := make([]byte, len(l))
			for i, x := range l {
				b[i] = byte(x)
			}
			data, missing, e := Unnibbles(b, table, min(2*len(b), api.MaxFrames))
			if e != api.OK || missing != 0 {
				t.Fatalf("Unnibbles: %d missing, %d", missing, e)
			}
			checkExact(t, data, table)
		}
	}
}
