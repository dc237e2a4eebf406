package pack

import (
	"cmp"
	"slices"

	"orchestrion/api"
)

const (
	tableSize  = 16 // differences of a table: as many as half a byte can name
	nibbleBits = 8  // bits of the frames that are written with a table
)

// Table returns 16 differences for data of 8 bits, in ascending order: those that occur most often, and then those nearest to 0.
func Table(data []int) ([]int, api.Errno) {
	if e := askData(data, nibbleBits); e != api.OK {
		return nil, e
	}
	counts := countDifferences(data)
	var all []int
	for d := range counts {
		all = append(all, wrap(d, nibbleBits))
	}
	slices.SortFunc(all, func(a, b int) int {
		return cmp.Or(
			counts[byte(b)]-counts[byte(a)],
			max(a, -a)-max(b, -b),
			b-a,
		)
	})
	table := make([]int, tableSize)
	copy(table, all)
	slices.Sort(table)
	return table, api.OK
}

// countDifferences returns how often each wrapped difference occurs, by the difference as a byte.
func countDifferences(data []int) [1 << nibbleBits]int {
	var counts [1 << nibbleBits]int
	difference := differences(nibbleBits)
	for _, x := range data {
		counts[byte(difference(x))]++
	}
	return counts
}

// Nibbles writes data of 8 bits with a table: for each frame half a byte, the index of the difference that leads nearest to it.
func Nibbles(data, table []int) ([]byte, api.Errno) {
	if !validTable(table) {
		return nil, api.ErrInvalid
	}
	if e := askData(data, nibbleBits); e != api.OK {
		return nil, e
	}
	out := make([]byte, (len(data)+1)/2)
	p := 0
	for i, x := range data {
		j := nearest(table, p, x)
		p = wrap(p+table[j], nibbleBits)
		out[i/2] |= byte(j << (i % 2 * 4))
	}
	return out, api.OK
}

// nearest returns the least index of a table that leads from p as near to x as any.
func nearest(table []int, p, x int) int {
	best, least := 0, 1<<nibbleBits
	for j, d := range table {
		off := wrap(p+d, nibbleBits) - x
		if off = max(off, -off); off < least {
			best, least = j, off
		}
	}
	return best
}

// Unnibbles reads n frames back. Frames without a byte are 0, and missing is how many they are.
func Unnibbles(b []byte, table []int, n int) (data []int, missing int, e api.Errno) {
	if !validTable(table) {
		return nil, 0, api.ErrInvalid
	}
	if e := askBytes(b, n); e != api.OK {
		return nil, 0, e
	}
	data = make([]int, n)
	whole := min(n, 2*len(b))
	sum := sums(nibbleBits)
	for i := range whole {
		j := b[i/2] >> (i % 2 * 4) & 15
		data[i] = sum(table[j])
	}
	return data, n - whole, api.OK
}

func validTable(table []int) bool {
	return len(table) == tableSize && allWithin(table, nibbleBits)
}
