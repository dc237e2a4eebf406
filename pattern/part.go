package pattern

import "orchestrion/api"

// value is what a part of a cell holds: a number, or a command and its number.
type value [2]int

func (v value) set() bool { return v[0] != 0 }

// part is one of a cell's four parts: how many numbers it has, how many characters its text has, where it stands in a cell, and its text where it is set.
type part struct {
	numbers, width int
	get            func(c api.Cell) value
	put            func(c *api.Cell, v value)
	write          func(v value) string
	read           func(text string) value
}

// parts returns a cell's parts in their order.
func parts() [4]part {
	return [4]part{
		{
			numbers: 1, width: 3,
			get:   func(c api.Cell) value { return value{c.Note} },
			put:   func(c *api.Cell, v value) { c.Note = v[0] },
			write: writeNote, read: readNote,
		},
		{
			numbers: 1, width: 2,
			get:   func(c api.Cell) value { return value{c.Inst} },
			put:   func(c *api.Cell, v value) { c.Inst = v[0] },
			write: writeInst, read: readInst,
		},
		{
			numbers: 2, width: 3,
			get:   func(c api.Cell) value { return value{c.VolCmd, c.VolArg} },
			put:   func(c *api.Cell, v value) { c.VolCmd, c.VolArg = v[0], v[1] },
			write: writeVolume, read: readVolume,
		},
		{
			numbers: 2, width: 3,
			get:   func(c api.Cell) value { return value{c.Effect, c.Param} },
			put:   func(c *api.Cell, v value) { c.Effect, c.Param = v[0], v[1] },
			write: writeEffect, read: readEffect,
		},
	}
}

// demand leaves the reading with an error if what it asks is not so.
func demand(so bool, e api.Errno) {
	if !so {
		panic(e)
	}
}

// outcome reads, and returns the error with which the reading was left, or OK.
func outcome(read func()) (e api.Errno) {
	defer func() {
		if left, ok := recover().(api.Errno); ok {
			e = left
		}
	}()
	read()
	return api.OK
}
