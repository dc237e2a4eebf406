package dialect

import "orchestrion/api"

// quirks are those of the dialects, in their order.
var quirks = [...]api.Quirks{
	{
		Name: "four", Channels: 4, Patterns: 32, Rows: 64, Low: 49, High: 84,
		Pitch: 1, MinPeriod: 453, MaxPeriod: 3424, VibShift: 5,
		BothUp: true, JumpBreak: 1, LoopEach: true, DelayRule: 1, SpeedStops: true, CutZero: true,
	},
	{
		Name: "scream", Channels: 16, Patterns: 32, Rows: 64, Low: 13, High: 108,
		VolColumn: true, Pitch: 1, MinPeriod: 64, MaxPeriod: 32767, VibShift: 5,
	},
	{
		Name: "fast", Channels: 16, Patterns: 32, Low: 1, High: 96,
		Insts: true, VolColumn: true, Linear: true, MinPeriod: 32, MaxPeriod: 65535, ArpDown: true, VibShift: 6,
		BothUp: true, LoopEach: true, LoopBug: true, DelayRule: 1, Carry: true,
		OffsetSilent: true, CutZero: true, RetrigZero: true, ToneKeeps: true,
	},
	{
		Name: "impulse", Channels: 16, Patterns: 32, Low: 1, High: 120,
		Insts: true, VolColumn: true, Linear: true, MinPeriod: 16, MaxPeriod: 65535, VibZero: true, VibShift: 6,
		LoopEach: true, DelayRule: 2, Carry: true, ToneKeeps: true,
	},
	{
		Name: "compose", Channels: 8, Patterns: 32, Rows: 64, Low: 13, High: 72,
		Pitch: 2, SlideZero: true, VibShift: 5, JumpBreak: 2, Sticky: true,
	},
	{
		Name: "chip", Channels: 4, Patterns: 32, Low: 13, High: 108,
		Insts: true, Pitch: 1, MinPeriod: 16, MaxPeriod: 65535, VolZero: true, VibShift: 5,
		BothUp: true, JumpBreak: 2, Carry: true, ToneKeeps: true,
	},
}

// offer is what a dialect's cells may have besides its notes: the characters of its effects, so many volume commands, and NoteOff, NoteCut and NoteFade.
type offer struct {
	letters        string
	volumes        int
	off, cut, fade bool
}

// offers are those of the dialects, in their order. They repeat which commands the dialects' maps have, since each cell of a song is asked for its validity, and making a map for each would take too long.
var offers = [...]offer{
	{letters: "0123456789ABCDEF"},
	{letters: "ABCDEFGHIJKLOQRSTUVX", volumes: 1, cut: true},
	{letters: "0123456789ABCDEFGHKLPRTX", volumes: 8, off: true},
	{letters: "ABCDEFGHIJKLMNOPQRSTUVWXYZ", volumes: 10, off: true, cut: true, fade: true},
	{letters: "012345"},
	{letters: "01234ABCDEFNS", off: true},
}
