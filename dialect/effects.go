package dialect

import (
	"strings"

	"orchestrion/api"
)

// effects returns a dialect's effects by their characters.
func effects(d int) commands {
	switch d {
	case api.DFour:
		return four()
	case api.DScream:
		return scream()
	case api.DFast:
		return fast()
	case api.DImpulse:
		return impulse()
	case api.DCompose:
		return compose()
	case api.DChip:
		return chip()
	}
	return nil
}

func four() commands {
	return commands{
		'0': below(1, nothing, byDigits(api.OpArp)),
		'1': byParam(api.OpUp),
		'2': byParam(api.OpDown),
		'3': whole(1, byParam(api.OpTone)),
		'4': halves(2, byDigits(api.OpVibrato)),
		'5': withTone(1, byDigits(api.OpVolSlide)),
		'6': withVibrato(2, byDigits(api.OpVolSlide)),
		'7': halves(3, byDigits(api.OpTremolo)),
		'8': pan,
		'9': whole(4, offset),
		'A': byDigits(api.OpVolSlide),
		'B': byParam(api.OpJump),
		'C': volume,
		'D': decimalBreak,
		'E': byHigh(fourDigits),
		'F': below(32, byParam(api.OpSpeed), byParam(api.OpTempo)),
	}
}

func fourDigits() commands {
	return commands{
		1:  byLow(api.OpFineUp),
		2:  byLow(api.OpFineDown),
		3:  gliss,
		4:  wave(api.OpVibWave),
		5:  fourFinetune,
		6:  byLow(api.OpLoop),
		7:  wave(api.OpTremWave),
		8:  panByLow,
		9:  byLow(api.OpRetrig),
		10: byLow(api.OpVolUp),
		11: byLow(api.OpVolDown),
		12: byLow(api.OpCut),
		13: byLow(api.OpDelay),
		14: byLow(api.OpRowDelay),
	}
}

// fourFinetune reads the low digit as a number of four bits with a sign.
func fourFinetune(w *work) {
	n := w.l
	if n >= 8 {
		n -= 16
	}
	w.ask(api.OpFinetune, 8*n, 0)
}

// fast is as four, but more of its effects remember, and there are more.
func fast() commands {
	all := four()
	for char, k := range map[int]int{'1': 5, '2': 6, '5': 7, '6': 7, 'A': 7} {
		all[char] = whole(k, all[char])
	}
	all['E'] = byHigh(fastDigits)
	all['G'] = global
	all['H'] = whole(12, byDigits(api.OpGlobalSlide))
	all['K'] = byParam(api.OpKeyOff)
	all['L'] = byParam(api.OpEnvPos)
	all['P'] = whole(13, byDigits(api.OpPanSlide))
	all['R'] = halves(14, byTurned(api.OpRetrig))
	all['T'] = whole(15, tremor)
	all['X'] = byHigh(extraDigits)
	return all
}

func fastDigits() commands {
	all := fourDigits()
	for digit, k := range map[int]int{1: 8, 2: 9, 10: 10, 11: 11} {
		all[digit] = low(k, all[digit])
	}
	return all
}

func extraDigits() commands {
	return commands{
		1: low(16, byLow(api.OpExtraUp)),
		2: low(17, byLow(api.OpExtraDown)),
	}
}

func scream() commands {
	return commands{
		'A': below(1, nothing, byParam(api.OpSpeed)),
		'B': byParam(api.OpJump),
		'C': decimalBreak,
		'D': whole(1, volSlide),
		'E': whole(1, slides(api.OpDown, api.OpExtraDown, api.OpFineDown)),
		'F': whole(1, slides(api.OpUp, api.OpExtraUp, api.OpFineUp)),
		'G': whole(2, byParam(api.OpTone)),
		'H': halves(3, byDigits(api.OpVibrato)),
		'I': whole(1, tremor),
		'J': whole(1, byDigits(api.OpArp)),
		'K': whole(1, withVibrato(3, volSlide)),
		'L': whole(1, withTone(2, volSlide)),
		'O': whole(4, offset),
		'Q': whole(1, byTurned(api.OpRetrig)),
		'R': whole(1, byDigits(api.OpTremolo)),
		'S': whole(1, byHigh(screamDigits)),
		'T': below(32, nothing, byParam(api.OpTempo)),
		'U': halves(3, byDigits(api.OpFineVibrato)),
		'V': global,
		'X': func(w *work) { w.ask(api.OpPan, min(2*w.p, 256), 0) },
	}
}

func screamDigits() commands {
	return commands{
		1:  gliss,
		2:  func(w *work) { w.ask(api.OpFinetune, 8*(w.l-8), 0) },
		3:  wave(api.OpVibWave),
		4:  wave(api.OpTremWave),
		8:  panByLow,
		11: byLow(api.OpLoop),
		12: byLow(api.OpCut),
		13: byLow(api.OpDelay),
		14: byLow(api.OpRowDelay),
	}
}

func impulse() commands {
	return commands{
		'A': below(1, nothing, byParam(api.OpSpeed)),
		'B': byParam(api.OpJump),
		'C': byParam(api.OpBreak),
		'D': whole(1, volSlide),
		'E': whole(5, slides(api.OpDown, api.OpExtraDown, api.OpFineDown)),
		'F': whole(5, slides(api.OpUp, api.OpExtraUp, api.OpFineUp)),
		'G': whole(2, byParam(api.OpTone)),
		'H': halves(3, byDigits(api.OpVibrato)),
		'I': whole(6, tremor),
		'J': whole(7, byDigits(api.OpArp)),
		'K': whole(1, withVibrato(3, volSlide)),
		'L': whole(1, withTone(2, volSlide)),
		'M': below(65, byParam(api.OpChanVol), nothing),
		'N': whole(8, byDigits(api.OpChanSlide)),
		'O': whole(4, offset),
		'P': whole(9, byTurned(api.OpPanSlide)),
		'Q': whole(10, byTurned(api.OpRetrig)),
		'R': halves(11, byDigits(api.OpTremolo)),
		'S': whole(12, byHigh(impulseDigits)),
		'T': whole(13, below(16, slower, below(32, byLow(api.OpTempoSlide), byParam(api.OpTempo)))),
		'U': halves(3, byDigits(api.OpFineVibrato)),
		'V': below(129, byParam(api.OpGlobal), nothing),
		'W': whole(14, byDigits(api.OpGlobalSlide)),
		'X': pan,
		'Y': halves(15, byDigits(api.OpPanbrello)),
		'Z': below(128, byParam(api.OpCutoff), below(144, resonance, nothing)),
	}
}

func slower(w *work) { w.ask(api.OpTempoSlide, -w.l, 0) }

func resonance(w *work) { w.ask(api.OpResonance, 8*(w.p-128), 0) }

func impulseDigits() commands {
	return commands{
		3:  wave(api.OpVibWave),
		4:  wave(api.OpTremWave),
		7:  oldNotes,
		8:  panByLow,
		9:  manner,
		11: byLow(api.OpLoop),
		12: byLow(api.OpCut),
		13: byLow(api.OpDelay),
		14: byLow(api.OpRowDelay),
	}
}

// oldNotes says what becomes of past notes, or of the one that sounds when the next begins.
func oldNotes(w *work) {
	switch {
	case w.l <= 2:
		w.ask(api.OpPast, w.l, 0)
	case w.l <= 6:
		w.ask(api.OpNewNote, w.l-3, 0)
	}
}

// manner says whether a channel sounds surround, or its note backwards.
func manner(w *work) {
	switch {
	case w.l <= 1:
		w.ask(api.OpSurround, w.l, 0)
	case w.l == 15:
		w.ask(api.OpReverse, 1, 0)
	}
}

func compose() commands {
	all := commands{
		'3': byLow(api.OpFineUp),
		'5': below(1, nothing, byParam(api.OpSpeed)),
	}
	sticky := commands{
		'0': byParam(api.OpUp),
		'1': byParam(api.OpDown),
		'2': byParam(api.OpTone),
		'4': byDigits(api.OpVibrato),
	}
	for char, one := range sticky {
		all[char] = lasting(char, one)
	}
	return all
}

// lasting makes the effect of a character last; with the parameter 0 it asks for nothing, and nothing lasts.
func lasting(char int, then command) command {
	return func(w *work) {
		if w.p == 0 {
			w.Effect, w.Param = 0, 0
			return
		}
		w.Effect, w.Param = strings.IndexByte(characters, byte(char))+1, w.p
		then(w)
	}
}

func chip() commands {
	return commands{
		'0': below(1, nothing, byDigits(api.OpArp)),
		'1': whole(5, byParam(api.OpUp)),
		'2': whole(6, byParam(api.OpDown)),
		'3': whole(1, byParam(api.OpTone)),
		'4': halves(2, byDigits(api.OpVibrato)),
		'A': whole(7, byDigits(api.OpVolSlide)),
		'B': byParam(api.OpJump),
		'C': volume,
		'D': byParam(api.OpBreak),
		'E': byHigh(chipDigits),
		'F': below(1, nothing, byParam(api.OpSpeed)),
		'N': func(w *work) { w.ask(api.OpNoise, w.p%32, 0) },
		'S': func(w *work) { w.ask(api.OpShape, w.p%16, 0) },
	}
}

func chipDigits() commands {
	return commands{
		6:  byLow(api.OpLoop),
		12: byLow(api.OpCut),
		13: byLow(api.OpDelay),
		14: byLow(api.OpRowDelay),
	}
}
