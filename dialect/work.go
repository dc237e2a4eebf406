package dialect

import "orchestrion/api"

// work is a command that is worked out: the channel's memory, the command's parameter with its high and its low digit, and the operations so far.
type work struct {
	api.Memory
	p, h, l int
	ops     []api.Op
}

// command works out an effect or a volume command.
type command func(w *work)

// commands are commands by the effect's character, by the volume command's number, or by the parameter's high digit.
type commands map[int]command

// do works out the command of a key, if there is one, with a parameter.
func (w *work) do(all commands, key, p int) {
	if one, ok := all[key]; ok {
		w.set(p)
		one(w)
	}
}

// set gives the command a parameter.
func (w *work) set(p int) { w.p, w.h, w.l = p, p/16, p%16 }

// ask adds an operation.
func (w *work) ask(kind, x, y int) { w.ops = append(w.ops, api.Op{Kind: kind, X: x, Y: y}) }

// whole makes a command recall its parameter from slot k if it is 0, and else keep it there.
func whole(k int, then command) command {
	return func(w *work) {
		if w.p == 0 {
			w.set(w.Slots[k])
		} else {
			w.Slots[k] = w.p
		}
		then(w)
	}
}

// halves makes a command recall each digit of its parameter from slot k if it is 0, and keep both there.
func halves(k int, then command) command {
	return func(w *work) {
		kept := w.Slots[k]
		if w.h == 0 {
			w.h = kept / 16
		}
		if w.l == 0 {
			w.l = kept % 16
		}
		w.set(16*w.h + w.l)
		w.Slots[k] = w.p
		then(w)
	}
}

// low makes a command recall the low digit of its parameter from slot k if it is 0, and else keep it there. What is recalled is the whole slot, which in a memory from elsewhere may be more than a digit.
func low(k int, then command) command {
	return func(w *work) {
		if w.l == 0 {
			w.l = w.Slots[k]
		} else {
			w.Slots[k] = w.l
		}
		then(w)
	}
}

// below makes a command that is one of two, the first for parameters below a limit.
func below(limit int, less, rest command) command {
	return func(w *work) {
		if w.p < limit {
			less(w)
		} else {
			rest(w)
		}
	}
}

// byHigh makes a command that is another one for each high digit of the parameter. They come from a function, as only this command needs them.
func byHigh(digits func() commands) command {
	return func(w *work) { w.do(digits(), w.h, w.p) }
}

// byParam makes a command that asks for an operation with the parameter.
func byParam(kind int) command { return func(w *work) { w.ask(kind, w.p, 0) } }

// byDigits makes a command that asks for an operation with the high and the low digit.
func byDigits(kind int) command { return func(w *work) { w.ask(kind, w.h, w.l) } }

// byTurned makes a command that asks for an operation with the low and the high digit.
func byTurned(kind int) command { return func(w *work) { w.ask(kind, w.l, w.h) } }

// byLow makes a command that asks for an operation with the low digit.
func byLow(kind int) command { return func(w *work) { w.ask(kind, w.l, 0) } }

// withTone makes a command go on with tone portamento at the speed of slot k first.
func withTone(k int, then command) command {
	return func(w *work) {
		w.ask(api.OpTone, w.Slots[k], 0)
		then(w)
	}
}

// withVibrato makes a command go on with the vibrato of slot k first.
func withVibrato(k int, then command) command {
	return func(w *work) {
		w.ask(api.OpVibrato, w.Slots[k]/16, w.Slots[k]%16)
		then(w)
	}
}

// slides makes a command that slides a pitch, in steps of three sizes.
func slides(plain, extra, fine int) command {
	return func(w *work) {
		switch {
		case w.p >= 240:
			w.ask(fine, w.l, 0)
		case w.p >= 224:
			w.ask(extra, w.l, 0)
		default:
			w.ask(plain, w.p, 0)
		}
	}
}

// volSlide is the slide of volume in scream and impulse.
func volSlide(w *work) {
	switch {
	case w.l == 15 && w.h != 0:
		w.ask(api.OpVolUp, w.h, 0)
	case w.h == 15 && w.l != 0:
		w.ask(api.OpVolDown, w.l, 0)
	default:
		w.ask(api.OpVolSlide, w.h, w.l)
	}
}

func nothing(*work) {}

func volume(w *work) { w.ask(api.OpVolume, min(w.p, 64), 0) }

func offset(w *work) { w.ask(api.OpOffset, 256*w.p, 0) }

func tremor(w *work) { w.ask(api.OpTremor, w.h+1, w.l+1) }

func global(w *work) { w.ask(api.OpGlobal, 2*min(w.p, 64), 0) }

// decimalBreak reads the digits of the parameter as decimal ones.
func decimalBreak(w *work) { w.ask(api.OpBreak, 10*w.h+w.l, 0) }

func pan(w *work) { w.askPan(w.p) }

func panByLow(w *work) { w.askPan(17 * w.l) }

// askPan asks for a panning from 0 to 256, given as 0 to 255.
func (w *work) askPan(v int) { w.ask(api.OpPan, v+v/128, 0) }

func gliss(w *work) { w.ask(api.OpGliss, min(w.l, 1), 0) }

// wave makes a command that chooses a waveform.
func wave(kind int) command { return func(w *work) { w.ask(kind, w.l%4, 0) } }
