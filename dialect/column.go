package dialect

import "orchestrion/api"

// column returns a dialect's commands of the volume column by their numbers.
func column(d int) commands {
	switch d {
	case api.DScream:
		return commands{1: volume}
	case api.DFast:
		return columnWith(fastSpeed, 1, 2)
	case api.DImpulse:
		all := columnWith(impulseSpeed, 2, 3)
		all[9] = func(w *work) { w.ask(api.OpDown, 4*w.p, 0) }
		all[10] = func(w *work) { w.ask(api.OpUp, 4*w.p, 0) }
		return all
	}
	return nil
}

// columnWith returns the commands that fast and impulse share, with the speed that tone portamento makes of its number, and the slots in which it and vibrato are kept.
func columnWith(speed func(a int) int, tone, vibrato int) commands {
	return commands{
		1: volume,
		2: func(w *work) { w.ask(api.OpVolSlide, w.p, 0) },
		3: func(w *work) { w.ask(api.OpVolSlide, 0, w.p) },
		4: byParam(api.OpVolUp),
		5: byParam(api.OpVolDown),
		6: func(w *work) { w.ask(api.OpPan, 4*min(w.p, 64), 0) },
		7: changed(speed, whole(tone, byParam(api.OpTone))),
		8: changed(oneDigit, halves(vibrato, byDigits(api.OpVibrato))),
	}
}

// changed makes a command take another parameter, which is made of its own.
func changed(by func(a int) int, then command) command {
	return func(w *work) {
		w.set(by(w.p))
		then(w)
	}
}

func oneDigit(a int) int { return min(a, 15) }

func fastSpeed(a int) int { return 16 * min(a, 15) }

func impulseSpeed(a int) int {
	speeds := [10]int{0, 1, 4, 8, 16, 32, 64, 96, 128, 255}
	return speeds[min(a, 9)]
}
