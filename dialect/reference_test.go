package dialect

import (
	"strings"
	"testing"

	"orchestrion/api"
)

// The chapter's rules of effects, in its words: what remembers, then the operations with their numbers, each a product of a factor and a name, plus a number. Where an effect has several cases, each has its own line: the first whose bounds hold counts.
//
// A line is: the effect, the name of a number and its bounds (p, h or l; - for all), what remembers it (w, h or l and the slot, or -), and the operations.

const fourRules = `
0 p:0-0     -   -
0 -         -   Arp:h,l
1 -         -   Up:p
2 -         -   Down:p
3 -         w1  Tone:p
4 -         h2  Vibrato:h,l
5 -         -   Tone:s1 VolSlide:h,l
6 -         -   Vibrato:s2/16,s2%16 VolSlide:h,l
7 -         h3  Tremolo:h,l
8 p:0-127   -   Pan:p
8 -         -   Pan:p+1,
9 -         w4  Offset:256*p
A -         -   VolSlide:h,l
B -         -   Jump:p
C p:0-64    -   Volume:p
C -         -   Volume:64
D -         -   Break:10*h+l
E1 -        -   FineUp:l
E2 -        -   FineDown:l
E3 l:0-0    -   Gliss:0
E3 -        -   Gliss:1
E4 -        -   VibWave:l%4
E5 l:0-7    -   Finetune:8*l
E5 -        -   Finetune:8*l-128
E6 -        -   Loop:l
E7 -        -   TremWave:l%4
E8 l:0-7    -   Pan:17*l
E8 -        -   Pan:17*l+1
E9 -        -   Retrig:l
E10 -       -   VolUp:l
E11 -       -   VolDown:l
E12 -       -   Cut:l
E13 -       -   Delay:l
E14 -       -   RowDelay:l
F p:0-31    -   Speed:p
F -         -   Tempo:p
`

const fastRules = `
1 -         w5  Up:p
2 -         w6  Down:p
5 -         w7  Tone:s1 VolSlide:h,l
6 -         w7  Vibrato:s2/16,s2%16 VolSlide:h,l
A -         w7  VolSlide:h,l
E1 -        l8  FineUp:l
E2 -        l9  FineDown:l
E10 -       l10 VolUp:l
E11 -       l11 VolDown:l
G p:0-64    -   Global:2*p
G -         -   Global:128
H -         w12 GlobalSlide:h,l
K -         -   KeyOff:p
L -         -   EnvPos:p
P -         w13 PanSlide:h,l
R -         h14 Retrig:l,h
T -         w15 Tremor:h+1,l+1
X1 -        l16 ExtraUp:l
X2 -        l17 ExtraDown:l
`

const screamRules = `
A p:0-0     -   -
A -         -   Speed:p
B -         -   Jump:p
C -         -   Break:10*h+l
D slide     w1  -
E p:0-223   w1  Down:p
E p:224-239 w1  ExtraDown:l
E -         w1  FineDown:l
F p:0-223   w1  Up:p
F p:224-239 w1  ExtraUp:l
F -         w1  FineUp:l
G -         w2  Tone:p
H -         h3  Vibrato:h,l
I -         w1  Tremor:h+1,l+1
J -         w1  Arp:h,l
K slide     w1  Vibrato:s3/16,s3%16
L slide     w1  Tone:s2
O -         w4  Offset:256*p
Q -         w1  Retrig:l,h
R -         w1  Tremolo:h,l
S1 l:0-0    w1  Gliss:0
S1 -        w1  Gliss:1
S2 -        w1  Finetune:8*l-64
S3 -        w1  VibWave:l%4
S4 -        w1  TremWave:l%4
S8 l:0-7    w1  Pan:17*l
S8 -        w1  Pan:17*l+1
S11 -       w1  Loop:l
S12 -       w1  Cut:l
S13 -       w1  Delay:l
S14 -       w1  RowDelay:l
S -         w1  -
T p:0-31    -   -
T -         -   Tempo:p
U -         h3  FineVibrato:h,l
V p:0-64    -   Global:2*p
V -         -   Global:128
X p:0-128   -   Pan:2*p
X -         -   Pan:256
`

const impulseRules = `
A p:0-0     -   -
A -         -   Speed:p
B -         -   Jump:p
C -         -   Break:p
D slide     w1  -
E p:0-223   w5  Down:p
E p:224-239 w5  ExtraDown:l
E -         w5  FineDown:l
F p:0-223   w5  Up:p
F p:224-239 w5  ExtraUp:l
F -         w5  FineUp:l
G -         w2  Tone:p
H -         h3  Vibrato:h,l
I -         w6  Tremor:h+1,l+1
J -         w7  Arp:h,l
K slide     w1  Vibrato:s3/16,s3%16
L slide     w1  Tone:s2
M p:0-64    -   ChanVol:p
N -         w8  ChanSlide:h,l
O -         w4  Offset:256*p
P -         w9  PanSlide:l,h
Q -         w10 Retrig:l,h
R -         h11 Tremolo:h,l
S3 -        w12 VibWave:l%4
S4 -        w12 TremWave:l%4
S7 l:0-2    w12 Past:l
S7 l:3-6    w12 NewNote:l-3
S8 l:0-7    w12 Pan:17*l
S8 -        w12 Pan:17*l+1
S9 l:0-1    w12 Surround:l
S9 l:15-15  w12 Reverse:1
S11 -       w12 Loop:l
S12 -       w12 Cut:l
S13 -       w12 Delay:l
S14 -       w12 RowDelay:l
S -         w12 -
T p:0-15    w13 TempoSlide:-l
T p:16-31   w13 TempoSlide:l
T -         w13 Tempo:p
U -         h3  FineVibrato:h,l
V p:0-128   -   Global:p
W -         w14 GlobalSlide:h,l
X p:0-127   -   Pan:p
X -         -   Pan:p+1
Y -         h15 Panbrello:h,l
Z p:0-127   -   Cutoff:p
Z p:128-143 -   Resonance:8*p-1024
`

const composeRules = `
0 p:0-0     -   -
0 -         -   Up:p
1 p:0-0     -   -
1 -         -   Down:p
2 p:0-0     -   -
2 -         -   Tone:p
3 -         -   FineUp:l
4 p:0-0     -   -
4 -         -   Vibrato:h,l
5 p:0-0     -   -
5 -         -   Speed:p
`

const chipRules = `
0 p:0-0     -   -
0 -         -   Arp:h,l
1 -         w5  Up:p
2 -         w6  Down:p
3 -         w1  Tone:p
4 -         h2  Vibrato:h,l
A -         w7  VolSlide:h,l
B -         -   Jump:p
C p:0-64    -   Volume:p
C -         -   Volume:64
D -         -   Break:p
E6 -        -   Loop:l
E12 -       -   Cut:l
E13 -       -   Delay:l
E14 -       -   RowDelay:l
F p:0-0     -   -
F -         -   Speed:p
N -         -   Noise:p%32
S -         -   Shape:p%16
`

// rulesOf returns a dialect's lines; fast's own lines stand before those of four.
func rulesOf(d int) [][]string {
	text := []string{fourRules, screamRules, fastRules + fourRules, impulseRules, composeRules, chipRules}[d-1]
	var rules [][]string
	for _, line := range strings.Split(text, "\n") {
		if fields := strings.Fields(line); len(fields) > 0 {
			rules = append(rules, fields)
		}
	}
	return rules
}

// reading is a command whose rules are read: its numbers, and the memory.
type reading struct {
	p, h, l int
	m       api.Memory
}

// atoi reads a number of one or more digits.
func atoi(text string) int {
	n := 0
	for _, char := range text {
		n = 10*n + int(char-'0')
	}
	return n
}

// remember does what a rule says of remembering: w, h or l and a slot.
func (r *reading) remember(what string) {
	if what == "-" {
		return
	}
	slot := &r.m.Slots[atoi(what[1:])]
	switch what[0] {
	case 'w':
		if r.p == 0 {
			r.p = *slot
		}
		*slot = r.p
		r.h, r.l = r.p/16, r.p%16
	case 'h':
		if r.h == 0 {
			r.h = *slot / 16
		}
		if r.l == 0 {
			r.l = *slot % 16
		}
		r.p = 16*r.h + r.l
		*slot = r.p
	case 'l':
		if r.l == 0 {
			r.l = *slot
		}
		*slot = r.l
	}
}

// number works out a sum of products, such as 10*h+l or 8*l-64.
func (r *reading) number(text string) int {
	if text == "" {
		return 0
	}
	if at := strings.LastIndexAny(text, "+-"); at >= 0 {
		rest := r.number(text[at+1:])
		if text[at] == '-' {
			rest = -rest
		}
		return r.number(text[:at]) + rest
	}
	if a, b, ok := strings.Cut(text, "*"); ok {
		return r.number(a) * r.number(b)
	}
	if a, b, ok := strings.Cut(text, "/"); ok {
		return r.number(a) / r.number(b)
	}
	if a, b, ok := strings.Cut(text, "%"); ok {
		return r.number(a) % r.number(b)
	}
	switch text[0] {
	case 'p':
		return r.p
	case 'h':
		return r.h
	case 'l':
		return r.l
	case 's':
		return r.m.Slots[atoi(text[1:])]
	}
	return atoi(text)
}

// holds reports whether a rule's bounds hold.
func (r *reading) holds(bounds string) bool {
	name, rest, ok := strings.Cut(bounds, ":")
	if !ok {
		return true
	}
	low, high, _ := strings.Cut(rest, "-")
	n := r.number(name)
	return atoi(low) <= n && n <= atoi(high)
}

// ops are the operations of a rule.
func (r *reading) ops(rule []string) []api.Op {
	var ops []api.Op
	for _, text := range rule[3:] {
		name, numbers, ok := strings.Cut(text, ":")
		if !ok {
			continue
		}
		x, y, _ := strings.Cut(numbers, ",")
		ops = append(ops, api.Op{Kind: kindOf(name), X: r.number(x), Y: r.number(y)})
	}
	if rule[1] == "slide" {
		ops = append(ops, slideOf(r.p))
	}
	return ops
}

// slideOf is the slide of the chapter.
func slideOf(p int) api.Op {
	if p%16 == 15 && p > 15 {
		return api.Op{Kind: api.OpVolUp, X: p / 16}
	}
	if p > 240 {
		return api.Op{Kind: api.OpVolDown, X: p - 240}
	}
	return api.Op{Kind: api.OpVolSlide, X: p / 16, Y: p % 16}
}

func kindOf(name string) int {
	for i, other := range strings.Fields(names) {
		if other == name {
			return i + 1
		}
	}
	return 0
}

// byRules resolves an effect by the rules. Which rule it is may depend on the parameter that is recalled, so each rule remembers first, on a copy.
func byRules(rules [][]string, m api.Memory, char string, param int) ([]api.Op, api.Memory) {
	for _, rule := range rules {
		r := reading{p: param, h: param / 16, l: param % 16, m: m}
		digit := r.h
		r.remember(rule[2])
		if rule[2][0] == 'w' {
			digit = r.h
		}
		if rule[0][:1] != char || !r.holds(rule[1]) || len(rule[0]) > 1 && atoi(rule[0][1:]) != digit {
			continue
		}
		return r.ops(rule), r.m
	}
	return nil, m
}

// columnByRules resolves a volume command of scream, fast and impulse by the chapter's words.
func columnByRules(d int, m api.Memory, command, a int) ([]api.Op, api.Memory) {
	tone, vibrato, v := "w1", "h2", 16*min(a, 15)
	if d == api.DImpulse {
		tone, vibrato, v = "w2", "h3", []int{0, 1, 4, 8, 16, 32, 64, 96, 128, 255}[min(a, 9)]
	}
	switch command {
	case 1:
		return []api.Op{{Kind: api.OpVolume, X: min(a, 64)}}, m
	case 6:
		return []api.Op{{Kind: api.OpPan, X: min(4*a, 256)}}, m
	case 7:
		return byRules([][]string{{"g", "-", tone, "Tone:p"}}, m, "g", v)
	case 8:
		return byRules([][]string{{"h", "-", vibrato, "Vibrato:h,l"}}, m, "h", min(a, 15))
	case 2:
		return []api.Op{{Kind: api.OpVolSlide, X: a}}, m
	case 3:
		return []api.Op{{Kind: api.OpVolSlide, Y: a}}, m
	}
	kind := map[int]int{4: api.OpVolUp, 5: api.OpVolDown, 9: api.OpDown, 10: api.OpUp}[command]
	if command > 8 {
		a *= 4
	}
	return []api.Op{{Kind: kind, X: a}}, m
}

// cellByRules resolves a cell by the chapter's words.
func cellByRules(d int, rules [][]string, m api.Memory, c api.Cell) ([]api.Op, api.Memory) {
	const chars = "0123456789ABCDEFGHIJKLMNOPQRSTUVWXYZ"
	var first, second []api.Op
	if c.VolCmd != 0 {
		first, m = columnByRules(d, m, c.VolCmd, c.VolArg)
	}
	effect, param := c.Effect, c.Param
	if d == api.DCompose {
		lasts := effect == 1 || effect == 2 || effect == 3 || effect == 5
		switch {
		case lasts && param != 0:
			m.Effect, m.Param = effect, param
		case lasts || effect == 0 && c.Note != 0:
			m.Effect, m.Param = 0, 0
		case effect == 0:
			effect, param = m.Effect, m.Param
		}
	}
	if effect != 0 {
		second, m = byRules(rules, m, chars[effect-1:][:1], param)
	}
	return append(first, second...), m
}

func checkByRules(t *testing.T, d int, rules [][]string, m api.Memory, c api.Cell) {
	t.Helper()
	want, after := cellByRules(d, rules, m, c)
	got, left := resolve(t, d, m, c)
	if got != opsText(want) || left != after {
		t.Errorf("dialect %d, %v with %v: %q, want %q; %v, want %v", d, c, m, got, opsText(want), left, after)
	}
}

// Sections Notes, volume column and Effects: each command with each parameter, with memories of all sorts.
func TestByRules(t *testing.T) {
	for _, d := range dialects() {
		rules := rulesOf(d)
		for _, c := range commandCells(d) {
			for _, m := range memories(6, true) {
				checkByRules(t, d, rules, m, c)
			}
			if t.Failed() {
				return
			}
		}
	}
}

// Details: volume commands with effects, and notes and instruments, which matter only where effects last.
func TestCellsByRules(t *testing.T) {
	for _, d := range dialects() {
		rules := rulesOf(d)
		all := commandCells(d)
		for i, m := range memories(3000, true) {
			c := all[7919*i%len(all)]
			if other := all[104729*i%len(all)]; c.VolCmd == 0 {
				c.VolCmd, c.VolArg = other.VolCmd, other.VolArg
			}
			c.Inst = i % 32
			if i%3 == 0 {
				c.Note = 61
			}
			checkByRules(t, d, rules, m, c)
		}
		if t.Failed() {
			return
		}
	}
}
