package pattern

import (
	"regexp"
	"strings"
	"testing"

	"orchestrion/api"
	"orchestrion/tone"
)

type textCase struct {
	cell api.Cell
	want string
}

// textCases are worked out by hand.
func textCases() []textCase {
	return []textCase{
		{cell(61, 1, 0, 0, 11, 15), "C-5 01 ... A0F"},
		{api.Cell{}, "... .. ... ..."},
		{cell(1, 0, 0, 0, 0, 0), "C-0 .. ... ..."},
		{cell(120, 31, 12, 99, 36, 255), "B-9 31 l99 ZFF"},
		{cell(255, 0, 0, 0, 0, 0), "=== .. ... ..."},
		{cell(254, 9, 0, 0, 0, 0), "^^^ 09 ... ..."},
		{cell(253, 10, 0, 0, 0, 0), "~~~ 10 ... ..."},
		{cell(0, 0, 1, 0, 1, 0), "... .. a00 000"},
		{cell(0, 0, 2, 7, 10, 171), "... .. b07 9AB"},
		{cell(14, 20, 11, 64, 35, 160), "C#1 20 k64 YA0"},
	}
}

// Promise 5.5: texts worked out by hand, and back.
func TestText(t *testing.T) {
	for _, c := range textCases() {
		if got, e := Text(c.cell); e != api.OK || got != c.want {
			t.Errorf("%v: %q, %d, want %q", c.cell, got, e, c.want)
		}
		if got, e := Parse(c.want); e != api.OK || got != c.cell {
			t.Errorf("%q: %v, %d, want %v", c.want, got, e, c.cell)
		}
	}
}

// Promise 5.5: a note's name is that of layer 1.
func TestNames(t *testing.T) {
	for note := range api.MaxNotes {
		if got, e := Text(api.Cell{Note: note + 1}); e != api.OK || got != tone.Name(note)+" .. ... ..." {
			t.Errorf("note %d: %q, %d", note, got, e)
		}
	}
}

// Promise 5.5 and P5.5: all values of each part, and all parts together.
func TestTextAndParse(t *testing.T) {
	check := func(c api.Cell, part string) {
		t.Helper()
		got, e := Text(c)
		if e != api.OK || len(got) != 14 || !strings.Contains(got, part) {
			t.Errorf("%v: %q, %d", c, got, e)
		}
		if back, e := Parse(got); e != api.OK || back != c {
			t.Errorf("%q: %v, %d, want %v", got, back, e, c)
		}
	}
	for note := range 256 {
		if c := (api.Cell{Note: note}); ValidCell(c) {
			check(c, " .. ... ...")
		}
	}
	for inst := 1; inst <= 31; inst++ {
		check(api.Cell{Inst: inst}, "... "+string(rune('0'+inst/10))+string(rune('0'+inst%10))+" ...")
	}
	for cmd := 1; cmd <= 12; cmd++ {
		for arg := range 100 {
			check(api.Cell{VolCmd: cmd, VolArg: arg}, " "+string(rune('a'+cmd-1))+string(rune('0'+arg/10))+string(rune('0'+arg%10))+" ...")
		}
	}
	hex := "0123456789ABCDEF"
	for effect := 1; effect <= 36; effect++ {
		letter := string(rune('0' + effect - 1))
		if effect > 10 {
			letter = string(rune('A' + effect - 11))
		}
		for param := range 256 {
			check(api.Cell{Effect: effect, Param: param}, "... "+letter+hex[param/16:][:1]+hex[param%16:][:1])
		}
	}
	patterns, _ := drawings(20)
	for _, p := range patterns {
		for _, c := range p.Cells {
			check(c, " ")
		}
	}
}

// Promise 5.5 and R3: a cell that is not valid has no text.
func TestNoText(t *testing.T) {
	for _, n := range append(extremes(), -1, 256) {
		for _, c := range wrongBy(n) {
			if got, e := Text(c); got != "" || e != api.ErrInvalid {
				t.Errorf("%v: %q, %d", c, got, e)
			}
		}
	}
	for _, c := range []api.Cell{{Note: 121}, {Note: 252}, {Inst: 32}, {VolCmd: 13}, {VolArg: 1}, {VolCmd: 1, VolArg: 100}, {Effect: 37}, {Param: 1}} {
		if got, e := Text(c); got != "" || e != api.ErrInvalid {
			t.Errorf("%v: %q, %d", c, got, e)
		}
	}
}

// Promise 5.5: what no text of a cell is, worked out by hand.
func TestNoParse(t *testing.T) {
	for _, text := range []string{
		"", " ", "...", "C-5", "C-5 01", "C-5 01 ...", "C-5 01 ... A0", "C-5 01 ... A0F ", " C-5 01 ... A0F", "C-5 01 ... A0F\n", "C-5 01 ... A0F A0F",
		"C-5  01 ... A0F", "C-5 01 ...  A0F", "C-5\t01 ... A0F", "C-501 ... A0F ", "C-5 01 ....A0F", "C-5 01.... A0F", "    ..........",
		"c-5 01 ... A0F", "C55 01 ... A0F", "C-- 01 ... A0F", "C-. 01 ... A0F", "E#5 01 ... A0F", "B#5 01 ... A0F", "H-5 01 ... A0F", "-C5 01 ... A0F", "#D5 01 ... A0F", "C-A 01 ... A0F",
		"==. 01 ... A0F", "=== 00 ... A0F", "^^~ 01 ... A0F", "--- 01 ... A0F", "..5 01 ... A0F", ".-5 01 ... A0F",
		"C-5 00 ... A0F", "C-5 32 ... A0F", "C-5 99 ... A0F", "C-5 1. ... A0F", "C-5 .1 ... A0F", "C-5 0A ... A0F", "C-5 -1 ... A0F", "C-5 +1 ... A0F",
		"C-5 01 m00 A0F", "C-5 01 A00 A0F", "C-5 01 000 A0F", "C-5 01 a0A A0F", "C-5 01 a.. A0F", "C-5 01 .00 A0F", "C-5 01 a-1 A0F", "C-5 01 `00 A0F",
		"C-5 01 ... a0F", "C-5 01 ... A0f", "C-5 01 ... A0G", "C-5 01 ... .0F", "C-5 01 ... A..", "C-5 01 ... ..0", "C-5 01 ... @00", "C-5 01 ... [00", "C-5 01 ... :00",
		"C-5 01 ... A0\x00", "C-5 01 ... A0\xff", "é5 01 ... A0F", "C-5 01 … A0F", "C-5 01 ... A0٣", strings.Repeat("C-5 01 ... A0F", 2), strings.Repeat(" ", 14), strings.Repeat(" ", 100000), strings.Repeat(".", 14),
	} {
		if got, e := Parse(text); e != api.ErrSyntax || got != (api.Cell{}) {
			t.Errorf("%q: %v, %d", text, got, e)
		}
	}
}

// Promise 5.5: each byte of some texts replaced by each other one, against what the chapter's words allow.
func TestParseExact(t *testing.T) {
	exact := regexp.MustCompile(`\A(\.\.\.|===|\^\^\^|~~~|([A-G]-|[CDFGA]#)[0-9]) (\.\.|0[1-9]|[12][0-9]|3[01]) (\.\.\.|[a-l][0-9]{2}) (\.\.\.|[0-9A-Z][0-9A-F]{2})\z`)
	try := func(text string) {
		got, e := Parse(text)
		if !exact.MatchString(text) {
			if e != api.ErrSyntax || got != (api.Cell{}) {
				t.Fatalf("%q: %v, %d", text, got, e)
			}
			return
		}
		if back, e2 := Text(got); e != api.OK || e2 != api.OK || back != text {
			t.Fatalf("%q: %v, %d", text, got, e)
		}
	}
	for _, c := range textCases() {
		for i := range c.want {
			for x := range 256 {
				try(c.want[:i] + string([]byte{byte(x)}) + c.want[i+1:])
				try(c.want[:i] + string([]byte{byte(x)}) + c.want[i:])
			}
			try(c.want[:i])
			try(c.want[:i] + c.want[i+1:])
			for k := range c.want {
				// two wrong bytes at once, each of which stands in a text elsewhere
				b := []byte(c.want)
				b[i], b[k] = b[k], b[i]
				try(string(b))
			}
		}
	}
	for _, a := range textCases() {
		for _, b := range textCases() {
			try(a.want[:6] + b.want[6:])
			try(a.want[:3] + b.want[3:])
			try(a.want[:11] + b.want[11:])
		}
	}
}
