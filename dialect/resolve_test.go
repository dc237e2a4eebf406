package dialect

import (
	"testing"

	"orchestrion/api"
)

// row is a command worked out by hand: what the slots hold before it, its operations, and what the slots hold after it (nothing written: the same).
type row struct{ before, command, ops, after string }

func checkRows(t *testing.T, d int, rows []row) {
	t.Helper()
	for _, r := range rows {
		before := memory(t, r.before)
		after := before
		if r.after != "" {
			after = memory(t, r.after)
		}
		// What a dialect without lasting effects remembers of them stays.
		before.Effect, after.Effect = 2, 2
		before.Param, after.Param = 9, 9
		got, left := resolve(t, d, before, commandCell(t, r.command))
		if got != r.ops || left != after {
			t.Errorf("dialect %d, %s from %q: %q, want %q; %v", d, r.command, r.before, got, r.ops, left)
		}
	}
}

// Section Effects: four.
func TestFour(t *testing.T) {
	checkRows(t, api.DFour, []row{
		{"1=5 5=6", "000", "", ""},
		{"", "037", "Arp(3, 7)", ""},
		{"", "001", "Arp(0, 1)", ""},
		{"1=3 5=4", "100", "Up(0)", ""},
		{"", "1FF", "Up(255)", ""},
		{"6=7", "200", "Down(0)", ""},
		{"", "204", "Down(4)", ""},
		{"1=9", "300", "Tone(9)", ""},
		{"1=9", "312", "Tone(18)", "1=18"},
		{"", "300", "Tone(0)", ""},
		{"2=52", "400", "Vibrato(3, 4)", ""},
		{"2=52", "480", "Vibrato(8, 4)", "2=132"},
		{"2=52", "409", "Vibrato(3, 9)", "2=57"},
		{"2=52", "4AB", "Vibrato(10, 11)", "2=171"},
		{"1=20 7=8", "512", "Tone(20) VolSlide(1, 2)", ""},
		{"1=20 7=8", "500", "Tone(20) VolSlide(0)", ""},
		{"2=163 7=8", "60F", "Vibrato(10, 3) VolSlide(0, 15)", ""},
		{"2=163 7=8", "600", "Vibrato(10, 3) VolSlide(0)", ""},
		{"3=33", "700", "Tremolo(2, 1)", ""},
		{"3=33", "750", "Tremolo(5, 1)", "3=81"},
		{"", "800", "Pan(0)", ""},
		{"", "87F", "Pan(127)", ""},
		{"", "880", "Pan(129)", ""},
		{"", "8FF", "Pan(256)", ""},
		{"4=2", "900", "Offset(512)", ""},
		{"4=2", "9FF", "Offset(65280)", "4=255"},
		{"7=5", "A00", "VolSlide(0)", ""},
		{"", "A0F", "VolSlide(0, 15)", ""},
		{"", "AF1", "VolSlide(15, 1)", ""},
		{"", "B00", "Jump(0)", ""},
		{"", "BFF", "Jump(255)", ""},
		{"", "C3F", "Volume(63)", ""},
		{"", "C40", "Volume(64)", ""},
		{"", "C41", "Volume(64)", ""},
		{"", "D12", "Break(12)", ""},
		{"", "D63", "Break(63)", ""},
		{"", "DFF", "Break(165)", ""},
		{"", "F00", "Speed(0)", ""},
		{"", "F1F", "Speed(31)", ""},
		{"", "F20", "Tempo(32)", ""},
		{"", "FFF", "Tempo(255)", ""},
	})
}

// Section Effects: four's E, and what fast shares with it.
func TestFourDigits(t *testing.T) {
	shared := []row{
		{"8=4", "E00", "", ""},
		{"8=4", "E07", "", ""},
		{"", "E30", "Gliss(0)", ""},
		{"", "E31", "Gliss(1)", ""},
		{"", "E3F", "Gliss(1)", ""},
		{"", "E43", "VibWave(3)", ""},
		{"", "E44", "VibWave(0)", ""},
		{"", "E4F", "VibWave(3)", ""},
		{"", "E50", "Finetune(0)", ""},
		{"", "E57", "Finetune(56)", ""},
		{"", "E58", "Finetune(-64)", ""},
		{"", "E5F", "Finetune(-8)", ""},
		{"", "E60", "Loop(0)", ""},
		{"", "E6F", "Loop(15)", ""},
		{"", "E72", "TremWave(2)", ""},
		{"", "E75", "TremWave(1)", ""},
		{"", "E80", "Pan(0)", ""},
		{"", "E87", "Pan(119)", ""},
		{"", "E88", "Pan(137)", ""},
		{"", "E8F", "Pan(256)", ""},
		{"", "E90", "Retrig(0)", ""},
		{"14=99", "E93", "Retrig(3)", ""},
		{"", "EC0", "Cut(0)", ""},
		{"", "EC4", "Cut(4)", ""},
		{"", "ED0", "Delay(0)", ""},
		{"", "EDF", "Delay(15)", ""},
		{"", "EE0", "RowDelay(0)", ""},
		{"", "EE5", "RowDelay(5)", ""},
		{"", "EF0", "", ""},
		{"", "EFF", "", ""},
	}
	checkRows(t, api.DFour, shared)
	checkRows(t, api.DFast, shared)
	checkRows(t, api.DFour, []row{
		{"8=4", "E10", "FineUp(0)", ""},
		{"8=4", "E1F", "FineUp(15)", ""},
		{"9=4", "E20", "FineDown(0)", ""},
		{"9=4", "E23", "FineDown(3)", ""},
		{"10=4", "EA0", "VolUp(0)", ""},
		{"10=4", "EA1", "VolUp(1)", ""},
		{"11=4", "EB0", "VolDown(0)", ""},
		{"11=4", "EB2", "VolDown(2)", ""},
	})
}

// Section Effects: fast, where it is not as four.
func TestFast(t *testing.T) {
	checkRows(t, api.DFast, []row{
		{"1=5 5=6", "000", "", ""},
		{"", "037", "Arp(3, 7)", ""},
		{"5=6", "100", "Up(6)", ""},
		{"5=6", "107", "Up(7)", "5=7"},
		{"6=8", "200", "Down(8)", ""},
		{"6=8", "2FF", "Down(255)", "6=255"},
		{"1=9", "300", "Tone(9)", ""},
		{"2=52", "480", "Vibrato(8, 4)", "2=132"},
		{"1=20 7=33", "500", "Tone(20) VolSlide(2, 1)", ""},
		{"1=20 7=33", "504", "Tone(20) VolSlide(0, 4)", "1=20 7=4"},
		{"2=163 7=33", "600", "Vibrato(10, 3) VolSlide(2, 1)", ""},
		{"2=163 7=33", "640", "Vibrato(10, 3) VolSlide(4)", "2=163 7=64"},
		{"3=33", "705", "Tremolo(2, 5)", "3=37"},
		{"", "880", "Pan(129)", ""},
		{"4=2", "900", "Offset(512)", ""},
		{"7=33", "A00", "VolSlide(2, 1)", ""},
		{"7=33", "A0F", "VolSlide(0, 15)", "7=15"},
		{"", "B07", "Jump(7)", ""},
		{"", "CFF", "Volume(64)", ""},
		{"", "D12", "Break(12)", ""},
		{"8=4 9=3", "E10", "FineUp(4)", ""},
		{"8=4", "E1F", "FineUp(15)", "8=15"},
		{"9=5", "E20", "FineDown(5)", ""},
		{"9=5", "E21", "FineDown(1)", "9=1"},
		{"10=6", "EA0", "VolUp(6)", ""},
		{"10=6", "EA2", "VolUp(2)", "10=2"},
		{"11=7", "EB0", "VolDown(7)", ""},
		{"11=7", "EB3", "VolDown(3)", "11=3"},
		{"8=200", "E10", "FineUp(200)", ""},
		{"", "F1F", "Speed(31)", ""},
		{"", "F20", "Tempo(32)", ""},
		{"", "G00", "Global(0)", ""},
		{"", "G3F", "Global(126)", ""},
		{"", "G41", "Global(128)", ""},
		{"12=16", "H00", "GlobalSlide(1)", ""},
		{"12=16", "H02", "GlobalSlide(0, 2)", "12=2"},
		{"", "K00", "KeyOff(0)", ""},
		{"", "KFF", "KeyOff(255)", ""},
		{"", "L00", "EnvPos(0)", ""},
		{"", "L80", "EnvPos(128)", ""},
		{"13=18", "P00", "PanSlide(1, 2)", ""},
		{"13=18", "P40", "PanSlide(4)", "13=64"},
		{"14=18", "R00", "Retrig(2, 1)", ""},
		{"14=18", "R07", "Retrig(7, 1)", "14=23"},
		{"14=18", "R90", "Retrig(2, 9)", "14=146"},
		{"15=18", "T00", "Tremor(2, 3)", ""},
		{"15=18", "TF0", "Tremor(16, 1)", "15=240"},
		{"", "T00", "Tremor(1, 1)", ""},
		{"16=3 17=4", "X10", "ExtraUp(3)", ""},
		{"16=3 17=4", "X1A", "ExtraUp(10)", "16=10 17=4"},
		{"16=3 17=4", "X20", "ExtraDown(4)", ""},
		{"16=3 17=4", "X2B", "ExtraDown(11)", "16=3 17=11"},
		{"16=3 17=4", "X00", "", ""},
		{"16=3 17=4", "X05", "", ""},
		{"16=3 17=4", "X35", "", ""},
	})
}

// Section Effects: scream.
func TestScream(t *testing.T) {
	checkRows(t, api.DScream, []row{
		{"1=5", "A00", "", ""},
		{"", "A06", "Speed(6)", ""},
		{"", "AFF", "Speed(255)", ""},
		{"", "B03", "Jump(3)", ""},
		{"", "C12", "Break(12)", ""},
		{"", "D0F", "VolSlide(0, 15)", "1=15"},
		{"", "DF0", "VolSlide(15)", "1=240"},
		{"", "DF1", "VolDown(1)", "1=241"},
		{"", "D1F", "VolUp(1)", "1=31"},
		{"", "DFF", "VolUp(15)", "1=255"},
		{"", "D23", "VolSlide(2, 3)", "1=35"},
		{"1=31", "D00", "VolUp(1)", ""},
		{"", "EDF", "Down(223)", "1=223"},
		{"", "EE0", "ExtraDown(0)", "1=224"},
		{"", "EEF", "ExtraDown(15)", "1=239"},
		{"", "EF0", "FineDown(0)", "1=240"},
		{"", "EFF", "FineDown(15)", "1=255"},
		{"1=4 5=6", "E00", "Down(4)", ""},
		{"", "F0F", "Up(15)", "1=15"},
		{"", "FDF", "Up(223)", "1=223"},
		{"", "FE3", "ExtraUp(3)", "1=227"},
		{"", "FF4", "FineUp(4)", "1=244"},
		{"1=244 5=6", "F00", "FineUp(4)", ""},
		{"1=7 2=9", "G00", "Tone(9)", ""},
		{"1=7 2=9", "G0A", "Tone(10)", "1=7 2=10"},
		{"3=52", "H90", "Vibrato(9, 4)", "3=148"},
		{"3=52", "H00", "Vibrato(3, 4)", ""},
		{"1=35", "I00", "Tremor(3, 4)", ""},
		{"1=35", "I10", "Tremor(2, 1)", "1=16"},
		{"1=35", "J00", "Arp(2, 3)", ""},
		{"", "J00", "Arp(0)", ""},
		{"", "J47", "Arp(4, 7)", "1=71"},
		{"1=31 3=98", "K00", "Vibrato(6, 2) VolUp(1)", ""},
		{"1=31 3=98", "KF2", "Vibrato(6, 2) VolDown(2)", "1=242 3=98"},
		{"1=31 2=98", "L00", "Tone(98) VolUp(1)", ""},
		{"1=31 2=98", "L02", "Tone(98) VolSlide(0, 2)", "1=2 2=98"},
		{"1=3 4=5", "O00", "Offset(1280)", ""},
		{"1=3 4=5", "O01", "Offset(256)", "1=3 4=1"},
		{"1=35", "Q00", "Retrig(3, 2)", ""},
		{"", "Q93", "Retrig(3, 9)", "1=147"},
		{"1=35", "R00", "Tremolo(2, 3)", ""},
		{"1=35", "R40", "Tremolo(4)", "1=64"},
		{"1=77", "T00", "", ""},
		{"", "T1F", "", ""},
		{"", "T20", "Tempo(32)", ""},
		{"", "TFF", "Tempo(255)", ""},
		{"3=52", "U05", "FineVibrato(3, 5)", "3=53"},
		{"", "V40", "Global(128)", ""},
		{"", "V20", "Global(64)", ""},
		{"", "VFF", "Global(128)", ""},
		{"", "X00", "Pan(0)", ""},
		{"", "X40", "Pan(128)", ""},
		{"", "X80", "Pan(256)", ""},
		{"", "XFF", "Pan(256)", ""},
	})
}

// Section Effects: scream's S, which changes its slot also where it asks for nothing.
func TestScreamDigits(t *testing.T) {
	checkRows(t, api.DScream, []row{
		{"", "S00", "", ""},
		{"1=200", "S00", "Cut(8)", ""},
		{"1=5", "S07", "", "1=7"},
		{"", "S10", "Gliss(0)", "1=16"},
		{"", "S1F", "Gliss(1)", "1=31"},
		{"", "S20", "Finetune(-64)", "1=32"},
		{"", "S27", "Finetune(-8)", "1=39"},
		{"", "S2F", "Finetune(56)", "1=47"},
		{"", "S36", "VibWave(2)", "1=54"},
		{"", "S47", "TremWave(3)", "1=71"},
		{"", "S55", "", "1=85"},
		{"", "S61", "", "1=97"},
		{"", "S73", "", "1=115"},
		{"", "S80", "Pan(0)", "1=128"},
		{"", "S8F", "Pan(256)", "1=143"},
		{"", "S91", "", "1=145"},
		{"", "SA1", "", "1=161"},
		{"", "SB0", "Loop(0)", "1=176"},
		{"", "SB3", "Loop(3)", "1=179"},
		{"", "SC2", "Cut(2)", "1=194"},
		{"", "SD3", "Delay(3)", "1=211"},
		{"", "SE4", "RowDelay(4)", "1=228"},
		{"", "SF5", "", "1=245"},
	})
}

// Section Effects: impulse.
func TestImpulse(t *testing.T) {
	checkRows(t, api.DImpulse, []row{
		{"1=5", "A00", "", ""},
		{"", "A20", "Speed(32)", ""},
		{"", "B03", "Jump(3)", ""},
		{"", "C12", "Break(18)", ""},
		{"", "CFF", "Break(255)", ""},
		{"1=31 5=3", "D00", "VolUp(1)", ""},
		{"", "DF1", "VolDown(1)", "1=241"},
		{"1=31 5=3", "E00", "Down(3)", ""},
		{"", "EE5", "ExtraDown(5)", "5=229"},
		{"", "EF5", "FineDown(5)", "5=245"},
		{"1=31 5=3", "F00", "Up(3)", ""},
		{"", "FE5", "ExtraUp(5)", "5=229"},
		{"", "FF5", "FineUp(5)", "5=245"},
		{"", "F10", "Up(16)", "5=16"},
		{"2=9", "G00", "Tone(9)", ""},
		{"2=9", "GFF", "Tone(255)", "2=255"},
		{"3=52", "H90", "Vibrato(9, 4)", "3=148"},
		{"1=1 6=35", "I00", "Tremor(3, 4)", ""},
		{"1=1 6=35", "I01", "Tremor(1, 2)", "1=1 6=1"},
		{"1=1 7=35", "J00", "Arp(2, 3)", ""},
		{"1=1 7=35", "J50", "Arp(5)", "1=1 7=80"},
		{"1=31 3=98", "K00", "Vibrato(6, 2) VolUp(1)", ""},
		{"1=31 3=98", "K20", "Vibrato(6, 2) VolSlide(2)", "1=32 3=98"},
		{"1=31 2=98", "L00", "Tone(98) VolUp(1)", ""},
		{"1=31 2=98", "LF3", "Tone(98) VolDown(3)", "1=243 2=98"},
		{"", "M00", "ChanVol(0)", ""},
		{"", "M40", "ChanVol(64)", ""},
		{"8=7", "M41", "", ""},
		{"", "MFF", "", ""},
		{"8=35", "N00", "ChanSlide(2, 3)", ""},
		{"8=35", "N04", "ChanSlide(0, 4)", "8=4"},
		{"4=5", "O00", "Offset(1280)", ""},
		{"9=35", "P00", "PanSlide(3, 2)", ""},
		{"9=35", "P04", "PanSlide(4)", "9=4"},
		{"9=35", "P40", "PanSlide(0, 4)", "9=64"},
		{"1=1 10=35", "Q00", "Retrig(3, 2)", ""},
		{"1=1 10=35", "QF1", "Retrig(1, 15)", "1=1 10=241"},
		{"11=35", "R00", "Tremolo(2, 3)", ""},
		{"11=35", "R40", "Tremolo(4, 3)", "11=67"},
		{"13=5", "T00", "TempoSlide(-5)", ""},
		{"", "T00", "TempoSlide(0)", ""},
		{"", "T0F", "TempoSlide(-15)", "13=15"},
		{"", "T10", "TempoSlide(0)", "13=16"},
		{"", "T1F", "TempoSlide(15)", "13=31"},
		{"", "T20", "Tempo(32)", "13=32"},
		{"13=200", "T00", "Tempo(200)", ""},
		{"3=52", "U05", "FineVibrato(3, 5)", "3=53"},
		{"", "V00", "Global(0)", ""},
		{"", "V80", "Global(128)", ""},
		{"14=3", "V81", "", ""},
		{"14=35", "W00", "GlobalSlide(2, 3)", ""},
		{"14=35", "W10", "GlobalSlide(1)", "14=16"},
		{"", "X7F", "Pan(127)", ""},
		{"", "X80", "Pan(129)", ""},
		{"15=35", "Y00", "Panbrello(2, 3)", ""},
		{"15=35", "Y90", "Panbrello(9, 3)", "15=147"},
		{"", "Z00", "Cutoff(0)", ""},
		{"", "Z7F", "Cutoff(127)", ""},
		{"", "Z80", "Resonance(0)", ""},
		{"", "Z8F", "Resonance(120)", ""},
		{"16=3", "Z90", "", ""},
		{"", "ZFF", "", ""},
	})
}

// Section Effects: impulse's S, which changes its slot also where it asks for nothing.
func TestImpulseDigits(t *testing.T) {
	checkRows(t, api.DImpulse, []row{
		{"", "S00", "", ""},
		{"1=1 12=200", "S00", "Cut(8)", ""},
		{"12=5", "S07", "", "12=7"},
		{"", "S11", "", "12=17"},
		{"", "S21", "", "12=33"},
		{"", "S3D", "VibWave(1)", "12=61"},
		{"", "S42", "TremWave(2)", "12=66"},
		{"", "S51", "", "12=81"},
		{"", "S61", "", "12=97"},
		{"", "S70", "Past(0)", "12=112"},
		{"", "S71", "Past(1)", "12=113"},
		{"", "S72", "Past(2)", "12=114"},
		{"", "S73", "NewNote(0)", "12=115"},
		{"", "S76", "NewNote(3)", "12=118"},
		{"", "S77", "", "12=119"},
		{"", "S7F", "", "12=127"},
		{"", "S84", "Pan(68)", "12=132"},
		{"", "S8C", "Pan(205)", "12=140"},
		{"", "S90", "Surround(0)", "12=144"},
		{"", "S91", "Surround(1)", "12=145"},
		{"", "S92", "", "12=146"},
		{"", "S9E", "", "12=158"},
		{"", "S9F", "Reverse(1)", "12=159"},
		{"", "SA1", "", "12=161"},
		{"", "SB0", "Loop(0)", "12=176"},
		{"", "SC2", "Cut(2)", "12=194"},
		{"", "SD3", "Delay(3)", "12=211"},
		{"", "SE4", "RowDelay(4)", "12=228"},
		{"", "SF5", "", "12=245"},
		{"12=159", "S00", "Reverse(1)", ""},
	})
}

// Section Effects: chip.
func TestChip(t *testing.T) {
	checkRows(t, api.DChip, []row{
		{"1=5", "000", "", ""},
		{"", "0C0", "Arp(12)", ""},
		{"5=6", "100", "Up(6)", ""},
		{"5=6", "1F0", "Up(240)", "5=240"},
		{"6=8", "200", "Down(8)", ""},
		{"6=8", "203", "Down(3)", "6=3"},
		{"1=9", "300", "Tone(9)", ""},
		{"1=9", "304", "Tone(4)", "1=4"},
		{"2=52", "480", "Vibrato(8, 4)", "2=132"},
		{"7=33", "A00", "VolSlide(2, 1)", ""},
		{"7=33", "A0F", "VolSlide(0, 15)", "7=15"},
		{"", "B02", "Jump(2)", ""},
		{"", "C10", "Volume(16)", ""},
		{"", "C80", "Volume(64)", ""},
		{"", "D12", "Break(18)", ""},
		{"", "E00", "", ""},
		{"", "E11", "", ""},
		{"", "E51", "", ""},
		{"", "E62", "Loop(2)", ""},
		{"", "E72", "", ""},
		{"", "EA1", "", ""},
		{"", "EB1", "", ""},
		{"", "EC2", "Cut(2)", ""},
		{"", "ED3", "Delay(3)", ""},
		{"", "EE4", "RowDelay(4)", ""},
		{"", "EF1", "", ""},
		{"", "F00", "", ""},
		{"", "F20", "Speed(32)", ""},
		{"", "FFF", "Speed(255)", ""},
		{"", "N00", "Noise(0)", ""},
		{"", "N1F", "Noise(31)", ""},
		{"", "N20", "Noise(0)", ""},
		{"", "NFF", "Noise(31)", ""},
		{"", "S0E", "Shape(14)", ""},
		{"", "S10", "Shape(0)", ""},
		{"", "SFF", "Shape(15)", ""},
	})
}

// Section Notes, volume column.
func TestColumn(t *testing.T) {
	checkRows(t, api.DScream, []row{
		{"1=7", "a00", "Volume(0)", ""},
		{"", "a64", "Volume(64)", ""},
		{"", "a65", "Volume(64)", ""},
		{"", "a99", "Volume(64)", ""},
	})
	shared := []row{
		{"1=7", "a00", "Volume(0)", ""},
		{"", "a99", "Volume(64)", ""},
		{"", "b00", "VolSlide(0)", ""},
		{"", "b15", "VolSlide(15)", ""},
		{"", "b99", "VolSlide(99)", ""},
		{"", "c07", "VolSlide(0, 7)", ""},
		{"", "c99", "VolSlide(0, 99)", ""},
		{"", "d00", "VolUp(0)", ""},
		{"", "d99", "VolUp(99)", ""},
		{"", "e03", "VolDown(3)", ""},
		{"", "e99", "VolDown(99)", ""},
		{"", "f00", "Pan(0)", ""},
		{"", "f32", "Pan(128)", ""},
		{"", "f64", "Pan(256)", ""},
		{"", "f65", "Pan(256)", ""},
	}
	checkRows(t, api.DFast, shared)
	checkRows(t, api.DImpulse, shared)
	checkRows(t, api.DFast, []row{
		{"1=50 2=9", "g00", "Tone(50)", ""},
		{"1=50", "g01", "Tone(16)", "1=16"},
		{"1=50", "g15", "Tone(240)", "1=240"},
		{"1=50", "g16", "Tone(240)", "1=240"},
		{"2=52 3=1", "h00", "Vibrato(3, 4)", ""},
		{"2=52", "h09", "Vibrato(3, 9)", "2=57"},
		{"2=52", "h99", "Vibrato(3, 15)", "2=63"},
	})
	checkRows(t, api.DImpulse, []row{
		{"1=9 2=50", "g00", "Tone(50)", ""},
		{"", "g01", "Tone(1)", "2=1"},
		{"", "g02", "Tone(4)", "2=4"},
		{"", "g03", "Tone(8)", "2=8"},
		{"", "g04", "Tone(16)", "2=16"},
		{"", "g05", "Tone(32)", "2=32"},
		{"", "g06", "Tone(64)", "2=64"},
		{"", "g07", "Tone(96)", "2=96"},
		{"", "g08", "Tone(128)", "2=128"},
		{"", "g09", "Tone(255)", "2=255"},
		{"", "g10", "Tone(255)", "2=255"},
		{"2=1 3=52", "h00", "Vibrato(3, 4)", ""},
		{"3=52", "h16", "Vibrato(3, 15)", "3=63"},
		{"", "i00", "Down(0)", ""},
		{"5=3", "i99", "Down(396)", ""},
		{"", "j01", "Up(4)", ""},
		{"5=3", "j99", "Up(396)", ""},
	})
}

// Details: the effect begins with the memory that the volume command leaves, and its operations come after that one's.
func TestColumnFirst(t *testing.T) {
	checkRows(t, api.DFast, []row{
		{"1=50", "g02 300", "Tone(32) Tone(32)", "1=32"},
		{"1=50 7=1", "g02 500", "Tone(32) Tone(32) VolSlide(0, 1)", "1=32 7=1"},
		{"2=52", "h09 480", "Vibrato(3, 9) Vibrato(8, 9)", "2=137"},
		{"2=52", "h09 610", "Vibrato(3, 9) Vibrato(3, 9) VolSlide(1)", "2=57 7=16"},
		{"", "a32 C10", "Volume(32) Volume(16)", ""},
	})
	checkRows(t, api.DImpulse, []row{
		{"2=50", "g09 G00", "Tone(255) Tone(255)", "2=255"},
		{"1=31 2=50", "g09 L00", "Tone(255) Tone(255) VolUp(1)", "1=31 2=255"},
		{"1=31 3=52", "h01 K00", "Vibrato(3, 1) Vibrato(3, 1) VolUp(1)", "1=31 3=49"},
		{"3=52", "h01 U90", "Vibrato(3, 1) FineVibrato(9, 1)", "3=145"},
	})
	checkRows(t, api.DScream, []row{{"", "a32 D10", "Volume(32) VolSlide(1)", "1=16"}})
}

// Section Examples.
func TestExamples(t *testing.T) {
	checkRows(t, api.DScream, []row{{"", "D0F", "VolSlide(0, 15)", "1=15"}, {"", "DF1", "VolDown(1)", "1=241"}, {"", "D1F", "VolUp(1)", "1=31"}})
	for d, want := range map[int]string{api.DFast: "Up(5)", api.DFour: "Up(0)"} {
		_, m := resolve(t, d, api.Memory{}, commandCell(t, "105"))
		if got, _ := resolve(t, d, m, commandCell(t, "100")); got != want {
			t.Errorf("dialect %d: %q, want %q", d, got, want)
		}
	}
}

// stuck is a cell of compose worked out by hand: what lasts before it and after it, as an effect and its parameter.
type stuck struct {
	effect, param         int
	cell, ops             string
	effectLeft, paramLeft int
}

// Section Effects: compose.
func TestCompose(t *testing.T) {
	for _, s := range []stuck{
		{0, 0, "... .. ... 005", "Up(5)", 1, 5},
		{5, 9, "... .. ... 0FF", "Up(255)", 1, 255},
		{1, 5, "... .. ... 107", "Down(7)", 2, 7},
		{1, 5, "... .. ... 208", "Tone(8)", 3, 8},
		{1, 5, "... .. ... 325", "FineUp(5)", 1, 5},
		{1, 5, "... .. ... 300", "FineUp(0)", 1, 5},
		{1, 5, "... .. ... 425", "Vibrato(2, 5)", 5, 37},
		{1, 5, "... .. ... 506", "Speed(6)", 1, 5},
		{1, 5, "... .. ... 500", "", 1, 5},
		{1, 5, "... .. ... 000", "", 0, 0},
		{1, 5, "... .. ... 100", "", 0, 0},
		{1, 5, "... .. ... 200", "", 0, 0},
		{1, 5, "... .. ... 400", "", 0, 0},
		{1, 5, "... .. ... ...", "Up(5)", 1, 5},
		{2, 5, "... 03 ... ...", "Down(5)", 2, 5},
		{3, 5, "... .. ... ...", "Tone(5)", 3, 5},
		{4, 37, "... .. ... ...", "FineUp(5)", 4, 37},
		{5, 37, "... .. ... ...", "Vibrato(2, 5)", 5, 37},
		{6, 7, "... .. ... ...", "Speed(7)", 6, 7},
		{6, 0, "... .. ... ...", "", 6, 0},
		{1, 0, "... .. ... ...", "", 1, 0},
		{5, 0, "... .. ... ...", "", 5, 0},
		{4, 0, "... .. ... ...", "FineUp(0)", 4, 0},
		{7, 5, "... .. ... ...", "", 7, 5},
		{36, 5, "... .. ... ...", "", 36, 5},
		{0, 5, "... .. ... ...", "", 0, 5},
		{0, 0, "... .. ... ...", "", 0, 0},
		{1, 5, "C-5 .. ... ...", "", 0, 0},
		{1, 5, "C-5 02 ... ...", "", 0, 0},
		{36, 5, "C-5 .. ... ...", "", 0, 0},
		{0, 5, "C-5 .. ... ...", "", 0, 0},
		{1, 5, "C-5 02 ... 107", "Down(7)", 2, 7},
		{1, 5, "C-5 02 ... 325", "FineUp(5)", 1, 5},
		{1, 5, "C-5 02 ... 100", "", 0, 0},
	} {
		m := memories(2, false)[1]
		m.Effect, m.Param = s.effect, s.param
		got, left := resolve(t, api.DCompose, m, parsed(t, s.cell))
		m.Effect, m.Param = s.effectLeft, s.paramLeft
		if got != s.ops || left != m {
			t.Errorf("%s with %d, %d: %q, want %q; %v", s.cell, s.effect, s.param, got, s.ops, left)
		}
	}
}

// Section Effects: an effect of compose lasts until a note, an effect with 0, or another one that lasts.
func TestComposeLasts(t *testing.T) {
	var m api.Memory
	var got string
	for _, step := range []struct{ cell, ops string }{
		{"C-4 01 ... 003", "Up(3)"},
		{"... .. ... ...", "Up(3)"},
		{"... 01 ... ...", "Up(3)"},
		{"... .. ... 504", "Speed(4)"},
		{"... .. ... 302", "FineUp(2)"},
		{"... .. ... ...", "Up(3)"},
		{"... .. ... 412", "Vibrato(1, 2)"},
		{"... .. ... ...", "Vibrato(1, 2)"},
		{"... .. ... 000", ""},
		{"... .. ... ...", ""},
		{"... .. ... 2FF", "Tone(255)"},
		{"... .. ... ...", "Tone(255)"},
		{"D-4 .. ... ...", ""},
		{"... .. ... ...", ""},
	} {
		if got, m = resolve(t, api.DCompose, m, parsed(t, step.cell)); got != step.ops {
			t.Errorf("%s: %q, want %q", step.cell, got, step.ops)
		}
	}
}
