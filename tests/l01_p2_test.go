package tests

import (
	"fmt"
	"math"
	"strings"
	"testing"

	"loop.example/g01229/impl"
)

// Promise 2: logs are read from their texts; heat that flows in is there, nearly.

// grownLog is the log of the texts below; these were calculated with exact fractions, rounded after each operation.
func grownLog() impl.Wood {
	return impl.Wood{
		Wet:  [6]float32{0.5, 0.4, 0.3, 0.2, 0.1, 0.05},
		Heat: [6]float32{20.5, 19, 18.25, 17, 16.1, 15},
		Fuel: [6]float32{1, 1.1, 1.2, 1.3, 1.4, 1.5},
	}
}

const grownText = "log 3f000000 41a40000 3f800000 3ecccccd 41980000 3f8ccccd 3e99999a 41920000 3f99999a 3e4ccccd 41880000 3fa66666 3dcccccd 4180cccd 3fb33333 3d4ccccd 41700000 3fc00000"

const warmText = "log 3f000000 428a5973 3f800000 3ecccccd 4198425f 3f8ccccd 3e99999a 4191d174 3f99999a 3e4ccccd 4188225e 3fa66666 3dcccccd 4180b806 3fb33333 3d4ccccd 4170e48c 3fc00000"

func TestP2NumberText(t *testing.T) {
	for _, c := range []struct {
		number float32
		text   string
	}{
		{0, "00000000"}, {negZero, "80000000"}, {1, "3f800000"}, {-1, "bf800000"}, {0.1, "3dcccccd"}, {tiny, "00000001"},
		{-tiny, "80000001"}, {big, "7f7fffff"}, {inf, "7f800000"}, {-inf, "ff800000"}, {nan, "7fc00000"},
		{math.Float32frombits(0x007fffff), "007fffff"}, {math.Float32frombits(0x00abcdef), "00abcdef"},
	} {
		if got := impl.NumberText(c.number); got != c.text {
			t.Errorf("NumberText(%v): got %q, want %q", c.number, got, c.text)
		}
		a, code := impl.ReadNumber(c.text)
		isNumber(t, c.text, a, c.number)
		isCode(t, c.text, code, impl.OK)
	}
	for _, bits := range []uint32{0x7f800001, 0x7fc00001, 0x7fffffff, 0xff800001, 0xffc00000, 0xffffffff} {
		if got := impl.NumberText(math.Float32frombits(bits)); got != "7fc00000" {
			t.Errorf("NumberText of the NaN %08x: got %q", bits, got)
		}
	}
}

func TestP2NumbersAreReadFromTheirTexts(t *testing.T) {
	for k := uint64(0); k < 1<<32; k += 65521 {
		bits := uint32(k)
		want := math.Float32frombits(bits)
		text := fmt.Sprintf("%08x", bits)
		a, code := impl.ReadNumber(text)
		if want != want && bits != 0x7fc00000 {
			isCode(t, text, code, impl.ErrSyntax)
			isNumber(t, text, a, 0)
			continue
		}
		isCode(t, text, code, impl.OK)
		isNumber(t, text, a, want)
		if impl.NumberText(a) != text {
			t.Errorf("%s: got the text %s", text, impl.NumberText(a))
		}
	}
}

func TestP2NoNumbers(t *testing.T) {
	for _, text := range []string{
		"", "0", "3f80000", "3f8000000", "03f800000", "3F800000", "3f80000A", "7FC00000", "7fc00001", "7f800001", "7fffffff",
		"ff800001", "ffc00000", "ffffffff", "3f80000g", "3f80000 ", " 3f80000", "3f800000 ", " 3f800000", "3f800000\n", "3f80000\n",
		"\n3f80000", "0x3f8000", "+3f80000", "-3f80000", "3f_80000", "3f8.0000", "3f8000\x00\x00", "１２", "NaN", "log",
	} {
		a, code := impl.ReadNumber(text)
		isNumber(t, text, a, 0)
		isCode(t, text, code, impl.ErrSyntax)
	}
}

func TestP2LogsAreReadFromTheirTexts(t *testing.T) {
	if got := impl.WoodText(grownLog()); got != grownText {
		t.Errorf("WoodText: got %q", got)
	}
	w, code := impl.ReadWood(grownText)
	isLog(t, "ReadWood", w, grownLog(), float32(code), impl.OK)
	d := dice(3)
	for range 500 {
		want := d.log()
		text := impl.WoodText(want)
		got, code := impl.ReadWood(text)
		isLog(t, text, got, want, float32(code), impl.OK)
		if impl.WoodText(got) != text {
			t.Errorf("%q has another text", text)
		}
	}
	for _, edge := range []impl.Wood{{}, logOf(10, 1500, 10), logOf(0, -60, 0), logOf(tiny, negZero, tiny)} {
		got, code := impl.ReadWood(impl.WoodText(edge))
		isLog(t, "edge", got, edge, float32(code), impl.OK)
	}
}

func TestP2NoLogs(t *testing.T) {
	words := strings.Split(grownText, " ")
	with := func(at int, word string) string {
		changed := append([]string{}, words...)
		changed[at] = word
		return strings.Join(changed, " ")
	}
	texts := []string{
		"", "log", "log ", grownText + " ", " " + grownText, grownText + "\n", grownText + " 00000000", "\n" + grownText,
		grownText[:len(grownText)-1], grownText + "0", grownText[:len(grownText)-9], strings.TrimPrefix(grownText, "log "),
		strings.Replace(grownText, " ", "  ", 1), strings.Replace(grownText, " ", "\t", 1), strings.ReplaceAll(grownText, " ", "\n"),
		strings.Replace(grownText, " ", "", 1), strings.ToUpper(grownText), strings.Replace(grownText, "\x20", "\u00a0", 1),
		with(0, "Log"), with(0, "LOG"), with(0, "logs"), with(0, ""), with(0, "lo"), with(1, "3F000000"), with(5, "41980000\n"),
	}
	for at := 1; at < len(words); at++ {
		texts = append(texts, with(at, "7fc00000"), with(at, "7f800000"), with(at, "ffc00000"), with(at, ""), with(at, "0000000g"), with(at, strings.ToUpper("4198abcd")))
		if at%3 == 2 {
			texts = append(texts, with(at, impl.NumberText(above(1500))), with(at, impl.NumberText(below(-60))))
		} else {
			texts = append(texts, with(at, impl.NumberText(above(10))), with(at, "80000000"), with(at, "bf800000"))
		}
	}
	for _, text := range texts {
		w, code := impl.ReadWood(text)
		isLog(t, text, w, impl.Wood{}, float32(code), impl.ErrSyntax)
	}
}

func TestP2SumsAndMeans(t *testing.T) {
	d := dice(4)
	for range 500 {
		w := d.log()
		water, one := impl.WaterOf(w)
		fuel, two := impl.FuelOf(w)
		mean, three := impl.MeanHeat(w)
		isLog(t, "sums", w, w, water, modelRow(w.Wet), fuel, modelRow(w.Fuel), mean, over(modelRow(w.Heat), 6),
			float32(one), impl.OK, float32(two), impl.OK, float32(three), impl.OK)
	}
	cold, code := impl.MeanHeat(logOf(0, negZero, 0))
	isNumber(t, "the mean of -0", cold, negZero)
	isCode(t, "the mean of -0", code, impl.OK)
}

func TestP2WarmStepExample(t *testing.T) {
	w, taken, code := impl.WarmStep(grownLog(), 612.3, 0.7)
	if impl.WoodText(w) != warmText || bitsOf(taken) != 0x434f2147 || code != impl.OK {
		t.Errorf("got %q, %08x, %d", impl.WoodText(w), bitsOf(taken), code)
	}
}

func TestP2WarmStepIsAsTold(t *testing.T) {
	d := dice(5)
	for range 3000 {
		w, around, time := d.log(), d.around(), d.shareOrEdge()
		want, flow := modelWarm(w, around, time)
		got, taken, code := impl.WarmStep(w, around, time)
		isLog(t, "WarmStep", got, want, taken, flow, float32(code), impl.OK)
	}
	for _, time := range []float32{0, tiny, 1} {
		for _, around := range []float32{0, negZero, tiny, -tiny, big, -big} {
			for _, heat := range []float32{0, negZero, -60, 1500} {
				w := logOf(0, heat, 0)
				want, flow := modelWarm(w, around, time)
				got, taken, code := impl.WarmStep(w, around, time)
				isLog(t, "WarmStep at edges", got, want, taken, flow, float32(code), impl.OK)
			}
		}
	}
}

func TestP2HeatsAreHeld(t *testing.T) {
	w := logOf(0, 20, 0)
	hot, _, one := impl.WarmStep(w, big, 1)
	cold, _, two := impl.WarmStep(w, -big, 1)
	want := logOf(0, 20, 0)
	want.Heat[0] = 1500
	isLog(t, "hot", hot, want, float32(one), impl.OK)
	want.Heat[0] = -60
	isLog(t, "cold", cold, want, float32(two), impl.OK)
}

// stored is how much heat a log has above 0 degrees.
func stored(w impl.Wood) float64 {
	sum := 0.0
	for i := range 6 {
		sum += float64(modelMass(w, i)) * float64(w.Heat[i])
	}
	return sum
}

func TestP2HeatThatFlowsInIsThere(t *testing.T) {
	d := dice(6)
	for range 1000 {
		var w impl.Wood
		for i := range 6 {
			w.Wet[i], w.Heat[i], w.Fuel[i] = d.share()*4, 300+d.share()*300, 1+d.share()*9
		}
		around := d.share() * 1500
		after, taken, _ := impl.WarmStep(w, around, d.shareOrEdge())
		if gap := stored(after) - stored(w) - float64(taken); math.Abs(gap) > 0.05 {
			t.Fatalf("%v: the heat differs by %v", w, gap)
		}
	}
	for _, heat := range []float32{-60, -1, 0, 20, 99.5, 100} {
		w := logOf(0.7, heat, 1.3)
		after, taken, _ := impl.WarmStep(w, heat, 1)
		same, lost, steam, fuel, code := impl.LogStep(w, heat, 1, 1)
		isLog(t, "as hot as around", after, w, taken, 0)
		isLog(t, "a step of it", same, w, lost, 0, steam, 0, fuel, 0, float32(code), impl.OK)
	}
}

func TestP2SplitWood(t *testing.T) {
	d := dice(7)
	for range 500 {
		w := d.log()
		want := w
		for i := range 6 {
			want.Wet[i], want.Fuel[i] = over(w.Wet[i], 2), over(w.Fuel[i], 2)
		}
		half := want
		for _, pair := range [][2]int{{0, 5}, {2, 3}, {4, 1}} {
			if i, k := pair[0], pair[1]; half.Wet[i] > half.Wet[k] {
				want.Wet[i], want.Heat[i], want.Fuel[i] = half.Wet[k], half.Heat[k], half.Fuel[k]
				want.Wet[k], want.Heat[k], want.Fuel[k] = half.Wet[i], half.Heat[i], half.Fuel[i]
			}
		}
		got, code := impl.SplitWood(w)
		isLog(t, "SplitWood", got, want, float32(code), impl.OK)
	}
}

// A number that is halved may become that with which it is compared: then the layers stay.
func TestP2SplitWoodComparesHalves(t *testing.T) {
	w := logOf(4*tiny, 20, 2)
	w.Wet[5], w.Heat[5] = 3*tiny, 50
	want := logOf(2*tiny, 20, 1)
	want.Heat[5] = 50
	got, code := impl.SplitWood(w)
	isLog(t, "equal halves", got, want, float32(code), impl.OK)
}

func TestP2MixWoods(t *testing.T) {
	d := dice(8)
	for count := 1; count <= 8; count++ {
		for range 50 {
			list := []impl.Wood{}
			for range count {
				list = append(list, d.log())
			}
			var want impl.Wood
			for i := range 6 {
				wet, heat, fuel := list[0].Wet[i], list[0].Heat[i], list[0].Fuel[i]
				for _, w := range list[1:] {
					wet, heat, fuel = plus(wet, w.Wet[i]), plus(heat, w.Heat[i]), plus(fuel, w.Fuel[i])
				}
				n := float32(count)
				want.Wet[i], want.Heat[i], want.Fuel[i] = over(wet, n), over(heat, n), over(fuel, n)
			}
			got, code := impl.MixWoods(list)
			isLog(t, "MixWoods", got, want, float32(code), impl.OK)
		}
	}
	cold := logOf(1, negZero, 2)
	one, code := impl.MixWoods([]impl.Wood{cold})
	isLog(t, "one log", one, cold, float32(code), impl.OK)
	top := logOf(10, 1500, 10)
	all, code := impl.MixWoods([]impl.Wood{top, top, top, top, top, top, top, top})
	isLog(t, "eight logs", all, top, float32(code), impl.OK)
}
