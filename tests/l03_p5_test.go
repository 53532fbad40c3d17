package tests

import (
	"math"
	"slices"
	"strings"
	"testing"

	"loop.example/g01229/impl"
)

// Promise 5: hotter flues draw more, and what is shut lets nothing go; chimneys are read from their texts.

// These results were calculated with exact fractions, rounded after each operation.
func TestP5KnownDensities(t *testing.T) {
	for heat, bits := range map[float32]uint32{-60: 0x3fd421a7, 60: 0x3f87b00c, 1500: 0x3e4be03c, 0: 0x3fa58258, 20: 0x3f9a362c, 33.3: 0x3f9383f9, 80: 0x3f800000} {
		a, code := impl.DenseAt(heat)
		isNumberAnd(t, "DenseAt", a, math.Float32frombits(bits), code, impl.OK)
	}
}

func TestP5DenseAtIsAsTold(t *testing.T) {
	for _, heat := range goodHeats {
		a, code := impl.DenseAt(heat)
		isNumberAnd(t, "DenseAt", a, modelDense(heat), code, impl.OK)
	}
	last := float32(2)
	for heat := float32(-60); heat <= 1500; heat += 0.375 {
		a, code := impl.DenseAt(heat)
		isNumberAnd(t, "DenseAt", a, modelDense(heat), code, impl.OK)
		if a >= last {
			t.Errorf("at %v degrees air is as dense as when it is cooler: %v", heat, a)
		}
		last = a
	}
}

// As those of DenseAt.
func TestP5KnownFlows(t *testing.T) {
	f := sixFlues()[1]
	for _, c := range []struct {
		outside, push       float32
		draft, resist, flow uint32
	}{
		{-7.3, 0, 0x41342002, 0x42af0bc1, 0x3eb7a074},
		{12.1, -33.3, 0x4116823a, 0x42af0bc1, 0xbf05c1c4},
		{60, -1000, 0x40b85331, 0x42af0bc1, 0xc057b509},
		{-60, 1000, 0x418fe7c7, 0x42af0bc1, 0x405a44a5},
	} {
		draft, one := impl.DraftOf(f, c.outside)
		resist, two := impl.ResistOf(f)
		flow, three := impl.FlowThrough(f, c.outside, c.push)
		isNumberAnd(t, "DraftOf", draft, math.Float32frombits(c.draft), one, impl.OK)
		isNumberAnd(t, "ResistOf", resist, math.Float32frombits(c.resist), two, impl.OK)
		isNumberAnd(t, "FlowThrough", flow, math.Float32frombits(c.flow), three, impl.OK)
	}
}

func (d *dice) push() float32 {
	return d.pick(-1000, 1000, 0, negZero, tiny, -tiny, d.share()*2000-1000, d.share()*200-100, d.share()*2-1)
}

// isFlueAsTold compares all that is told of a single flue with the model.
func isFlueAsTold(t *testing.T, f impl.Flue, outside, push float32) {
	t.Helper()
	draft, one := impl.DraftOf(f, outside)
	isNumberAnd(t, "DraftOf", draft, modelDraft(f, outside), one, impl.OK)
	resist, two := impl.ResistOf(f)
	if want := modelResist(f); want <= big {
		isNumberAnd(t, "ResistOf", resist, want, two, impl.OK)
	} else {
		isNumberAnd(t, "ResistOf", resist, 0, two, impl.ErrState)
	}
	flow, three := impl.FlowThrough(f, outside, push)
	isNumberAnd(t, "FlowThrough", flow, modelFlow(f, outside, push), three, impl.OK)
}

func TestP5FluesAreAsTold(t *testing.T) {
	d := dice(51)
	for range 20000 {
		isFlueAsTold(t, d.flue(), d.outside(), d.push())
	}
	for _, f := range changedFlues(true) {
		for _, outside := range []float32{-60, negZero, 0, 20, 60} {
			for _, push := range []float32{-1000, -1, -tiny, negZero, 0, tiny, 1, 1000} {
				isFlueAsTold(t, f, outside, push)
			}
		}
	}
}

func TestP5HotterFluesDrawMore(t *testing.T) {
	d := dice(52)
	for range 500 {
		f, outside, push := d.plainFlue(), d.outside(), d.share()*20-10
		var heats []float32
		for range 40 {
			heats = append(heats, d.heat())
		}
		slices.Sort(heats)
		lastHeat, lastDraft, lastFlow := float32(-60), -big, -big
		for _, heat := range heats {
			f.Heat = heat
			draft, _ := impl.DraftOf(f, outside)
			flow, _ := impl.FlowThrough(f, outside, push)
			single, _ := impl.FlowsOf([]impl.Flue{f}, outside, 0-push)
			if draft < lastDraft || flow < lastFlow || heat > lastHeat+1 && draft == lastDraft || heat > lastHeat+50 && flow == lastFlow {
				t.Errorf("%v: outside %v, push %v: %v behind %v, flow %v behind %v", f, outside, push, draft, lastDraft, flow, lastFlow)
			}
			areNumbers(t, "a flue alone", single, []float32{flow}, impl.OK, impl.OK)
			if heat > outside+1 && draft <= 0 || heat < outside-1 && draft >= 0 {
				t.Errorf("%v: outside %v: the draft is %v", f, outside, draft)
			}
			lastHeat, lastDraft, lastFlow = heat, draft, flow
		}
	}
}

// The more a flue is pushed, and the wider it is open, the more goes.
func TestP5PushesAndDampersHelp(t *testing.T) {
	d := dice(53)
	for range 300 {
		f, outside := d.plainFlue(), d.outside()
		last := -big
		for push := float32(-1000); push <= 1000; push += 12.5 {
			flow, _ := impl.FlowThrough(f, outside, push)
			if flow <= last {
				t.Errorf("%v: outside %v, push %v: %v behind %v", f, outside, push, flow, last)
			}
			last = flow
		}
		last = -1
		for part := range 65 {
			f.Damper = float32(part) / 64
			flow, _ := impl.FlowThrough(f, outside, 400)
			if flow <= last {
				t.Errorf("%v: outside %v: %v behind %v", f, outside, flow, last)
			}
			last = flow
		}
	}
}

func TestP5WhatIsShutLetsNothingGo(t *testing.T) {
	d := dice(54)
	for range 500 {
		f := d.flue()
		f.Damper = 0
		for _, push := range []float32{-1000, -1, -tiny, negZero, 0, tiny, 1, 1000, d.push()} {
			flow, code := impl.FlowThrough(f, d.outside(), push)
			isNumberAnd(t, "a shut flue", flow, 0, code, impl.OK)
		}
		resist, code := impl.ResistOf(f)
		isNumberAnd(t, "a shut flue", resist, 0, code, impl.ErrState)
		c := d.chimney()
		shut := d.roll(len(c))
		c[shut].Damper = 0
		flows, code := impl.FlowsOf(c, d.outside(), d.wind())
		isNumberAnd(t, "a shut flue of a chimney", flows[shut], 0, code, impl.OK)
	}
}

// Where nothing comes, nothing goes, nearly.
func TestP5ShutBranchesBringNothing(t *testing.T) {
	c := sixFlues()
	c[1].Damper, c[2].Damper = 0, 0
	for _, wind := range []float32{-100, -3, 0, 7, 100} {
		flows, code := impl.FlowsOf(c, 5, wind)
		if flows[1] != 0 || flows[2] != 0 || math.Abs(float64(flows[0])) > 0.01 || code != impl.OK {
			t.Errorf("wind %v: got %v and the code %d", wind, flows, code)
		}
	}
}

func TestP5SignsOfFlows(t *testing.T) {
	f := impl.Flue{Height: 4, Wide: 0.5, Heat: 20, Damper: 1, Into: -1}
	wide := impl.Flue{Height: 1.0 / 16, Wide: 4, Heat: 20, Damper: 1, Into: -1}
	nearlyShut := f
	nearlyShut.Damper = 1e-30
	for _, c := range []struct {
		name       string
		flue       impl.Flue
		push, want float32
	}{
		{"up", f, 32, 2}, {"down", f, -32, -2}, {"up a little", f, 1.0 / 128, 1.0 / 32}, {"down a little", f, -1.0 / 128, -1.0 / 32},
		{"nothing", f, 0, 0}, {"nothing", f, negZero, 0},
		{"up, but lost", f, tiny, 0}, {"down, but lost", f, -tiny, negZero},
		{"up, and kept", wide, tiny, modelFlow(wide, 20, tiny)}, {"down, and kept", wide, -tiny, -modelFlow(wide, 20, tiny)},
		{"up through nearly nothing", nearlyShut, 1000, 0}, {"down through nearly nothing", nearlyShut, -1000, negZero},
	} {
		flow, code := impl.FlowThrough(c.flue, 20, c.push)
		isNumberAnd(t, c.name, flow, c.want, code, impl.OK)
	}
	if modelFlow(wide, 20, tiny) <= 0 {
		t.Error("the wide flue has to keep a tiny push")
	}
	draft, _ := impl.DraftOf(f, 0)
	flow, code := impl.FlowThrough(f, 0, -draft)
	isNumberAnd(t, "just balanced", flow, 0, code, impl.OK)
	more, _ := impl.FlowThrough(f, 0, above(-draft))
	less, _ := impl.FlowThrough(f, 0, below(-draft))
	if more <= 0 || less >= 0 {
		t.Errorf("beside the balance: got %v and %v", more, less)
	}
	d := dice(55)
	for range 1000 {
		f, push := d.flue(), d.push()
		f.Heat = 20
		up, _ := impl.FlowThrough(f, 20, push)
		down, _ := impl.FlowThrough(f, 20, -push)
		isNumber(t, "without a draft", float32(math.Abs(float64(up))), float32(math.Abs(float64(down))))
	}
}

// The squares of such dampers are subnormal, or 0.
func TestP5ResistancesThatAreNotFinite(t *testing.T) {
	codes := map[int64]int{}
	for damper := float32(4e-19); damper > 1e-21; damper *= 0.97 {
		f := impl.Flue{Height: 4, Wide: 0.5, Heat: 1500, Damper: damper, Into: -1}
		isFlueAsTold(t, f, 0, 1000)
		isFlueAsTold(t, f, 0, -1000)
		_, code := impl.ResistOf(f)
		codes[code]++
	}
	if codes[impl.OK] < 20 || codes[impl.ErrState] < 20 {
		t.Errorf("too few of a kind: %v", codes)
	}
	smallest := impl.Flue{Height: 1.0 / 16, Wide: 1.0 / 64, Heat: 20, Damper: tiny, Into: -1}
	resist, code := impl.ResistOf(smallest)
	isNumberAnd(t, "a square of 0", resist, 0, code, impl.ErrState)
}

const sixText = "40e9999a 3e9eb852 4354b333 3f59999a -\n40066666 3e6147ae 43344ccd 3f19999a 0\n406ccccd 3e2e147b c1480000 3ecccccd 0\n" +
	"40e9999a 3e9eb852 4354b333 3f59999a -\n3ff33333 3e800000 44200666 3f800000 3\n41333333 3ecccccd 42053333 3d8f5c29 -\n"

func isChimneyText(t *testing.T, name string, c []impl.Flue, want string) {
	t.Helper()
	if got := impl.ChimneyText(c); got != want {
		t.Errorf("%s: got %q, want %q", name, got, want)
	}
}

func TestP5ChimneysAreReadFromTheirTexts(t *testing.T) {
	isChimneyText(t, "sixFlues", sixFlues(), sixText)
	isChimneyText(t, "forked", forked(), "40800000 3f000000 42a00000 3f800000 2\n40800000 3f000000 42a00000 3f800000 2\n40800000 3f000000 42a00000 3f800000 -\n")
	isChimneyText(t, "-0", []impl.Flue{{Height: 30, Wide: 4, Heat: negZero, Damper: 0, Into: -1}}, "41f00000 40800000 80000000 00000000 -\n")
	isChimneyText(t, "no flue", nil, "")
	list := goodChimneys()
	d := dice(56)
	for range 500 {
		list = append(list, d.chimney())
	}
	for _, c := range list {
		isChimneyText(t, "ChimneyText", c, modelChimneyText(c))
		got, code := impl.ReadChimney(impl.ChimneyText(c))
		isChimney(t, "ReadChimney", got, c, code, impl.OK)
	}
}

// chimneyTextsOfNone are not just so.
func chimneyTextsOfNone() []string {
	list := []string{
		"", "\n", " ", "-", "-\n", "x", "log", "\n" + sixText, " " + sixText, sixText + "\n", sixText + " ", sixText + "-\n",
		strings.TrimSuffix(sixText, "\n"), strings.TrimSuffix(sixText, "\n") + " \n", strings.TrimSuffix(sixText, "-\n"),
		strings.ReplaceAll(sixText, "\n", "\r\n"), strings.ReplaceAll(sixText, "\n", "\n\n"), strings.ReplaceAll(sixText, "\n", " \n"),
		strings.ReplaceAll(sixText, "\n", "\n "), strings.ReplaceAll(sixText, " ", "  "), strings.ReplaceAll(sixText, " ", "\t"),
		strings.ToUpper(sixText), sixText + "41333333 3ecccccd 42053333 3d8f5c29 -\n", burningText, "stove 00000000 00000000 00000000 cold 0\n",
		strings.Replace(sixText, "3d8f5c29 -", "3d8f5c29 5", 1), strings.Replace(sixText, "3f800000 3", "3f800000 2", 1), strings.Replace(sixText, "3f800000 3", "3f800000 6", 1),
	}
	words := strings.Fields("40800000 3f000000 42a00000 3f800000 0")
	first := "40800000 3f000000 42a00000 3f800000 -\n"
	for at, others := range [][]string{
		{"", "3d7fffff", "41f00001", "00000000", "80000000", "c0800000", "7f800000", "7fc00000", "4080000", "040800000", "4", "4.0", "height"},
		{"", "3c7fffff", "40800001", "00000000", "80000000", "bf000000", "7f800000", "7fc00000", "0.5"},
		{"", "c2700001", "44bb8001", "7f800000", "ff800000", "7fc00000", "42A00000", "80"},
		{"", "3f800001", "80000000", "bf800000", "7fc00000", "1", "0"},
		{"", "1", "2", "-1", "-2", "00", "+0", "-0", "0.", "0x0", "0_0", "--", "- ", " -", "none", "9223372036854775808", "18446744073709551616", "０", "0 0"},
	} {
		for _, other := range others {
			line := slices.Clone(words)
			line[at] = other
			list = append(list, first+strings.Join(line, " ")+"\n")
		}
		list = append(list, first+strings.Join(slices.Delete(slices.Clone(words), at, at+1), " ")+"\n")
	}
	return list
}

func TestP5NoChimneys(t *testing.T) {
	for _, text := range chimneyTextsOfNone() {
		c, code := impl.ReadChimney(text)
		isChimney(t, text, c, nil, code, impl.ErrSyntax)
	}
	c, code := impl.ReadChimney("40800000 3f000000 42a00000 3f800000 -\n40800000 3f000000 42a00000 3f800000 0\n")
	isChimney(t, "but this is one", c, endingAt(-1, 0), code, impl.OK)
}

func TestP5Example(t *testing.T) {
	f := likeTheExample(-1)
	dense, one := impl.DenseAt(80)
	isNumberAnd(t, "DenseAt", dense, 1, one, impl.OK)
	resist, two := impl.ResistOf(f)
	isNumberAnd(t, "ResistOf", resist, 8, two, impl.OK)
	draft, three := impl.DraftOf(f, 0)
	flow, four := impl.FlowThrough(f, 0, 0)
	if three != impl.OK || four != impl.OK || math.Abs(float64(draft)-11.4286) > 1e-3 || math.Abs(float64(flow)-1.1952) > 1e-3 {
		t.Errorf("got the draft %v, the flow %v and the codes %d and %d", draft, flow, three, four)
	}
}
