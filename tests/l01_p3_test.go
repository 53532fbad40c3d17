package tests

import (
	"math"
	"reflect"
	"testing"

	"loop.example/g01229/impl"
)

// Promise 3: water and fuel only become less, by what is told; steps are steps at once, bit for bit.

// hotLog has layers just at 100 and 250 degrees, and on both sides of them.
func hotLog() impl.Wood {
	w := grownLog()
	w.Heat = [6]float32{1499, 700.7, 100, 333.3, 250, 101}
	return w
}

// dryLog has layers with Wet of just 0.125 and a little less, and one with hardly any fuel.
func dryLog() impl.Wood {
	w := hotLog()
	w.Wet = [6]float32{0, 0.1, 0.125, 0, 0.12, 0}
	w.Fuel[0] = 0.001
	return w
}

func isText(t *testing.T, name string, w impl.Wood, want string) {
	t.Helper()
	if got := impl.WoodText(w); got != want {
		t.Errorf("%s: got %q, want %q", name, got, want)
	}
}

// These results were calculated with exact fractions, rounded after each operation.
func TestP3KnownSteps(t *testing.T) {
	w, steam, code := impl.DryStep(hotLog(), 0.7)
	isText(t, "DryStep", w, "log 00000000 449df697 3f800000 00000000 43fb95a7 3f8ccccd 3e99999a 42c80000 3f99999a 00000000 435fb600 3fa66666 00000000 4340076c 3fb33333 3d4710cb 42c86077 3fc00000")
	isLog(t, "DryStep", w, w, steam, math.Float32frombits(0x3f99c77a), float32(code), impl.OK)
	w, heat, fuel, code := impl.BurnStep(dryLog(), 0.8, 0.7)
	isText(t, "BurnStep", w, "log 00000000 44bb8000 00000000 3dcccccd 445b744d 3f58fcd6 3e000000 42c80000 3f99999a 00000000 43b70489 3fa06dd6 3df5c28f 437a0000 3fb33333 00000000 42ca0000 3fc00000")
	isLog(t, "BurnStep", w, w, heat, math.Float32frombits(0x44bb8667), fuel, math.Float32frombits(0x3e999ed8), float32(code), impl.OK)
	w, heat, steam, fuel, code = impl.LogStep(dryLog(), 612.3, 0.8, 0.7)
	isText(t, "LogStep", w, "log 00000000 c2700000 3a83126f 00000000 444d8a29 3f614efe 3d764e60 42d24bda 3f99999a 00000000 43a97a4a 3fa1d292 00000000 4332c116 3fb33333 00000000 42da0bd1 3fc00000")
	isLog(t, "LogStep", w, w, heat, math.Float32frombits(0x44c69304), steam, math.Float32frombits(0x3e91da0b), fuel, math.Float32frombits(0x3e82e48a), float32(code), impl.OK)
}

func TestP3KnownRuns(t *testing.T) {
	for _, c := range []struct {
		steps       int64
		text        string
		steam, fuel uint32
	}{
		{0, grownText, 0, 0},
		{1, warmText, 0, 0},
		{2, "log 3ef783b8 42d013e3 3f800000 3ecccccd 41a95068 3f8ccccd 3e99999a 4191abb8 3f99999a 3e4ccccd 41883e36 3fa66666 3dcccccd 4180ace5 3fb33333 3d4ccccd 4171bb64 3fc00000", 0x3c87c47d, 0},
		{40, "log 00000000 44937bed 00000000 00000000 43ac4bed 3f7986fc 3e897f66 42cdeb45 3f99999a 3e4ccccd 4237d347 3fa66666 3dcccccd 41c80888 3fb33333 3d4ccccd 41971cb5 3fc00000", 0x3f6e7381, 0x3f90094f},
		{impl.MaxLogSteps, "log 00000000 44bb8000 00000000 00000000 c2700000 00000000 00000000 44bb8000 00000000 00000000 c2700000 00000000 00000000 44bb8000 00000000 00000000 43960000 00000000", 0x3fc66667, 0x40f00002},
	} {
		w, steam, fuel, code := impl.LogSteps(grownLog(), 612.3, 0.8, 0.7, c.steps)
		isText(t, "LogSteps", w, c.text)
		isLog(t, "LogSteps", w, w, steam, math.Float32frombits(c.steam), fuel, math.Float32frombits(c.fuel), float32(code), impl.OK)
	}
}

func TestP3DryStepIsAsTold(t *testing.T) {
	d := dice(11)
	for range 3000 {
		w, time := d.log(), d.shareOrEdge()
		want, all := modelDry(w, time)
		got, steam, code := impl.DryStep(w, time)
		isLog(t, "DryStep", got, want, steam, all, float32(code), impl.OK)
	}
}

func TestP3BurnStepIsAsTold(t *testing.T) {
	d := dice(12)
	for range 3000 {
		w, air, time := d.log(), d.shareOrEdge(), d.shareOrEdge()
		for i := range 6 {
			w.Wet[i] = d.pick(w.Wet[i], 0, d.share()/8)
		}
		want, heats, all := modelBurn(w, air, time)
		got, heat, fuel, code := impl.BurnStep(w, air, time)
		isLog(t, "BurnStep", got, want, heat, heats, fuel, all, float32(code), impl.OK)
	}
}

func TestP3Edges(t *testing.T) {
	for _, c := range []struct {
		wet, heat    float32
		dries, burns bool
	}{
		{1, 100, false, false}, {1, above(100), true, false}, {0.125, 300, true, false}, {below(0.125), 300, true, true},
		{0.0625, 250, true, false}, {0.0625, above(250), true, true}, {0.0625, below(250), true, false}, {0, 1500, false, true}, {0, -60, false, false},
	} {
		w := logOf(c.wet, c.heat, 1)
		dry, steam, _ := impl.DryStep(w, 1)
		after, heat, fuel, _ := impl.BurnStep(w, 1, 1)
		if (steam > 0) != c.dries || sameLog(dry, w) == c.dries {
			t.Errorf("%v: dries %v by %v", c, dry, steam)
		}
		if (fuel > 0) != c.burns || (heat > 0) != c.burns || sameLog(after, w) == c.burns {
			t.Errorf("%v: burns %v by %v and gives %v", c, after, fuel, heat)
		}
		still, none, _ := impl.DryStep(w, 0)
		isLog(t, "no time to dry", still, w, none, 0)
		for _, share := range [][2]float32{{0, 1}, {1, 0}, {0, 0}} {
			same, heat, fuel, code := impl.BurnStep(w, share[0], share[1])
			isLog(t, "no air or no time", same, w, heat, 0, fuel, 0, float32(code), impl.OK)
		}
	}
	w, steam, _ := impl.DryStep(logOf(10, 101, 0), 1)
	isLog(t, "not less than 100", w, logOf(minus(10, times(1, 0.002)), 101-over(times(2000, 0.002), 40.25), 0), steam, sumOf(0.002, 0.002, 0.002, 0.002, 0.002, 0.002))
	w, _, _ = impl.DryStep(logOf(0.01, 106, 0), 1)
	isLog(t, "held at 100", w, logOf(0, 100, 0))
	w, heat, fuel, _ := impl.BurnStep(logOf(0, 1490, 10), 1, 1)
	gone := times(minus(1490, 250), 0.001)
	isLog(t, "held at 1500", w, logOf(0, 1500, minus(10, gone)), fuel, sumOf(gone, gone, gone, gone, gone, gone),
		heat, sumOf(times(5000, gone), times(5000, gone), times(5000, gone), times(5000, gone), times(5000, gone), times(5000, gone)))
}

func TestP3LogStepIsAsTold(t *testing.T) {
	d := dice(13)
	for range 3000 {
		w, around, air, time := d.log(), d.around(), d.shareOrEdge(), d.shareOrEdge()
		want, heats, steams, all := modelStep(w, around, air, time)
		got, heat, steam, fuel, code := impl.LogStep(w, around, air, time)
		isLog(t, "LogStep", got, want, heat, heats, steam, steams, fuel, all, float32(code), impl.OK)
	}
}

func TestP3LogStepIsItsSteps(t *testing.T) {
	d := dice(14)
	for range 500 {
		w, around, air, time := d.log(), d.around(), d.shareOrEdge(), d.shareOrEdge()
		warm, taken, _ := impl.WarmStep(w, around, time)
		dry, steam, _ := impl.DryStep(warm, time)
		want, given, burnt, _ := impl.BurnStep(dry, air, time)
		got, heat, water, fuel, code := impl.LogStep(w, around, air, time)
		isLog(t, "LogStep", got, want, heat, minus(given, taken), water, steam, fuel, burnt, float32(code), impl.OK)
	}
}

func TestP3StepsAreStepsAtOnce(t *testing.T) {
	d := dice(15)
	for range 100 {
		w, around, air, time := d.log(), d.around(), d.shareOrEdge(), d.shareOrEdge()
		want := w
		var steams, all float32
		for steps := int64(0); steps <= 12; steps++ {
			got, steam, fuel, code := impl.LogSteps(w, around, air, time, steps)
			isLog(t, "LogSteps", got, want, steam, steams, fuel, all, float32(code), impl.OK)
			next, _, steamNow, fuelNow, _ := impl.LogStep(want, around, air, time)
			want, steams, all = next, plus(steams, steamNow), plus(all, fuelNow)
		}
		first, _, _, _ := impl.LogSteps(w, around, air, time, 137)
		parts, _, _, _ := impl.LogSteps(first, around, air, time, impl.MaxLogSteps-137)
		once, _, _, code := impl.LogSteps(w, around, air, time, impl.MaxLogSteps)
		isLog(t, "in parts", parts, once, float32(code), impl.OK)
	}
}

func TestP3WaterAndFuelBecomeLess(t *testing.T) {
	d := dice(16)
	for range 1000 {
		w, around, air, time := d.log(), d.around(), d.shareOrEdge(), d.shareOrEdge()
		after, _, steam, fuel, _ := impl.LogStep(w, around, air, time)
		for i := range 6 {
			if after.Wet[i] > w.Wet[i] || after.Fuel[i] > w.Fuel[i] {
				t.Fatalf("%v became %v", w, after)
			}
		}
		water, _ := impl.WaterOf(w)
		left, _ := impl.WaterOf(after)
		full, _ := impl.FuelOf(w)
		rest, _ := impl.FuelOf(after)
		if math.Abs(float64(water-left-steam)) > 1e-4 || math.Abs(float64(full-rest-fuel)) > 1e-4 {
			t.Fatalf("%v: water %v, %v, %v; fuel %v, %v, %v", w, water, left, steam, full, rest, fuel)
		}
	}
}

func modelStepsToDry(w impl.Wood, around, time float32, most int64) (int64, int64) {
	for n := int64(0); n <= most; n++ {
		if modelRow(w.Wet) < 0.015625 {
			return n, impl.OK
		}
		w, _, _, _ = modelStep(w, around, 0, time)
	}
	return 0, impl.ErrBudget
}

func TestP3StepsToDry(t *testing.T) {
	check := func(name string, w impl.Wood, around, time float32, most, want, wantCode int64) {
		t.Helper()
		n, code := impl.StepsToDry(w, around, time, most)
		if n != want || code != wantCode {
			t.Errorf("%s: got %d, %d, want %d, %d", name, n, code, want, wantCode)
		}
	}
	check("known", grownLog(), 612.3, 0.7, impl.MaxLogSteps, 165, impl.OK)
	check("just enough", grownLog(), 612.3, 0.7, 165, 165, impl.OK)
	check("one too few", grownLog(), 612.3, 0.7, 164, 0, impl.ErrBudget)
	check("without water", logOf(0, 20, 1), 20, 0, 0, 0, impl.OK)
	check("never", logOf(1, 20, 1), 20, 1, impl.MaxLogSteps, 0, impl.ErrBudget)
	w := logOf(0, 20, 1)
	w.Wet[2] = 1.0 / 64
	check("just 1/64", w, 20, 1, 5, 0, impl.ErrBudget)
	w.Wet[2] = below(1.0 / 64)
	check("less than 1/64", w, 20, 1, 5, 0, impl.OK)
	d := dice(17)
	for range 300 {
		w, around, time, most := d.log(), d.around(), d.shareOrEdge(), int64(d.roll(40))
		for i := range 6 {
			w.Wet[i] = d.pick(0, 0.002, d.share()/2, d.share()/16)
		}
		want, wantCode := modelStepsToDry(w, around, time, most)
		check("any", w, around, time, most, want, wantCode)
	}
}

func TestP3BurningLayers(t *testing.T) {
	check := func(name string, w impl.Wood, want ...int64) {
		t.Helper()
		got, code := impl.BurningLayers(w)
		if len(got) != len(want) || len(want) > 0 && !reflect.DeepEqual(got, want) || code != impl.OK {
			t.Errorf("%s: got %v, %d, want %v", name, got, code, want)
		}
	}
	check("all", logOf(0, 300, 1), 0, 1, 2, 3, 4, 5)
	check("just 250", logOf(0, 250, 1))
	check("more than 250", logOf(0, above(250), 1), 0, 1, 2, 3, 4, 5)
	check("just 0.125", logOf(0.125, 300, 1))
	check("less than 0.125", logOf(below(0.125), 300, 1), 0, 1, 2, 3, 4, 5)
	check("no fuel", logOf(0, 300, 0))
	check("hardly any fuel", logOf(0, 300, tiny), 0, 1, 2, 3, 4, 5)
	check("dryLog", dryLog(), 0, 1, 3)
	d := dice(18)
	for range 500 {
		w := d.log()
		var want []int64
		for i := range 6 {
			if w.Heat[i] > 250 && w.Wet[i] < 0.125 && w.Fuel[i] > 0 {
				want = append(want, int64(i))
			}
		}
		check("any", w, want...)
	}
}
