package tests

import (
	"math"
	"slices"
	"strings"
	"testing"

	"loop.example/g01229/impl"
)

// Promise 8: what flows into rooms, through walls and outside adds up, nearly.

func TestP8Example(t *testing.T) {
	f := exampleFlat()
	loss, code := impl.LossOf(f, 0)
	isNumberAnd(t, "LossOf", loss, 20, code, impl.OK)
	after, gone, code := impl.StepFlat(f, 0, 0, []float32{0}, 0.5)
	isFlat(t, "StepFlat", after, withHeatsOf(f, 19), code, impl.OK)
	isNumber(t, "StepFlat", gone, 10)
	energy, code := impl.EnergyOf(f)
	isNumberAnd(t, "EnergyOf", energy, 200, code, impl.OK)
	longest, code := impl.LongestTime(f)
	isNumberAnd(t, "LongestTime", longest, 10, code, impl.OK)
	flows, code := impl.RoomFlows(f, 0, 7)
	areNumbers(t, "a pane without sun", flows, []float32{-20}, code, impl.OK)
}

// knownWeather has what threeRooms do in it; all was calculated with exact fractions, rounded after each operation.
type knownWeather struct {
	outside, sun float32
	gains        []float32
	time         float32
	steps        int64
	loss         uint32
	flows        []uint32
	gone         uint32
	once         []uint32
	goneOften    uint32
	often        []uint32
}

func knownWeathers() []knownWeather {
	return []knownWeather{
		{-7.3, 0, []float32{0, 0, 0}, 0.3, 25,
			0x42484395, []uint32{0xc2706662, 0xc02df390, 0x40193746},
			0x4170511a, []uint32{
				0x4196dc5d, 0x418f010d, 0xc0964a7a, 0x41a04714, 0x419b5fc6, 0x41966666, 0x4191999a, 0x4177db3f, 0x4111a762, 0x40534ec4,
				0xc00e7ca7, 0xc040a110, 0x403964d7, 0x410cbf9c, 0x416c7c45},
			0x439b413d, []uint32{
				0x4128d343, 0x4184dbe7, 0xc0918bf6, 0x414044af, 0x4162ebcb, 0x4179c461, 0x41835ed6, 0x41731426, 0x41128751, 0x40538942,
				0xc02f663f, 0xc0094f43, 0x404343fc, 0x4102360e, 0x4135b6ba}},
		{31.7, 2.25, []float32{55.5, -31.25, 0.1}, 0.21, 400,
			0xc3172c8c, []uint32{0xc0f55c0c, 0xbfcbe720, 0x42be5687},
			0xc1fdf8eb, []uint32{
				0x41a8d425, 0x418d8b06, 0xc0935c8c, 0x41a06f32, 0x419b5267, 0x41966666, 0x4191999a, 0x4177e646, 0x4111a340, 0x4053467f,
				0xbff4c48b, 0xc0425c43, 0x403974ab, 0x410cc391, 0x416b9eab},
			0xc5b33462, []uint32{
				0x42192a21, 0x415a854f, 0x419a33b0, 0x420c838a, 0x41e71f2b, 0x41b5e137, 0x41854480, 0x41481f93, 0x414a10da, 0x41842123,
				0x41cd602c, 0x41a15118, 0x41bcd7f0, 0x41e49156, 0x420b17c5}},
		{-22.9, 10, []float32{200.3, 120.7, -77.7}, 0.05, 7,
			0x43028fde, []uint32{0xc2915c27, 0x40120c70, 0xbf6d0e88},
			0x40d0e630, []uint32{
				0x41a67bdd, 0x4190ad61, 0xc096ff3f, 0x41a0b683, 0x419b3aa1, 0x41966666, 0x4191999a, 0x4177f9e0, 0x41119be6, 0x405337cb,
				0xc00ef292, 0xc045702d, 0x403990cf, 0x410cca9a, 0x416a14b7},
			0x4238f462, []uint32{
				0x41bb4178, 0x4199312d, 0xc09a8cd7, 0x41a5294a, 0x419b9e6e, 0x419689a8, 0x4193732e, 0x4177f280, 0x4111a98a, 0x405348a7,
				0xc01bb4e2, 0xc0403f71, 0x40397786, 0x410ccee3, 0x416e75ed}},
	}
}

func TestP8KnownFlowsAndSteps(t *testing.T) {
	f := threeRooms()
	energy, code := impl.EnergyOf(f)
	isNumberAnd(t, "EnergyOf", energy, math.Float32frombits(0x44e12ccd), code, impl.OK)
	longest, code := impl.LongestTime(f)
	isNumberAnd(t, "LongestTime", longest, math.Float32frombits(0x3eeb3e44), code, impl.OK)
	for _, c := range knownWeathers() {
		loss, code := impl.LossOf(f, c.outside)
		isNumberAnd(t, "LossOf", loss, math.Float32frombits(c.loss), code, impl.OK)
		flows, code := impl.RoomFlows(f, c.outside, c.sun)
		areNumbers(t, "RoomFlows", flows, numbersOf(c.flows...), code, impl.OK)
		once, gone, code := impl.StepFlat(f, c.outside, c.sun, c.gains, c.time)
		isFlat(t, "StepFlat", once, withHeatsOf(f, numbersOf(c.once...)...), code, impl.OK)
		isNumber(t, "StepFlat", gone, math.Float32frombits(c.gone))
		often, gone, code := impl.StepsFlat(f, c.outside, c.sun, c.gains, c.time, c.steps)
		isFlat(t, "StepsFlat", often, withHeatsOf(f, numbersOf(c.often...)...), code, impl.OK)
		isNumber(t, "StepsFlat", gone, math.Float32frombits(c.goneOften))
	}
}

func TestP8SumsAndFlowsAreAsTold(t *testing.T) {
	d := dice(86)
	codes := map[int64]int{}
	for range 3000 {
		f, outside, sun := d.flat(), d.outside(), d.sun()
		energy, code := impl.EnergyOf(f)
		isNumberAnd(t, "EnergyOf", energy, modelEnergy(f), code, impl.OK)
		loss, code := impl.LossOf(f, outside)
		isNumberAnd(t, "LossOf", loss, modelLoss(f, outside), code, impl.OK)
		flows, code := impl.RoomFlows(f, outside, sun)
		areNumbers(t, "RoomFlows", flows, modelRoomFlows(f, outside, sun), code, impl.OK)
		want, wantCode := modelLongest(f)
		longest, code := impl.LongestTime(f)
		isNumberAnd(t, "LongestTime", longest, want, code, wantCode)
		codes[code]++
	}
	if codes[impl.ErrNotFound] < 20 || codes[impl.ErrState] < 5 {
		t.Errorf("too few of a kind: %v", codes)
	}
}

func TestP8StepFlatIsAsTold(t *testing.T) {
	d := dice(87)
	codes := map[int64]int{}
	for range 4000 {
		f, outside, sun, time := d.flat(), d.outside(), d.sun(), d.pick(0, tiny, 1, d.share()/1000, d.share()/100, d.share())
		gains := d.gainsFor(f, d.pick(1, 1000, 100000))
		want, wantGone, wantCode := modelStepFlat(f, outside, sun, gains, time)
		got, gone, code := impl.StepFlat(f, outside, sun, gains, time)
		isFlat(t, "StepFlat", got, want, code, wantCode)
		isNumber(t, "StepFlat", gone, wantGone)
		codes[code]++
	}
	if codes[impl.OK] < 500 || codes[impl.ErrState] < 500 {
		t.Errorf("too few of a kind: %v", codes)
	}
}

func TestP8StepsFlatIsAsTold(t *testing.T) {
	d := dice(88)
	codes := map[int64]int{}
	for range 400 {
		f, outside, sun, time, steps := d.calmFlat(), d.share()*40-10, d.share(), d.share()/16, int64(d.roll(60))
		if d.roll(2) == 0 {
			time = d.share()
		}
		gains := d.gainsFor(f, d.pick(100, 2000))
		want, wantGone, wantCode := modelStepsFlat(f, outside, sun, gains, time, steps)
		got, gone, code := impl.StepsFlat(f, outside, sun, gains, time, steps)
		isFlat(t, "StepsFlat", got, want, code, wantCode)
		isNumber(t, "StepsFlat", gone, wantGone)
		codes[code]++
	}
	if codes[impl.OK] < 100 || codes[impl.ErrState] < 20 {
		t.Errorf("too few of a kind: %v", codes)
	}
}

func TestP8StepsAreStepsAtOnce(t *testing.T) {
	d := dice(89)
	for range 60 {
		first, outside, sun, gains := d.calmFlat(), d.share()*40-10, d.share(), []float32(nil)
		gains = d.gainsFor(first, 50)
		f, all := first, float32(0)
		for n := range int64(20) {
			at, gone, code := impl.StepsFlat(first, outside, sun, gains, 0.0625, n)
			isFlat(t, "steps at once", at, f, code, impl.OK)
			isNumber(t, "what has gone", gone, all)
			next, now, code := impl.StepFlat(f, outside, sun, gains, 0.0625)
			isCode(t, "StepFlat", code, impl.OK)
			f, all = next, plus(all, now)
		}
	}
}

// storedIn is how much heat a flat has, in wide numbers.
func storedIn(f impl.Flat) float64 {
	sum := 0.0
	for i, heat := range f.Heat {
		sum += float64(heat) * float64(f.Store[i])
	}
	for _, w := range f.Walls {
		for _, heat := range w.Heat {
			sum += float64(heat) * float64(w.Store)
		}
	}
	return sum
}

func TestP8WhatFlowsAddsUp(t *testing.T) {
	d := dice(90)
	for range 1000 {
		f, outside, sun, time := d.calmFlat(), d.share()*40-10, d.share()*3, d.share()/16
		gains := d.gainsFor(f, 50)
		after, gone, code := impl.StepFlat(f, outside, sun, gains, time)
		isCode(t, "StepFlat", code, impl.OK)
		in := 0.0
		for _, gain := range gains {
			in += float64(gain) * float64(time)
		}
		for _, p := range f.Panes {
			in += float64(p.Sun) * float64(sun) * float64(time)
		}
		if gap := storedIn(after) - storedIn(f) - in + float64(gone); math.Abs(gap) > 0.02 {
			t.Errorf("%v: %v has come, %v has gone, and %v is missing", f, in, gone, gap)
		}
		energy, code := impl.EnergyOf(f)
		isCode(t, "EnergyOf", code, impl.OK)
		if stored := storedIn(f); math.Abs(float64(energy)-stored) > 1e-5*stored {
			t.Errorf("%v: got the energy %v, want %v", f, energy, stored)
		}
	}
}

// What goes out of rooms goes into walls, through panes or outside.
func TestP8RoomFlowsAddUp(t *testing.T) {
	d := dice(91)
	for range 500 {
		f, outside, sun := d.calmFlat(), d.share()*40-10, d.share()
		flows, _ := impl.RoomFlows(f, outside, sun)
		loss, _ := impl.LossOf(f, outside)
		sum := float64(loss)
		for _, flow := range flows {
			sum += float64(flow)
		}
		for _, p := range f.Panes {
			sum -= float64(p.Sun) * float64(sun)
		}
		for _, w := range f.Walls {
			sum += 2 * float64(w.Lead) * (float64(f.Heat[w.A]) - float64(w.Heat[0]))
			sum += 2 * float64(w.Lead) * (float64(modelHeatAt(f.Heat, w.B, outside)) - float64(w.Heat[3]))
		}
		if math.Abs(sum) > 0.01 {
			t.Errorf("%v: %v is missing", f, sum)
		}
	}
}

// Up to the longest time no heat is beyond those before, without gains and without sun.
func TestP8CalmSteps(t *testing.T) {
	d := dice(92)
	for range 500 {
		f, outside := d.calmFlat(), d.share()*40-10
		longest, code := impl.LongestTime(f)
		isCode(t, "LongestTime", code, impl.OK)
		heats := append(allHeatsOf(f), outside)
		after, _, code := impl.StepFlat(f, outside, 0, make([]float32, len(f.Heat)), min(longest, 1))
		isCode(t, "StepFlat", code, impl.OK)
		for _, heat := range allHeatsOf(after) {
			if heat < slices.Min(heats)-1e-4 || heat > slices.Max(heats)+1e-4 {
				t.Errorf("%v: the time %v makes %v", f, longest, after)
			}
		}
	}
}

func TestP8LongestTimes(t *testing.T) {
	check := func(name string, f impl.Flat, want float32, wantCode int64) {
		t.Helper()
		got, code := impl.LongestTime(f)
		isNumberAnd(t, name, got, want, code, wantCode)
	}
	check("nothing", flatWith(3, 3, 0, 0), 0, impl.ErrNotFound)
	closed := flatWith(2, 2, 0, 8)
	for i := range closed.Panes {
		closed.Panes[i].Lead = 0
	}
	check("no lead", closed, 0, impl.ErrNotFound)
	closed.Panes[7].Lead = tiny
	check("hardly a lead", closed, 0, impl.ErrState)
	closed.Panes[6] = impl.Pane{A: 1, B: -1, Lead: 0.5}
	check("hardly a lead, and one", closed, 20, impl.OK)
	closed.Panes[6] = impl.Pane{A: 1, B: -1, Lead: 10 / big * 2}
	check("the least lead with a time", closed, over(10, 10/big*2), impl.OK)
	wall := flatWith(1, 1, 1, 0)
	wall.Store[0], wall.Walls[0].Lead, wall.Walls[0].Store = 10000, 1.0/64, 3
	check("an outer part", wall, 64, impl.OK)
	wall.Store[0] = 1
	check("a room with a wall", wall, 32, impl.OK)
	wall.Walls[0].Store = 1
	check("an outer part that is less", wall, over(1, 3.0/64), impl.OK)
	wall.Walls = append(wall.Walls, impl.Wall{A: 0, B: -1, Lead: 100, Store: 1})
	wall.Store[0] = 150
	check("another wall", wall, over(1, 300), impl.OK)
	wall.Store[0], wall.Walls[1].Store = 1, 10000
	check("the room", wall, over(1, 200+1.0/32), impl.OK)
	between := flatWith(2, 2, 0, 1)
	between.Panes[0] = impl.Pane{A: 0, B: 1, Lead: 4}
	between.Store = []float32{100, 8}
	check("the other side of a pane", between, 2, impl.OK)
}

// What is the same on both sides, -0 and what is lost in roundings.
func TestP8SignedZeros(t *testing.T) {
	alone := flatWith(1, 1, 0, 0)
	for _, c := range []struct{ heat, gain, time, want float32 }{
		{negZero, 0, 1, 0}, {negZero, negZero, 1, 0}, {negZero, -5, 0, negZero}, {negZero, 5, 0, 0}, {negZero, -tiny, 0.25, negZero},
		{0, -5, 0, 0}, {0, negZero, 1, 0}, {negZero, -tiny, 1, negZero}, {negZero, tiny, 1, 0},
	} {
		after, gone, code := impl.StepFlat(withHeatsOf(alone, c.heat), 0, 0, []float32{c.gain}, c.time)
		isFlat(t, "a room alone", after, withHeatsOf(alone, c.want), code, impl.OK)
		isNumber(t, "nothing goes", gone, 0)
	}
	for _, heat := range []float32{negZero, 0} {
		energy, code := impl.EnergyOf(withHeatsOf(alone, heat))
		isNumberAnd(t, "a sum of one product", energy, heat, code, impl.OK)
		energy, code = impl.EnergyOf(withHeatsOf(flatWith(2, 2, 1, 0), heat, heat, negZero, negZero, negZero, negZero))
		isNumberAnd(t, "a sum of several products", energy, heat, code, impl.OK)
		energy, code = impl.EnergyOf(withHeatsOf(flatWith(2, 2, 1, 0), negZero, negZero, negZero, negZero, negZero, heat))
		isNumberAnd(t, "a sum of several products", energy, heat, code, impl.OK)
	}
	loss, code := impl.LossOf(withHeatsOf(exampleFlat(), -5), -5)
	isNumberAnd(t, "LossOf", loss, 0, code, impl.OK)
	shut := exampleFlat()
	shut.Panes[0].Lead = 0
	loss, code = impl.LossOf(shut, 30)
	isNumberAnd(t, "a sum that begins with 0", loss, 0, code, impl.OK)
	flows, code := impl.RoomFlows(shut, -30, 0)
	areNumbers(t, "a sum that begins with 0", flows, []float32{0}, code, impl.OK)
	_, gone, code := impl.StepFlat(exampleFlat(), 30, 0, []float32{0}, 0)
	isNumberAnd(t, "a loss that is less than 0, times 0", gone, negZero, code, impl.OK)
	_, gone, code = impl.StepsFlat(exampleFlat(), 30, 0, []float32{0}, 0, 2)
	isNumberAnd(t, "a sum that begins with 0", gone, 0, code, impl.OK)
}

func TestP8NearlyNothing(t *testing.T) {
	d := dice(93)
	hardly := func() float32 { return d.pick(0, negZero, 0, negZero, tiny, -tiny, 1e-39, -1e-39) }
	for range 3000 {
		f := d.flat()
		for i := range f.Heat {
			f.Heat[i] = hardly()
		}
		for i := range f.Walls {
			for k := range 4 {
				f.Walls[i].Heat[k] = hardly()
			}
		}
		for i := range f.Panes {
			f.Panes[i].Sun = 0
		}
		var gains []float32
		for range f.Heat {
			gains = append(gains, hardly())
		}
		outside, time := hardly(), d.pick(0, tiny, 0.25, 1)
		want, wantGone, wantCode := modelStepFlat(f, outside, 0, gains, time)
		got, gone, code := impl.StepFlat(f, outside, 0, gains, time)
		isFlat(t, "StepFlat", got, want, code, wantCode)
		isNumber(t, "StepFlat", gone, wantGone)
		loss, code := impl.LossOf(f, outside)
		isNumberAnd(t, "LossOf", loss, modelLoss(f, outside), code, impl.OK)
		energy, code := impl.EnergyOf(f)
		isNumberAnd(t, "EnergyOf", energy, modelEnergy(f), code, impl.OK)
	}
}

// A heat may be -60 or 200 behind a step, and not the next number beyond.
func TestP8StepsToTheBounds(t *testing.T) {
	alone := flatWith(1, 1, 0, 0)
	alone.Store[0] = 1
	for _, c := range []struct {
		heat, gain, want float32
		code             int64
	}{
		{190, 10, 200, impl.OK}, {190, above(10), 200, impl.OK}, {199, above(1.0001), 0, impl.ErrState}, {above(199), 1, 0, impl.ErrState},
		{-50, -10, -60, impl.OK}, {-59, below(-1.0001), 0, impl.ErrState}, {below(-59), -1, 0, impl.ErrState}, {200, 0, 200, impl.OK}, {-60, 0, -60, impl.OK},
		{200, 100000, 0, impl.ErrState}, {-60, -100000, 0, impl.ErrState},
	} {
		f := withHeatsOf(alone, c.heat)
		want := impl.Flat{}
		if c.code == impl.OK {
			want = withHeatsOf(alone, c.want)
		}
		got, _, code := impl.StepFlat(f, 0, 0, []float32{c.gain}, 1)
		isFlat(t, "StepFlat", got, want, code, c.code)
		got, _, code = impl.StepsFlat(f, 0, 0, []float32{c.gain}, 1, 1)
		isFlat(t, "StepsFlat", got, want, code, c.code)
		got, _, code = impl.StepsFlat(f, 0, 0, []float32{c.gain}, 1, 0)
		isFlat(t, "no steps", got, f, code, impl.OK)
	}
	for part := range 4 {
		f := flatWith(1, 1, 1, 0)
		f.Heat[0], f.Walls[0].Lead, f.Walls[0].Store = 200, 100, 1
		f.Walls[0].Heat = [4]float32{-60, -60, -60, -60}
		f.Walls[0].Heat[part] = 200
		got, gone, code := impl.StepFlat(f, -60, 0, []float32{0}, 1)
		isFlat(t, "a part", got, impl.Flat{}, code, impl.ErrState)
		isNumber(t, "a part", gone, 0)
	}
}

// A step of several that would not be valid is told, although later ones could come back.
func TestP8TheFirstStepWithAnErrorIsTold(t *testing.T) {
	f := flatWith(1, 1, 0, 1)
	f.Store[0] = 1
	f.Heat[0] = 60
	f.Panes[0].Lead = 3
	for steps := range int64(8) {
		want, wantGone, wantCode := modelStepsFlat(f, 40, 0, []float32{0}, 1, steps)
		got, gone, code := impl.StepsFlat(f, 40, 0, []float32{0}, 1, steps)
		isFlat(t, "StepsFlat", got, want, code, wantCode)
		isNumber(t, "StepsFlat", gone, wantGone)
		if (code == impl.OK) != (steps < 3) {
			t.Errorf("%d steps: got the code %d", steps, code)
		}
	}
}

func TestP8SetPane(t *testing.T) {
	d := dice(94)
	for range 300 {
		f := d.flat()
		for i := range f.Panes {
			lead := d.pick(goodLeads...)
			want := copyFlat(f)
			want.Panes[i].Lead = lead
			got, code := impl.SetPane(f, int64(i), lead)
			isFlat(t, "SetPane", got, want, code, impl.OK)
		}
	}
}

// swappedFlat gives the rooms their other numbers one by one.
func swappedFlat(f impl.Flat, a, b int64) impl.Flat {
	other := map[int64]int64{-1: -1}
	for i := range f.Heat {
		other[int64(i)] = int64(i)
	}
	other[a], other[b] = b, a
	swap := copyFlat(f)
	for i := range f.Heat {
		swap.Heat[i], swap.Store[i] = f.Heat[other[int64(i)]], f.Store[other[int64(i)]]
	}
	for i := range f.Walls {
		swap = withWallAt(swap, i, other[f.Walls[i].A], other[f.Walls[i].B])
	}
	for i := range f.Panes {
		swap = withPaneAt(swap, i, other[f.Panes[i].A], other[f.Panes[i].B])
	}
	return swap
}

func TestP8SwapRooms(t *testing.T) {
	d := dice(95)
	for range 300 {
		f := d.flat()
		a, b := int64(d.roll(len(f.Heat))), int64(d.roll(len(f.Heat)))
		got, code := impl.SwapRooms(f, a, b)
		isFlat(t, "SwapRooms", got, swappedFlat(f, a, b), code, impl.OK)
		back, code := impl.SwapRooms(got, b, a)
		isFlat(t, "twice", back, f, code, impl.OK)
		same, code := impl.SwapRooms(f, a, a)
		isFlat(t, "a room with itself", same, f, code, impl.OK)
	}
}

// Rooms with other numbers have the same heats.
func TestP8OtherNumbersOfRoomsMakeNoOtherHeats(t *testing.T) {
	d := dice(96)
	for range 200 {
		f, outside, sun := d.calmFlat(), d.share()*40-10, d.share()
		gains := d.gainsFor(f, 20)
		a, b := int64(d.roll(len(f.Heat))), int64(d.roll(len(f.Heat)))
		swap, _ := impl.SwapRooms(f, a, b)
		swapped := slices.Clone(gains)
		swapped[a], swapped[b] = gains[b], gains[a]
		after, gone, _ := impl.StepsFlat(f, outside, sun, gains, 0.0625, 10)
		other, goneToo, code := impl.StepsFlat(swap, outside, sun, swapped, 0.0625, 10)
		isFlat(t, "StepsFlat", other, swappedFlat(after, a, b), code, impl.OK)
		isNumber(t, "StepsFlat", goneToo, gone)
		one, _ := impl.StillFlat(f, outside, sun, gains)
		two, code := impl.StillFlat(swap, outside, sun, swapped)
		isCode(t, "StillFlat", code, impl.OK)
		for i, heat := range allHeatsOf(swappedFlat(one, a, b)) {
			if gap := heat - allHeatsOf(two)[i]; math.Abs(float64(gap)) > 0.01 {
				t.Errorf("%v: still heats differ by %v", f, gap)
			}
		}
	}
}

const threeRoomsText = "room 41a26666 41480000\nroom 418f3333 42053333\nroom c0966666 4352b333\n" +
	"wall 0 1 406ccccd 40a33333 41a0cccd 419b3333 41966666 4191999a\nwall 1 - 3f547ae1 4231999a 41780000 4111999a 40533333 c00ccccd\n" +
	"wall 2 0 3ff33333 418d999a c0466666 4039999a 410ccccd 4169999a\n" +
	"pane 0 - 3fa66666 3f451eb8\npane 1 0 3ee66666 00000000\npane 2 - 400ccccd 40466666\npane 1 2 3db851ec 3f000000\n"

func TestP8FlatsAreReadFromTheirTexts(t *testing.T) {
	if got := impl.FlatText(threeRooms()); got != threeRoomsText {
		t.Errorf("got the text %q", got)
	}
	flats := []impl.Flat{threeRooms()}
	for _, f := range goodFlats() {
		flats = append(flats, f)
	}
	d := dice(97)
	for range 300 {
		flats = append(flats, d.flat())
	}
	for _, f := range flats {
		text := impl.FlatText(f)
		if text != modelFlatText(f) {
			t.Errorf("%v: got the text %q", f, text)
		}
		got, code := impl.ReadFlat(text)
		isFlat(t, text, got, f, code, impl.OK)
	}
	got, code := impl.ReadFlat("room 80000000 3f800000\n")
	isFlat(t, "-0", got, impl.Flat{Heat: []float32{negZero}, Store: []float32{1}}, code, impl.OK)
}

// notQuiteTexts change a text of a flat a little.
func notQuiteTexts() []string {
	text := threeRoomsText
	list := []string{"", "\n", " ", "room", "room\n", "wall\n", "pane\n", "x", "pane 0 - 3f800000 00000000\n", text + "\n", "\n" + text, text[:len(text)-1], text + " ", text + "x", text + text}
	for i := range text {
		if !strings.HasSuffix(text[:i], "\n") {
			list = append(list, text[:i])
		}
		list = append(list, text[:i]+" "+text[i:], text[:i]+"\n"+text[i:], text[:i]+"0"+text[i:], text[:i]+"\r"+text[i:])
		if i > 0 {
			list = append(list, text[i:], text[:i]+text[i+1:])
		}
		if upper := strings.ToUpper(text[i : i+1]); upper != text[i:i+1] {
			list = append(list, text[:i]+upper+text[i+1:])
		}
	}
	return list
}

// exchanged is a text with one part of it replaced once.
func exchanged(old, with string) string { return strings.Replace(threeRoomsText, old, with, 1) }

// wrongTexts have lines in another order, and words that stand for no number, or for one that is not valid.
func wrongTexts() []string {
	lines := strings.SplitAfter(strings.TrimSuffix(threeRoomsText, "\n"), "\n")
	lines[len(lines)-1] += "\n"
	move := func(from, to int) string {
		moved := slices.Delete(slices.Clone(lines), from, from+1)
		return strings.Join(slices.Insert(moved, to, lines[from]), "")
	}
	list := []string{
		move(0, 9), move(2, 3), move(3, 2), move(9, 3), move(6, 5), move(6, 0), move(5, 9),
		exchanged(" - ", " -1 "), exchanged(" - ", " -0 "), exchanged(" - ", " 3 "), exchanged(" - ", " -2 "), exchanged(" - ", " 1 "), exchanged(" - ", " -- "), exchanged(" - ", "  "),
		exchanged("wall 0", "wall -"), exchanged("wall 0", "wall +0"), exchanged("wall 0", "wall 00"), exchanged("wall 0", "wall 1"), exchanged("wall 0", "wall x"),
		exchanged("wall 0", "wall 18446744073709551616"), exchanged("pane 0", "pane -"), exchanged("pane 0", "pane 3"), exchanged("pane 0", "pane 0x0"),
		exchanged("room", "Room"), exchanged("room", "rooms"), exchanged("wall", "pane"), exchanged("pane", "wall"), exchanged("room", "wall"), exchanged("wall", "room"),
		exchanged("41a26666", "7fc00000"), exchanged("41a26666", "7f800000"), exchanged("41a26666", "43480001"), exchanged("41a26666", "c2700001"), exchanged("41a26666", "41A26666"),
		exchanged("41a26666", "0x1a2666"), exchanged("41a26666", "+1a26666"), exchanged("41a26666", "41a2666g"), exchanged("41a26666", "1a26666"), exchanged("41480000", "80000000"),
		exchanged("406ccccd", "00000000"), exchanged("3fa66666", "80000000"), exchanged("00000000", "80000000"), exchanged("3f451eb8", "41200001"), exchanged("3fa66666", "42c80001"),
	}
	long := strings.Repeat(lines[0], 6)
	list = append(list, long, lines[0]+strings.Repeat("wall 0 - 3f800000 3f800000 00000000 00000000 00000000 00000000\n", 11), lines[0]+strings.Repeat("pane 0 - 00000000 00000000\n", 9))
	return append(list, strings.ReplaceAll(threeRoomsText, "\n", "\r\n"), strings.ReplaceAll(threeRoomsText, " ", "\t"), strings.ReplaceAll(threeRoomsText, "\n", " "))
}

func TestP8NoFlats(t *testing.T) {
	for _, text := range append(notQuiteTexts(), wrongTexts()...) {
		if text == threeRoomsText {
			t.Error("a text is not changed")
		}
		f, code := impl.ReadFlat(text)
		isFlat(t, text, f, impl.Flat{}, code, impl.ErrSyntax)
	}
}

// Without some of its last lines a text is that of a smaller flat.
func TestP8TextsOfSmallerFlats(t *testing.T) {
	f, lines := threeRooms(), strings.SplitAfter(threeRoomsText, "\n")
	for count := 1; count <= 10; count++ {
		rooms := min(count, 3)
		want := impl.Flat{Heat: f.Heat[:rooms], Store: f.Store[:rooms], Walls: f.Walls[:min(count-rooms, 3)], Panes: f.Panes[:max(count-6, 0)]}
		got, code := impl.ReadFlat(strings.Join(lines[:count], ""))
		isFlat(t, "a smaller flat", got, want, code, impl.OK)
	}
}
