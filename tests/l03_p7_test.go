package tests

import (
	"slices"
	"testing"

	"loop.example/g01229/impl"
)

// Promise 7: smoke is no hotter than what it is mixed of, nearly.

func heatsOf(c []impl.Flue) []float32 {
	var heats []float32
	for _, f := range c {
		heats = append(heats, f.Heat)
	}
	return heats
}

// withHeats is the chimney with other heats.
func withHeats(c []impl.Flue, heats []float32) []impl.Flue {
	c = slices.Clone(c)
	for i, heat := range heats {
		c[i].Heat = heat
	}
	return c
}

func TestP7KnownSmoke(t *testing.T) {
	for _, c := range []struct {
		outside, wind, time float32
		into, once, often   []uint32
	}{
		{-7.3, 3.25, 0.3,
			[]uint32{0x43031932, 0x43af4000, 0x42250000, 0x44200666, 0x444b399a, 0x429b6666},
			[]uint32{0x43475615, 0x433f2277, 0xc12d97a7, 0x43867ac0, 0x442317fd, 0x4203af45},
			[]uint32{0x432966b2, 0x435f888c, 0xc0a6c068, 0x43ddd6c2, 0x442ca668, 0x41fbe811}},
		{31.7, -55.5, 0.9,
			[]uint32{0x42fda1b9, 0x43af4000, 0x42250000, 0x44200666, 0x444b399a, 0x429b6666},
			[]uint32{0x432233ea, 0x4365ac5f, 0xc040eb30, 0x43dd8363, 0x442fc76d, 0x420d7159},
			[]uint32{0x43374203, 0x43930db3, 0x41a0a70d, 0x442acd63, 0x443b15f9, 0x422716e4}},
		{12.1, 88.8, 0.125,
			[]uint32{0x4141999a, 0x4141999a, 0x4141999a, 0x4141999a, 0x4141999a, 0x4141999a},
			[]uint32{0x4349a446, 0x432e004b, 0xc13df796, 0x4349ab57, 0x4417644c, 0x4203dbe5},
			[]uint32{0x43221d2d, 0x431646a9, 0xc117efe0, 0x4321caae, 0x43f05cee, 0x41fd6573}},
	} {
		flows, _ := impl.FlowsOf(sixFlues(), c.outside, c.wind)
		into, code := impl.SmokeInto(sixFlues(), sixSmokes(), flows, c.outside)
		areNumbers(t, "SmokeInto", into, numbersOf(c.into...), code, impl.OK)
		after := sixFlues()
		for step := range 5 {
			next, gone, code := impl.WarmChimney(after, sixSmokes(), c.outside, c.wind, c.time)
			before, _ := impl.FlowsOf(after, c.outside, c.wind)
			areNumbers(t, "the flows before the step", gone, before, code, impl.OK)
			if after = next; step == 0 {
				isChimney(t, "WarmChimney", after, withHeats(sixFlues(), numbersOf(c.once...)), code, impl.OK)
			}
		}
		isChimney(t, "WarmChimney five times", after, withHeats(sixFlues(), numbersOf(c.often...)), impl.OK, impl.OK)
	}
}

func TestP7SmokeIntoIsAsTold(t *testing.T) {
	d := dice(71)
	codes := map[int64]int{}
	for range 3000 {
		c, outside := d.chimney(), d.outside()
		smoke, flows := d.smokeFor(c), d.flowsFor(c)
		if d.roll(3) == 0 {
			flows[d.roll(len(c))] = d.pick(big, 1e37, big, -big)
		}
		want, wantCode := modelSmoke(c, smoke, flows, outside), int64(impl.OK)
		if slices.ContainsFunc(want, func(a float32) bool { return !isGood(a) }) {
			want, wantCode = nil, impl.ErrState
		}
		into, code := impl.SmokeInto(c, smoke, flows, outside)
		areNumbers(t, "SmokeInto", into, want, code, wantCode)
		codes[code]++
	}
	if codes[impl.ErrState] < 30 {
		t.Errorf("too few of a kind: %v", codes)
	}
}

// Trunks with no branch, with one and with several, and flows of each sign.
func TestP7SmokeOfEachKind(t *testing.T) {
	branch := func(heat float32) impl.Flue { return impl.Flue{Height: 4, Wide: 0.5, Heat: heat, Damper: 1, Into: 0} }
	for _, k := range []struct {
		name   string
		heats  []float32
		flows  []float32
		wanted float32
	}{
		{"no branch, up", nil, []float32{1}, 33}, {"no branch, 0", nil, []float32{0}, 33}, {"no branch, -0", nil, []float32{negZero}, 33},
		{"no branch, down", nil, []float32{-tiny}, -7},
		{"one, up", []float32{100}, []float32{1, 0.5}, 100}, {"one, up a little", []float32{100}, []float32{1, tiny}, 100},
		{"one, 0", []float32{100}, []float32{1, 0}, 80}, {"one, -0", []float32{100}, []float32{1, negZero}, 80}, {"one, down", []float32{100}, []float32{1, -1}, 80},
		{"trunk 0", []float32{100}, []float32{0, 1}, 100}, {"trunk -0", []float32{100}, []float32{negZero, 1}, 100},
		{"trunk down", []float32{100}, []float32{-1, 1}, -7}, {"trunk down a little", []float32{100}, []float32{-tiny, 1}, -7},
		{"several", []float32{100, 200, 400}, []float32{1, 1, 2, 1}, 225}, {"some", []float32{100, 200, 400}, []float32{1, 1, -2, 3}, 325},
		{"none of several", []float32{100, 200, 400}, []float32{1, 0, -2, negZero}, 80},
		{"a sum that begins with 0", []float32{negZero, negZero}, []float32{1, 1, 1}, 0},
		{"flows of any size", []float32{0, 0}, []float32{big, big, big}, 0}, {"a trunk that does not care", []float32{1500, 1500}, []float32{-big, big, big}, -7},
	} {
		c, smoke := []impl.Flue{likeTheExample(-1)}, []float32{33}
		want := []float32{k.wanted}
		for i, heat := range k.heats {
			c, smoke = append(c, branch(heat)), append(smoke, 1000)
			if k.flows[i+1] < 0 {
				want = append(want, -7)
			} else {
				want = append(want, 1000)
			}
		}
		into, code := impl.SmokeInto(c, smoke, k.flows, -7)
		areNumbers(t, k.name, into, want, code, impl.OK)
	}
	for _, flows := range [][]float32{{1, big, 1}, {0, 1, big}, {negZero, 2.5e36, 0}} {
		into, code := impl.SmokeInto([]impl.Flue{likeTheExample(-1), branch(1500), branch(1500)}, make([]float32, 3), flows, -7)
		areNumbers(t, "not finite", into, nil, code, impl.ErrState)
	}
}

func TestP7ZerosStayAsTheyAre(t *testing.T) {
	c := []impl.Flue{likeTheExample(-1), likeTheExample(0), likeTheExample(-1)}
	c[0].Heat = negZero
	into, code := impl.SmokeInto(c, []float32{1, negZero, negZero}, []float32{1, 0, negZero}, 5)
	areNumbers(t, "its own heat, and smoke", into, []float32{negZero, negZero, negZero}, code, impl.OK)
	into, code = impl.SmokeInto(c, []float32{1, 2, 3}, []float32{-1, -1, -1}, negZero)
	areNumbers(t, "from outside", into, []float32{negZero, negZero, negZero}, code, impl.OK)
}

func TestP7SmokeIsNoHotterThanWhatItIsMixedOf(t *testing.T) {
	d := dice(72)
	mixed := 0
	for range 2000 {
		c, outside := d.chimneyOf(d.plainFlue), d.outside()
		smoke, flows := d.smokeFor(c), make([]float32, len(c))
		for i := range c {
			c[i].Heat = d.heat()
			flows[i] = d.share()*10 - 3
		}
		into, code := impl.SmokeInto(c, smoke, flows, outside)
		isCode(t, "SmokeInto", code, impl.OK)
		for i := range c {
			low, high := c[i].Heat, c[i].Heat
			for n, k := range slices.DeleteFunc(modelBranches(c, i), func(k int) bool { return flows[k] <= 0 }) {
				if n == 0 {
					low, high = c[k].Heat, c[k].Heat
				}
				low, high = min(low, c[k].Heat), max(high, c[k].Heat)
				mixed += n
			}
			if len(modelBranches(c, i)) > 0 && flows[i] >= 0 && (into[i] < low-0.01 || into[i] > high+0.01) {
				t.Errorf("%v: flows %v: the smoke %v is not between %v and %v", c, flows, into[i], low, high)
			}
		}
	}
	if mixed < 500 {
		t.Errorf("only %d branches are mixed", mixed)
	}
}

func TestP7WarmChimneyIsAsTold(t *testing.T) {
	d := dice(73)
	held := 0
	for range 2000 {
		c, outside, wind, time := d.chimney(), d.outside(), d.wind(), d.shareOrEdge()
		smoke := d.smokeFor(c)
		after, flows, code := impl.WarmChimney(c, smoke, outside, wind, time)
		isChimney(t, "WarmChimney", after, modelWarmFlues(c, smoke, outside, wind, time), code, impl.OK)
		areNumbers(t, "WarmChimney", flows, modelFlows(c, outside, wind), code, impl.OK)
		if !impl.ValidChimney(after) {
			t.Errorf("%v is not valid", after)
		}
		for i := range after {
			if heat := after[i].Heat; heat != c[i].Heat && (heat == 1500 || heat == -60) {
				held++
			}
		}
	}
	if held < 50 {
		t.Errorf("only %d heats are held", held)
	}
}

func TestP7HeatsOfFluesAreHeld(t *testing.T) {
	c := []impl.Flue{{Height: 30, Wide: 4, Heat: 700, Damper: 1, Into: -1}}
	for _, k := range []struct{ smoke, outside, wind, want float32 }{{1500, 0, -1000, 1500}, {0, -60, 1000, -60}, {-60, -60, -1000, -60}} {
		after, _, code := impl.WarmChimney(c, []float32{k.smoke}, k.outside, k.wind, 1)
		isChimney(t, "held", after, withHeats(c, []float32{k.want}), code, impl.OK)
	}
}

func TestP7NoTimeChangesNothing(t *testing.T) {
	d := dice(74)
	for range 200 {
		c, outside, wind := d.chimneyOf(d.plainFlue), d.outside(), d.wind()
		after, flows, code := impl.WarmChimney(c, d.smokeFor(c), outside, wind, 0)
		isChimney(t, "no time", after, c, code, impl.OK)
		areNumbers(t, "no time", flows, modelFlows(c, outside, wind), code, impl.OK)
	}
}

// A shut flue gets only what comes through its walls; of -0, with no time, it is 0 or -0 by the signs of what is added.
func TestP7ShutFluesCoolSlowly(t *testing.T) {
	c := []impl.Flue{{Height: 4, Wide: 0.5, Heat: 96, Damper: 0, Into: -1}}
	after, flows, code := impl.WarmChimney(c, []float32{1500}, 32, -9, 0.5)
	isChimney(t, "shut", after, withHeats(c, []float32{94}), code, impl.OK)
	areNumbers(t, "shut", flows, []float32{0}, code, impl.OK)
	for _, k := range []struct{ damper, smoke, outside, wind, want float32 }{
		{0, -60, -60, 9, negZero}, {0, 60, -60, 9, 0}, {0, -60, 60, 9, 0}, {1e-30, -60, -60, 9, negZero}, {1e-30, 60, -60, 9, 0}, {1e-30, 60, 60, -9, 0},
		{1e-30, -60, negZero, 9, 0}, {1, -60, -60, -900, negZero}, {1, -60, -60, 900, negZero}, {1, 60, -60, -900, 0}, {1, 60, 60, 900, 0},
	} {
		c[0].Heat, c[0].Damper = negZero, k.damper
		after, _, code := impl.WarmChimney(c, []float32{k.smoke}, k.outside, k.wind, 0)
		isChimney(t, "no time", after, modelWarmFlues(c, []float32{k.smoke}, k.outside, k.wind, 0), code, impl.OK)
		isNumber(t, "no time", after[0].Heat, k.want)
	}
}

func TestP7StepsToDrawIsAsTold(t *testing.T) {
	d := dice(75)
	codes := map[int64]int{}
	for range 1200 {
		c, outside, wind, time, most := d.chimneyOf(d.plainFlue), d.outside(), d.share()*12-10, d.shareOrEdge(), int64(d.roll(40))
		smoke := d.smokeFor(c)
		for i := range c {
			c[i].Heat = d.share()*100 - 60
		}
		want, wantCode := modelStepsToDraw(c, smoke, outside, wind, time, most)
		n, code := impl.StepsToDraw(c, smoke, outside, wind, time, most)
		isCount(t, "StepsToDraw", n, want, code, wantCode)
		if n > 0 || code != impl.OK {
			codes[code]++
		}
	}
	if codes[impl.OK] < 50 || codes[impl.ErrBudget] < 50 {
		t.Errorf("too few of a kind: %v", codes)
	}
}

// coldFork is colder than the air outside, which warms it.
func coldFork() []impl.Flue { return withHeats(forked(), []float32{-40, -30, -20}) }

// Calculated with exact fractions as well; with the time 0.1 one branch draws before the other one does, and blows it back.
func TestP7KnownStepsToDraw(t *testing.T) {
	smoke := []float32{200, 200, 0}
	for _, c := range []struct {
		time        float32
		most, steps int64
		code        int64
	}{
		{0.0928, 200, 200, impl.OK}, {0.0928, 199, 0, impl.ErrBudget}, {0.0922, 200, 0, impl.ErrBudget}, {0.1, 200, 0, impl.ErrBudget},
		{0.15, 200, 123, impl.OK}, {0.15, 123, 123, impl.OK}, {0.15, 122, 0, impl.ErrBudget},
	} {
		steps, code := impl.StepsToDraw(coldFork(), smoke, 20, -0.5, c.time, c.most)
		isCount(t, "StepsToDraw", steps, c.steps, code, c.code)
	}
}

func TestP7StepsToDrawCountsSteps(t *testing.T) {
	c, smoke := coldFork(), []float32{200, 200, 0}
	steps, code := impl.StepsToDraw(c, smoke, 20, -0.5, 0.15, impl.MaxWarmSteps)
	isCount(t, "StepsToDraw", steps, 123, code, impl.OK)
	for n := range steps + 1 {
		back, _ := impl.BlownBack(c, 20, -0.5)
		if (len(back) == 0) != (n == steps) {
			t.Errorf("behind %d steps %v are blown back", n, back)
		}
		left, code := impl.StepsToDraw(c, smoke, 20, -0.5, 0.15, steps-n)
		isCount(t, "just enough", left, steps-n, code, impl.OK)
		if n < steps {
			left, code = impl.StepsToDraw(c, smoke, 20, -0.5, 0.15, steps-n-1)
			isCount(t, "not enough", left, 0, code, impl.ErrBudget)
		}
		c, _, _ = impl.WarmChimney(c, smoke, 20, -0.5, 0.15)
	}
}

func TestP7StepsToDrawAtItsBounds(t *testing.T) {
	for _, most := range []int64{0, 1, impl.MaxWarmSteps} {
		steps, code := impl.StepsToDraw(forked(), make([]float32, 3), 0, 0, 0.5, most)
		isCount(t, "nothing is blown back", steps, 0, code, impl.OK)
		steps, code = impl.StepsToDraw(forked(), make([]float32, 3), 0, 500, 0.5, most)
		isCount(t, "for ever", steps, 0, code, impl.ErrBudget)
		steps, code = impl.StepsToDraw(coldFork(), make([]float32, 3), 20, -0.5, 0, most)
		isCount(t, "no time", steps, 0, code, impl.ErrBudget)
	}
	for _, most := range []int64{-1, impl.MaxWarmSteps + 1} {
		steps, code := impl.StepsToDraw(forked(), make([]float32, 3), 0, 0, 0.5, most)
		isCount(t, "no such number of steps", steps, 0, code, impl.ErrRange)
	}
}
