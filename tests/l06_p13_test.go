package tests

import (
	"fmt"
	"math"
	"slices"
	"strings"
	"testing"

	"loop.example/g01229/impl"
)

// Promise 13: a house that is run in parts is the house that is run at once, bit for bit.

const exampleText = "house 0 00000000 00000000 00000000 00000000 0\nhour 00000000 00000000 00000000\nflat 2\nroom 41a00000 41200000\npane 0 - 3f800000 00000000\n" +
	"chimney 1\n40800000 3f000000 41a00000 3f800000 -\nsource 1\ndamper = in0 < 18\nhearth 0 0 - 1\nstove 41a00000 3f800000 00000000 cold 0\n"

// In a tick the room loses 2.5, which makes it 19.75 degrees, and the flue, whose smoke is as hot as it is, 5/32 of a degree.
const tickedText = "house 1 00000000 00000000 00000000 40200000 0\nhour 00000000 00000000 00000000\nflat 2\nroom 419e0000 41200000\npane 0 - 3f800000 00000000\n" +
	"chimney 1\n40800000 3f000000 419ec000 3f800000 -\nsource 1\ndamper = in0 < 18\nhearth 0 0 - 1\nstove 41a00000 3f800000 00000000 cold 0\n"

func hasText(t *testing.T, name string, h impl.House, code int64, want string) {
	t.Helper()
	isCode(t, name, code, impl.OK)
	if got := impl.HouseText(h); got != want {
		t.Errorf("%s: got %q, want %q", name, got, want)
	}
}

func TestP13TheExample(t *testing.T) {
	hasText(t, "before", exampleHouse(), impl.OK, exampleText)
	h, code := impl.TickHouse(exampleHouse())
	hasText(t, "behind a tick", h, code, tickedText)
	h, code = impl.TickHouses(exampleHouse(), 1)
	hasText(t, "behind one of several ticks", h, code, tickedText)
	h, code = impl.TickHouses(exampleHouse(), 0)
	hasText(t, "behind no tick", h, code, exampleText)
}

// These checks are of texts that were calculated with exact fractions, rounded after each operation.
func TestP13KnownTicks(t *testing.T) {
	h, ticks := fullHouse(), int64(0)
	for _, c := range []struct {
		ticks int64
		check uint32
		smoky int64
	}{
		{0, 0xa553b6d7, 4}, {1, 0x8397f5ce, 5}, {2, 0x802c1bac, 5}, {3, 0x752ad62c, 5}, {4, 0x016213bd, 6}, {5, 0xb704a2c3, 6}, {7, 0x375b09cc, 7}, {12, 0x7148143f, 8},
		{20, 0xfed94c94, 11}, {31, 0xe29b91c9, 15}, {36, 0x7b21d0ce, 16}, {37, 0x71647689, 17}, {40, 0xd0343189, 18},
	} {
		after, code := impl.TickHouses(h, c.ticks-ticks)
		check, _ := impl.CheckOf(after)
		if code != impl.OK || check != c.check || after.Sums.Smoky != c.smoky || after.Tick != 95+c.ticks {
			t.Errorf("behind %d ticks: got the check %08x, the code %d and\n%s", c.ticks, check, code, impl.HouseText(after))
		}
		h, ticks = after, c.ticks
	}
	for _, line := range []string{
		"house 135 40ae619c 403dc654 44e9ecdd 4613c48c 18\n", "\nroom 42a12357 41480000\nroom 41adc3f2 42053333\nroom 41cfcb1e 4352b333\n", "\nhearth 0 1 0 3\nstove 4386389e 00000000 3f1fb07f burning 7\n",
		"\nhearth 2 4 - 4\nstove 4442fb54 3f333333 3f108460 burning 87\n", "\nhearth 0 2 2 2\nstove 4278581d 3e800000 3c23d70a embers 0\n", "\n40066666 3e6147ae 436e2d0c 3f1a8ccd 0\n",
	} {
		if text := impl.HouseText(h); !strings.Contains("\n"+text, line) && !strings.HasPrefix(text, line) {
			t.Errorf("behind 40 ticks: %q is not there:\n%s", line, text)
		}
	}
}

// gainingHouse has a room that loses nothing, and stoves that are cold.
func gainingHouse(boxes ...float32) impl.House {
	h := impl.House{Flat: impl.Flat{Heat: []float32{20, 12}, Store: []float32{8, 16}}, Hours: []impl.Hour{{Outside: 10}}}
	for i, box := range boxes {
		h.Chimney = append(h.Chimney, impl.Flue{Height: 4, Wide: 0.5, Heat: 10, Into: -1})
		h.Hearths = append(h.Hearths, impl.Hearth{Flue: int64(len(boxes) - 1 - i), Brain: -1, Stove: impl.Stove{Box: box, Damper: 1}})
	}
	return h
}

func TestP13KnownGains(t *testing.T) {
	h := gainingHouse(52, 100, 4)
	h.Hearths[1].Room = 1
	after, code := impl.TickHouse(h)
	isCode(t, "gains", code, impl.OK)
	// The stoves give 8, 22 and -4 in the time of 1/8: (64 - 32) / 8 / 8 and 176 / 8 / 16.
	areNumbers(t, "gains", after.Flat.Heat, []float32{20.5, 13.375}, code, impl.OK)
	for i, box := range []float32{51.6, 98.9, 4.2} {
		isNumber(t, "the box", after.Hearths[i].Stove.Box, box)
	}
	if after.Sums != (impl.Sums{}) || after.Tick != 1 {
		t.Errorf("got %v", after)
	}
	isChimney(t, "flues that are shut", after.Chimney, h.Chimney, code, impl.OK)
}

// In a narrow sum the order tells: what is small is lost beside what is great, until that is taken away.
func TestP13GainsAreAddedInOrder(t *testing.T) {
	h := gainingHouse(20.1107, 333.3, -60)
	var heats []float32
	for _, order := range [][3]int{{0, 1, 2}, {1, 2, 0}, {2, 1, 0}} {
		g := copyHouse(h)
		for i, k := range order {
			g.Hearths[i] = h.Hearths[k]
		}
		got, code := impl.TickHouse(g)
		want, _ := modelTick(g)
		isHouse(t, fmt.Sprint(order), got, want, code, impl.OK)
		heats = append(heats, got.Flat.Heat[0])
	}
	if slices.Max(heats) == slices.Min(heats) {
		t.Errorf("each order has %v", heats)
	}
}

// smokingHouse has a burning stove at a flue with this damper, in this wind.
func smokingHouse(damper, wind float32) impl.House {
	h := exampleHouse()
	h.Chimney[0].Damper, h.Hours[0].Wind = damper, wind
	h.Hearths[0].Stove = burningStove()
	return h
}

func TestP13SmokyHearths(t *testing.T) {
	for _, c := range []struct {
		name         string
		damper, wind float32
		smoky        int64
		burns        bool
	}{
		{"a good draft", 1, 0, 0, true}, {"a draft that is helped", 1, -50, 0, true}, {"blown back", 1, 100, 1, false}, {"blown back a little", 1, 10, 1, false},
		{"shut", 0, 0, 0, false}, {"shut in the wind", 0, 100, 0, false}, {"shut, with wind from below", 0, -100, 0, false}, {"nearly shut", 1e-30, 100, 0, false}, {"a little open", 0.001, 100, 1, false},
	} {
		h := smokingHouse(c.damper, c.wind)
		after, code := impl.TickHouse(h)
		want, _ := modelTick(h)
		isHouse(t, c.name, after, want, code, impl.OK)
		if after.Sums.Smoky != c.smoky || (after.Sums.Burnt > 0) != c.burns || (after.Sums.Up > 0) != c.burns {
			t.Errorf("%s: got %v", c.name, after.Sums)
		}
		flows, _ := impl.FlowsOf(h.Chimney, 0, c.wind)
		if (flows[0] < 0) != (c.smoky == 1) || (flows[0] > 0) != c.burns {
			t.Errorf("%s: the flow is %v", c.name, flows[0])
		}
	}
	two := gainingHouse(50, 60)
	two.Chimney[0].Damper, two.Chimney[1].Damper, two.Hours[0].Wind, two.Sums.Smoky = 1, 0.5, 100, 999999998
	after, code := impl.TickHouse(two)
	isCount(t, "two hearths that smoke", after.Sums.Smoky, 1000000000, code, impl.OK)
}

// bySteps lets a tick go by with the functions of the chapters ahead.
func bySteps(t *testing.T, h impl.House) impl.House {
	t.Helper()
	must := func(code int64) {
		t.Helper()
		isCode(t, "a step", code, impl.OK)
	}
	before, hour := copyHouse(h), h.Hours[h.Tick%int64(len(h.Hours))]
	h = copyHouse(h)
	smoke := slices.Repeat([]float32{hour.Outside}, len(h.Chimney))
	var code int64
	for i, e := range before.Hearths {
		damper, flue, code := impl.BrainOf(before, int64(i))
		must(code)
		h.Hearths[i].Stove, code = impl.SetDamper(e.Stove, damper)
		must(code)
		h.Chimney, code = impl.SetFlue(h.Chimney, e.Flue, flue)
		must(code)
		smoke[e.Flue] = e.Stove.Box
	}
	chimney, flows, code := impl.WarmChimney(h.Chimney, smoke, hour.Outside, hour.Wind, 0.125)
	must(code)
	gains := make([]float32, len(h.Flat.Heat))
	for i, e := range h.Hearths {
		draft := max(flows[e.Flue], 0)
		stove, given, code := impl.FireStep(e.Stove, draft, before.Flat.Heat[e.Room], 0.125)
		must(code)
		h.Hearths[i].Stove = stove
		h.Sums.Burnt, h.Sums.Steam, h.Sums.Up = h.Sums.Burnt+given.Fuel, h.Sums.Steam+given.Steam, h.Sums.Up+given.Up
		if flows[e.Flue] < 0 {
			h.Sums.Smoky++
		}
		gains[e.Room] += given.Room * 8
	}
	flat, gone, code := impl.StepFlat(before.Flat, hour.Outside, hour.Sun, gains, 0.125)
	must(code)
	h.Flat, h.Chimney, h.Tick, h.Sums.Lost = flat, chimney, h.Tick+1, h.Sums.Lost+gone
	return h
}

func TestP13TheStepsOfATick(t *testing.T) {
	h := fullHouse()
	for range 12 {
		want := bySteps(t, h)
		after, code := impl.TickHouse(h)
		isHouse(t, "steps", after, want, code, impl.OK)
		h = after
	}
	// Each step takes what the others have not changed yet, or have left: something else would be another house.
	h = smokingHouse(0.75, 0)
	h.Hearths[0].Brain = 0
	h.Sources[0] = "damper = in1 * 1/1024\nflue = in0 * 1/32\n"
	after, code := impl.TickHouse(h)
	want, _ := modelTick(h)
	isHouse(t, "a brain", after, want, code, impl.OK)
	isNumber(t, "the damper of the stove", after.Hearths[0].Stove.Damper, float32(float32(4123)/10)/1024)
	isNumber(t, "the damper of the flue", after.Chimney[0].Damper, 0.625)
	flows, _ := impl.FlowsOf([]impl.Flue{{Height: 4, Wide: 0.5, Heat: 20, Damper: 0.625, Into: -1}}, 0, 0)
	wantStove, given, _ := impl.FireStep(impl.Stove{Logs: h.Hearths[0].Stove.Logs, Box: 412.3, Damper: after.Hearths[0].Stove.Damper, State: impl.StBurning, Ash: 7, Dust: 0.3}, flows[0], 20, 0.125)
	isStove(t, "the stove", after.Hearths[0].Stove, wantStove, code, impl.OK)
	isNumber(t, "what has gone up", after.Sums.Up, given.Up)
	smoke := float32(float32(float32(0.5*flows[0])*(412.3-20)) * 0.125)
	isNumber(t, "the heat of the flue", after.Chimney[0].Heat, (20+smoke)-0.15625)
}

func TestP13TicksAreAsTold(t *testing.T) {
	d := dice(621)
	counts := map[string]int{}
	for range 400 {
		h := d.house()
		for range 5 {
			after, code := impl.TickHouse(h)
			want, wantCode := modelTick(h)
			isHouse(t, "a tick", after, want, code, wantCode)
			counts[impl.CodeName(code)]++
			if code != impl.OK {
				break
			}
			for what, is := range map[string]bool{
				"burnt": after.Sums.Burnt > h.Sums.Burnt, "smoky": after.Sums.Smoky > h.Sums.Smoky, "steam": after.Sums.Steam > h.Sums.Steam,
				"dampers": !sameFlues(after.Chimney, h.Chimney) && len(h.Hearths) > 0, "hearths": len(h.Hearths) == 3,
			} {
				if is {
					counts[what]++
				}
			}
			h = after
		}
	}
	for _, what := range []string{"ok", "state", "burnt", "smoky", "steam", "dampers", "hearths"} {
		if counts[what] < 60 {
			t.Errorf("only %d of %s", counts[what], what)
		}
	}
}

func TestP13HousesAreRunInParts(t *testing.T) {
	d := dice(622)
	for range 150 {
		h := d.house()
		h.Sums.Smoky /= 2
		first, second := int64(d.roll(9)), int64(d.roll(9))
		atOnce, code := impl.TickHouses(h, first+second)
		want, wantCode := modelTicks(h, first+second)
		isHouse(t, "at once", atOnce, want, code, wantCode)
		if code != impl.OK {
			continue
		}
		half, code := impl.TickHouses(h, first)
		isCode(t, "the first part", code, impl.OK)
		parts, code := impl.TickHouses(half, second)
		isHouse(t, "in parts", parts, atOnce, code, impl.OK)
		one := h
		for range first + second {
			one, _ = impl.TickHouse(one)
		}
		isHouse(t, "one by one", one, atOnce, impl.OK, impl.OK)
		waited, done, code := impl.DoActs(h, []impl.Act{{Kind: impl.AcWait, A: first}, {Kind: impl.AcWait}, {Kind: impl.AcWait, A: second}})
		isHouseAt(t, "by acts", waited, atOnce, done, 3, code, impl.OK)
		again, code := impl.ReadHouse(impl.HouseText(half))
		isHouse(t, "read between the parts", again, withEndedSources(half), code, impl.OK)
		again, code = impl.TickHouses(again, second)
		isHouse(t, "run behind its text", again, withEndedSources(atOnce), code, impl.OK)
	}
}

func TestP13ALongRunInParts(t *testing.T) {
	h := tickedTo(fullHouse(), 0)
	h.Hearths[1].Stove.Logs = h.Hearths[1].Stove.Logs[:1]
	h, _ = impl.ReadHouse(impl.HouseText(h))
	atOnce, code := impl.TickHouses(h, 200)
	isCode(t, "at once", code, impl.OK)
	for _, size := range []int64{1, 3, 7, 40, 95, 96, 97} {
		parts := h
		for left := int64(200); left > 0; left -= size {
			parts, _ = impl.TickHouses(parts, min(size, left))
			parts, _ = impl.ReadHouse(impl.HouseText(parts))
		}
		isHouse(t, fmt.Sprint("in parts of ", size), parts, atOnce, impl.OK, impl.OK)
	}
}

// ticksAre checks up to so many ticks of a house that can be run for no more than some of them.
func ticksAre(t *testing.T, name string, h impl.House, most, upTo int64) {
	t.Helper()
	if !impl.ValidHouse(h) {
		t.Errorf("%s: the house is valid", name)
	}
	for count := int64(0); count <= upTo; count++ {
		want, wantCode := impl.House{}, int64(impl.ErrState)
		if count <= most {
			want, wantCode = modelTicks(h, count)
		}
		got, code := impl.TickHouses(h, count)
		isHouse(t, fmt.Sprint(name, " for ", count), got, want, code, wantCode)
		if count == 1 {
			got, code = impl.TickHouse(h)
			isHouse(t, name, got, want, code, wantCode)
		}
		got, code = impl.DoAct(h, impl.Act{Kind: impl.AcWait, A: count})
		isHouse(t, fmt.Sprint(name, " and waiting for ", count), got, want, code, wantCode)
	}
}

func TestP13TicksThatCannotBe(t *testing.T) {
	ticksAre(t, "the last tick", tickedTo(exampleHouse(), 1000000000), 0, 2)
	ticksAre(t, "two ticks ahead of the last one", tickedTo(exampleHouse(), 999999998), 2, 4)
	smoky := smokingHouse(1, 100)
	smoky.Sums.Smoky = 1000000000
	ticksAre(t, "too smoky", smoky, 0, 2)
	smoky.Sums.Smoky = 999999999
	ticksAre(t, "nearly too smoky", smoky, 1, 3)
	hot := exampleHouse()
	hot.Flat.Heat[0] = above(100)
	ticksAre(t, "a room too hot for its stove", hot, 0, 2)
	hot.Flat.Heat[0], hot.Hearths[0].Stove.Box = 100, 1000
	ticksAre(t, "a room that becomes too hot for its stove", hot, 1, 3)
	ashy := smokingHouse(1, 0)
	ashy.Hearths[0].Stove.Ash, ashy.Hearths[0].Stove.Dust = 1000000, 0.999
	ticksAre(t, "too much ash", ashy, 0, 2)
	cold := exampleHouse()
	cold.Flat.Heat[0], cold.Flat.Panes[0].Lead, cold.Flat.Store[0] = -59, 100, 1
	cold.Hours[0].Outside, cold.Hearths = -60, nil
	ticksAre(t, "a flat that becomes too cold", cold, 0, 2)
	sunny := exampleHouse()
	sunny.Flat.Heat[0], sunny.Flat.Panes[0].Sun, sunny.Flat.Store[0], sunny.Hours[0].Sun, sunny.Hearths = 199, 10, 1, 10, nil
	sunny.Flat.Panes[0].Lead = 0
	ticksAre(t, "a flat that becomes too hot", sunny, 0, 2)
}

// A room that is too hot for a stove may be any that has none.
func TestP13OtherRoomsMayBeHotter(t *testing.T) {
	h := gainingHouse(20)
	h.Flat.Heat[1] = 200
	ticksAre(t, "a hot room without a hearth", h, 5, 5)
	h = exampleHouse()
	h.Flat.Heat[0] = 100
	ticksAre(t, "a room that is just not too hot", h, 5, 5)
	h.Sums = impl.Sums{Burnt: big, Steam: big, Up: -big, Lost: big}
	h.Hearths[0].Stove = burningStove()
	ticksAre(t, "sums that are as great as they may be", h, 3, 3)
}

func TestP13HoursOfTicks(t *testing.T) {
	h := exampleHouse()
	h.Hours = []impl.Hour{{Outside: 4, Sun: 1}, {Outside: -4}, {Outside: 12, Sun: 2}}
	h.Flat.Panes[0].Sun = 0.5
	for _, tick := range []int64{0, 1, 2, 3, 94, 95, 96, 97, 98} {
		after, code := impl.TickHouse(tickedTo(h, tick))
		hour := h.Hours[tick%3]
		isNumberAnd(t, fmt.Sprint("lost in the tick ", tick), after.Sums.Lost, (20-hour.Outside)/8, code, impl.OK)
		isNumber(t, fmt.Sprint("the heat behind the tick ", tick), after.Flat.Heat[0], 20+float32(float32((hour.Outside-20)+0.5*hour.Sun)*0.125)/10)
	}
}

func TestP13FuelIsBurnt(t *testing.T) {
	h := fullHouse()
	before, code := impl.FuelInHouse(h)
	isNumberAnd(t, "before", before, sumOf(0, fuelOf(h, 0), fuelOf(h, 1), fuelOf(h, 2)), code, impl.OK)
	for range 60 {
		after, code := impl.TickHouse(h)
		isCode(t, "a tick", code, impl.OK)
		was, _ := impl.FuelInHouse(h)
		is, _ := impl.FuelInHouse(after)
		if burnt := float64(after.Sums.Burnt) - float64(h.Sums.Burnt); math.Abs(float64(was)-float64(is)-burnt) > 1e-4 || is > was {
			t.Fatalf("%v of fuel become %v, but %v has burnt", was, is, burnt)
		}
		h = after
	}
	after, _ := impl.FuelInHouse(h)
	if math.Abs(float64(before-after)-float64(h.Sums.Burnt-fullHouse().Sums.Burnt)) > 1e-3 || before-after < 1 {
		t.Errorf("%v of fuel have become %v, but %v has burnt", before, after, h.Sums.Burnt)
	}
	h.Hearths = nil
	fuel, code := impl.FuelInHouse(h)
	isNumberAnd(t, "no hearth", fuel, 0, code, impl.OK)
}

// fuelOf is the fuel of the stove of a hearth.
func fuelOf(h impl.House, hearth int) float32 {
	sum := float32(0)
	for _, w := range h.Hearths[hearth].Stove.Logs {
		sum = plus(sum, modelRow(w.Fuel))
	}
	return sum
}

func TestP13FuelInHouseIsAsTold(t *testing.T) {
	d := dice(623)
	for range 500 {
		h := d.house()
		var fuels []float32
		for i := range h.Hearths {
			fuels = append(fuels, fuelOf(h, i))
		}
		fuel, code := impl.FuelInHouse(h)
		isNumberAnd(t, "FuelInHouse", fuel, sumOf(0, fuels...), code, impl.OK)
	}
}

func TestP13StillHouseIsAsTold(t *testing.T) {
	h := exampleHouse()
	h.Hours = []impl.Hour{{Outside: -4}, {Outside: 6, Sun: 1}}
	h.Flat.Panes[0].Sun = 3
	flat, code := impl.StillHouse(h)
	isFlat(t, "the first hour", flat, withHeatsOf(h.Flat, -4), code, impl.OK)
	flat, code = impl.StillHouse(tickedTo(h, 7))
	isFlat(t, "the last hour", flat, withHeatsOf(h.Flat, 9), code, impl.OK)
	h.Flat.Panes[0].Lead = 0
	flat, code = impl.StillHouse(h)
	isFlat(t, "no still heats", flat, impl.Flat{}, code, impl.ErrState)
	d := dice(624)
	for range 500 {
		h := d.house()
		hour := modelHour(h)
		want, wantCode := modelStill(h.Flat, hour.Outside, hour.Sun, make([]float32, len(h.Flat.Heat)))
		flat, code := impl.StillHouse(h)
		isFlat(t, "StillHouse", flat, want, code, wantCode)
	}
}

// actsAre checks an act by DoAct and by DoActs.
func actIs(t *testing.T, name string, h impl.House, a impl.Act, want impl.House, wantCode int64) {
	t.Helper()
	got, code := impl.DoAct(h, a)
	isHouse(t, name, got, want, code, wantCode)
	wantDone := int64(1)
	if wantCode != impl.OK {
		wantDone = 0
	}
	got, done, code := impl.DoActs(h, []impl.Act{a})
	isHouseAt(t, name, got, want, done, wantDone, code, wantCode)
}

// coldHouse has two cold hearths, the second one with ash and logs, and three panes.
func coldHouse() impl.House {
	h := gainingHouse(20, 30)
	h.Flat.Panes = []impl.Pane{{A: 0, B: -1, Lead: 1}, {A: 0, B: 1, Lead: 2, Sun: 1}, {A: 1, B: -1, Lead: 3}}
	h.Sources = []string{"damper = 1\n", "flue = 1\n"}
	h.Hearths[1].Stove.Logs = []impl.Wood{logOf(1, 20, 0), grownLog(), logOf(0, 20, 1.0/1024), logOf(0, 20, 1.0/256)}
	h.Hearths[1].Stove.Ash, h.Hearths[1].Stove.Dust, h.Hearths[1].Brain = 55, 0.25, 0
	return h
}

func TestP13KnownActs(t *testing.T) {
	for _, c := range []struct {
		act impl.Act
		how func(h *impl.House)
	}{
		{impl.Act{Kind: impl.AcLoad}, func(h *impl.House) { h.Hearths[0].Stove.Logs = []impl.Wood{logOf(0, 20, 1)} }},
		{impl.Act{Kind: impl.AcLoad, B: 1}, func(h *impl.House) { h.Hearths[0].Stove.Logs = []impl.Wood{logOf(0.0625, 20, 1)} }},
		{impl.Act{Kind: impl.AcLoad, A: 1, B: 8}, func(h *impl.House) { h.Hearths[1].Stove.Logs = append(h.Hearths[1].Stove.Logs, logOf(0.5, 20, 1)) }},
		{impl.Act{Kind: impl.AcLoad, A: 1, B: 64}, func(h *impl.House) { h.Hearths[1].Stove.Logs = append(h.Hearths[1].Stove.Logs, logOf(4, 20, 1)) }},
		{impl.Act{Kind: impl.AcKindle, A: 1}, func(h *impl.House) {
			h.Hearths[1].Stove.State = impl.StKindled
			copy(h.Hearths[1].Stove.Logs[0].Heat[:], []float32{700, 700, 700})
		}},
		{impl.Act{Kind: impl.AcRake, A: 1}, func(h *impl.House) { h.Hearths[1].Stove.Ash = 0 }},
		{impl.Act{Kind: impl.AcRake}, func(h *impl.House) {}},
		{impl.Act{Kind: impl.AcClean, A: 1}, func(h *impl.House) {
			h.Hearths[1].Stove.Logs = []impl.Wood{grownLog(), logOf(0, 20, 1.0/256)}
		}},
		{impl.Act{Kind: impl.AcClean}, func(h *impl.House) {}},
		{impl.Act{Kind: impl.AcPane}, func(h *impl.House) { h.Flat.Panes[0].Lead = 0 }},
		{impl.Act{Kind: impl.AcPane, A: 1, B: 3}, func(h *impl.House) { h.Flat.Panes[1].Lead = 0.75 }},
		{impl.Act{Kind: impl.AcPane, A: 2, B: 400}, func(h *impl.House) { h.Flat.Panes[2].Lead = 100 }},
		{impl.Act{Kind: impl.AcBrain}, func(h *impl.House) { h.Hearths[0].Brain = 0 }},
		{impl.Act{Kind: impl.AcBrain, A: 1, B: 1}, func(h *impl.House) { h.Hearths[1].Brain = 1 }},
		{impl.Act{Kind: impl.AcMute}, func(h *impl.House) {}},
		{impl.Act{Kind: impl.AcMute, A: 1}, func(h *impl.House) { h.Hearths[1].Brain = -1 }},
		{impl.Act{Kind: impl.AcDamper}, func(h *impl.House) { h.Hearths[0].Stove.Damper = 0 }},
		{impl.Act{Kind: impl.AcDamper, A: 1, B: 5}, func(h *impl.House) { h.Hearths[1].Stove.Damper = 0.3125 }},
		{impl.Act{Kind: impl.AcDamper, B: 16}, func(h *impl.House) { h.Hearths[0].Stove.Damper = 1 }},
		{impl.Act{Kind: impl.AcWait}, func(h *impl.House) {}},
		{impl.Act{Kind: impl.AcWait, A: 1}, func(h *impl.House) { *h, _ = modelTick(*h) }},
		{impl.Act{Kind: impl.AcWait, A: 200}, func(h *impl.House) { *h, _ = modelTicks(*h, 200) }},
	} {
		want := copyHouse(coldHouse())
		c.how(&want)
		actIs(t, modelActText(c.act), coldHouse(), c.act, want, impl.OK)
	}
}

func TestP13ActsThatCannotBeDone(t *testing.T) {
	full := coldHouse()
	for range 2 {
		full.Hearths[1].Stove.Logs = append(full.Hearths[1].Stove.Logs, grownLog())
	}
	alight := brainless(fullHouse())
	for _, c := range []struct {
		house impl.House
		act   impl.Act
		code  int64
	}{
		{coldHouse(), impl.Act{Kind: impl.AcLoad, A: 2}, impl.ErrRange}, {coldHouse(), impl.Act{Kind: impl.AcLoad, A: 999}, impl.ErrRange}, {coldHouse(), impl.Act{Kind: impl.AcLoad, B: 65}, impl.ErrRange},
		{coldHouse(), impl.Act{Kind: impl.AcLoad, B: 999}, impl.ErrRange}, {full, impl.Act{Kind: impl.AcLoad, A: 1}, impl.ErrLimit}, {full, impl.Act{Kind: impl.AcLoad, A: 1, B: 65}, impl.ErrRange},
		{coldHouse(), impl.Act{Kind: impl.AcKindle}, impl.ErrNotFound}, {coldHouse(), impl.Act{Kind: impl.AcKindle, A: 2}, impl.ErrRange}, {alight, impl.Act{Kind: impl.AcKindle, A: 1}, impl.ErrState},
		{coldHouse(), impl.Act{Kind: impl.AcRake, A: 2}, impl.ErrRange}, {alight, impl.Act{Kind: impl.AcRake}, impl.ErrState}, {alight, impl.Act{Kind: impl.AcRake, A: 3}, impl.ErrRange},
		{coldHouse(), impl.Act{Kind: impl.AcClean, A: 2}, impl.ErrRange}, {coldHouse(), impl.Act{Kind: impl.AcPane, A: 3}, impl.ErrRange}, {coldHouse(), impl.Act{Kind: impl.AcPane, B: 401}, impl.ErrRange},
		{coldHouse(), impl.Act{Kind: impl.AcBrain, A: 2}, impl.ErrRange}, {coldHouse(), impl.Act{Kind: impl.AcBrain, B: 2}, impl.ErrRange}, {gainingHouse(20), impl.Act{Kind: impl.AcBrain}, impl.ErrRange},
		{coldHouse(), impl.Act{Kind: impl.AcMute, A: 2}, impl.ErrRange}, {coldHouse(), impl.Act{Kind: impl.AcDamper, A: 2}, impl.ErrRange}, {coldHouse(), impl.Act{Kind: impl.AcDamper, B: 17}, impl.ErrRange},
		{coldHouse(), impl.Act{Kind: impl.AcWait, A: 201}, impl.ErrRange}, {coldHouse(), impl.Act{Kind: impl.AcWait, A: 999}, impl.ErrRange}, {gainingHouse(), impl.Act{Kind: impl.AcMute}, impl.ErrRange},
		{tickedTo(coldHouse(), 1000000000), impl.Act{Kind: impl.AcWait, A: 1}, impl.ErrState}, {tickedTo(coldHouse(), 1000000000), impl.Act{Kind: impl.AcWait, A: 201}, impl.ErrRange},
	} {
		if len(c.house.Chimney) == 0 {
			c.house.Chimney = endingAt(-1)
		}
		actIs(t, modelActText(c.act), c.house, c.act, impl.House{}, c.code)
	}
}

func TestP13ActsAreAsTold(t *testing.T) {
	d := dice(625)
	counts := map[string]int{}
	for range 600 {
		h := d.house()
		var acts []impl.Act
		for range d.roll(8) {
			a := d.act(h)
			if d.roll(12) == 0 {
				a = d.anyAct()
			}
			acts = append(acts, a)
		}
		want, wantDone, wantCode := modelActs(h, acts)
		got, done, code := impl.DoActs(h, acts)
		isHouseAt(t, fmt.Sprint(acts), got, want, done, wantDone, code, wantCode)
		counts[impl.CodeName(code)]++
		if len(acts) > 0 {
			want, wantCode := modelAct(h, acts[0])
			got, code := impl.DoAct(h, acts[0])
			isHouse(t, fmt.Sprint(acts[0]), got, want, code, wantCode)
		}
	}
	for _, name := range []string{"ok", "range", "state"} {
		if counts[name] < 40 {
			t.Errorf("only %d of %s", counts[name], name)
		}
	}
}

func TestP13ManyActs(t *testing.T) {
	h := coldHouse()
	acts := slices.Repeat([]impl.Act{{Kind: impl.AcWait, A: 1}, {Kind: impl.AcDamper, B: 3}}, 50)
	want, _ := modelTicks(h, 50)
	want.Hearths[0].Stove.Damper = 0.1875
	got, done, code := impl.DoActs(h, acts)
	isHouseAt(t, "a hundred acts", got, want, done, 100, code, impl.OK)
	acts[99].B = 17
	got, done, code = impl.DoActs(h, acts)
	isHouseAt(t, "the last act has an error", got, impl.House{}, done, 99, code, impl.ErrRange)
	got, done, code = impl.DoActs(h, nil)
	isHouseAt(t, "no acts", got, h, done, 0, code, impl.OK)
}

func TestP13TextsOfActs(t *testing.T) {
	numbers := []int64{0, 1, 9, 10, 16, 17, 64, 65, 99, 100, 999}
	for kind := int64(1); kind < 10; kind++ {
		for _, a := range numbers {
			for _, b := range numbers {
				act := impl.Act{Kind: kind, A: a, B: b}
				text, valid := impl.ActText(act), impl.ValidAct(act)
				if !valid {
					if modelHasTwo(kind) || b == 0 || text != "" {
						t.Errorf("%v: got %q", act, text)
					}
					continue
				}
				read, code := impl.ReadAct(text)
				if text != modelActText(act) || read != act || code != impl.OK || !modelValidAct(act) {
					t.Errorf("%v: got the text %q, and from it %v and the code %d", act, text, read, code)
				}
			}
		}
	}
	for _, bad := range badActs() {
		if text := impl.ActText(bad); text != "" || impl.ValidAct(bad) {
			t.Errorf("%v is valid, or has the text %q", bad, text)
		}
	}
	for text, want := range map[string]impl.Act{
		"load 0 8": {Kind: 1, B: 8}, "kindle 2": {Kind: 2, A: 2}, "rake 0": {Kind: 3}, "clean 999": {Kind: 4, A: 999}, "pane 7 400": {Kind: 5, A: 7, B: 400},
		"brain 1 0": {Kind: 6, A: 1}, "mute 1": {Kind: 7, A: 1}, "damper 1 16": {Kind: 8, A: 1, B: 16}, "wait 200": {Kind: 9, A: 200},
	} {
		got, code := impl.ReadAct(text)
		if got != want || code != impl.OK || impl.ActText(want) != text {
			t.Errorf("ReadAct(%q): got %v and the code %d", text, got, code)
		}
	}
}

func textsOfNoActs() []string {
	texts := []string{"", " ", "load", "load ", "load 0", "load 0 ", "load  0 8", "load 0  8", " load 0 8", "load 0 8 ", "load 0 8 0", "load 0 8\n", "load 00 8", "load 0 08", "load 01 8", "load +0 8", "load 0 +8", "load -0 8",
		"load -1 8", "load 1000 8", "load 0 1000", "load 0 0x8", "load 0 8.0", "load 0,8", "load\t0 8", "Load 0 8", "LOAD 0 8", "lo 0 8", "loads 0 8", "8 0 load", "0 8", "kindle", "kindle 0 0", "kindle 0 1", "kindle 00",
		"rake 0 0", "rake  0", "clean 0 0", "clean x", "pane 0", "pane 0 0 0", "brain 0", "brain 0 -", "brain 0 -1", "mute 0 0", "mute -", "damper 0", "damper 0 1/2", "wait", "wait 0 0", "wait 1000", "wait 1e2", "wait 1_0",
		"wait 99999999999999999999", "wait 18446744073709551616", "mark 00000001", "tick 0", "\x00", "wait \xff", "wait 1\x00"}
	return texts
}

func TestP13TextsThatAreNoActs(t *testing.T) {
	for _, text := range textsOfNoActs() {
		got, code := impl.ReadAct(text)
		if got != (impl.Act{}) || code != impl.ErrSyntax {
			t.Errorf("ReadAct(%q): got %v and the code %d", text, got, code)
		}
	}
}

func TestP13TextsOfHouses(t *testing.T) {
	list := []impl.House{exampleHouse(), fullHouse(), coldHouse()}
	for _, c := range goodHouses() {
		list = append(list, c.house)
	}
	d := dice(626)
	for range 300 {
		list = append(list, d.house())
	}
	for _, h := range list {
		text := impl.HouseText(h)
		if text != modelHouseText(h) {
			t.Fatalf("got the text\n%s, want\n%s", text, modelHouseText(h))
		}
		want, wantCode := withEndedSources(h), int64(impl.OK)
		if !impl.ValidHouse(want) {
			// A source that is as long as it may be has no room for a newline.
			want, wantCode = impl.House{}, impl.ErrSyntax
		}
		read, code := impl.ReadHouse(text)
		isHouse(t, "read", read, want, code, wantCode)
		check, code := impl.CheckOf(h)
		isCount(t, "the check", int64(check), int64(modelCheck(h)), code, impl.OK)
	}
}

func TestP13TextsOfSources(t *testing.T) {
	for source, want := range map[string]string{
		"": "source 0\n", "a = 1": "source 1\na = 1\n", "a = 1\n": "source 1\na = 1\n", "a = 1\nb = 2": "source 2\na = 1\nb = 2\n", "a = 1\nb = 2\n": "source 2\na = 1\nb = 2\n",
		" hearth = 1 ": "source 1\n hearth = 1 \n", "hearth = 0\nhouse = 0\nflat = 0\nsource = 0\n": "source 4\nhearth = 0\nhouse = 0\nflat = 0\nsource = 0\n",
	} {
		h := exampleHouse()
		h.Sources = []string{"b = 1\n", source, ""}
		text := impl.HouseText(h)
		if !strings.Contains(text, "source 1\nb = 1\n"+want+"source 0\nhearth 0 0 - 1\n") {
			t.Errorf("%q: got the text %q", source, text)
		}
		read, code := impl.ReadHouse(text)
		isHouse(t, "read", read, withEndedSources(h), code, impl.OK)
	}
	// A source that does not end with a newline has the text, and the check, of one that does.
	one, other := thinkingHouse("flue = in1"), thinkingHouse("flue = in1\n")
	a, _ := impl.CheckOf(one)
	b, _ := impl.CheckOf(other)
	if a != b || impl.SameHouse(one, other) || impl.HouseText(one) != impl.HouseText(other) {
		t.Errorf("got the checks %08x and %08x", a, b)
	}
}

// replacedText is the text of the example with something replaced, which has to be there.
func replacedText(t *testing.T, old, with string) string {
	t.Helper()
	if !strings.Contains(exampleText, old) {
		t.Fatalf("%q is not there", old)
	}
	return strings.Replace(exampleText, old, with, 1)
}

func TestP13TextsThatAreNoHouses(t *testing.T) {
	zeros := " 00000000 00000000 00000000 00000000 "
	for _, c := range [][2]string{
		{"house 0", "house 00"}, {"house 0", "house -1"}, {"house 0", "house -0"}, {"house 0", "house +0"}, {"house 0", "house 1000000001"}, {"house 0", "house 18446744073709551616"}, {"house 0", "house"}, {"house 0", "House 0"}, {"house 0", " house 0"}, {"house 0", "house  0"},
		{zeros + "0\n", zeros + "00\n"}, {zeros + "0\n", zeros + "-1\n"}, {zeros + "0\n", zeros + "0 \n"}, {zeros + "0\n", zeros + "0 0\n"}, {zeros + "0\n", "\n"}, {zeros + "0\n", zeros + "x\n"}, {zeros + "0\n", zeros + "0\r\n"}, {zeros + "0\n", zeros + "0\n\n"},
		{zeros, " 80000000 00000000 00000000 00000000 "}, {zeros, " 00000000 bf800000 00000000 00000000 "}, {zeros, " 00000000 00000000 7f800000 00000000 "}, {zeros, " 00000000 00000000 00000000 7fc00000 "}, {zeros, " 0000000 00000000 00000000 00000000 "}, {zeros, " 00000000 00000000 00000000 "},
		{"hour 00000000 00000000 00000000\n", ""}, {"hour 00000000", "hour 0000000G"}, {"hour 00000000 00000000", "hour 00000000 80000000"}, {"hour 00000000 00000000 00000000", "hour 00000000 00000000 42c80001"}, {"hour ", "hours "}, {"hour ", "hour  "},
		{"hour 00000000 00000000 00000000", "hour 00000000 00000000"}, {"hour 00000000 00000000 00000000", "hour 00000000 00000000 00000000 00000000"}, {"hour 00000000 00000000 00000000\n", strings.Repeat("hour 00000000 00000000 00000000\n", 25)},
		{"flat 2", "flat 1"}, {"flat 2", "flat 3"}, {"flat 2", "flat 0"}, {"flat 2", "flat 02"}, {"flat 2", "flat -2"}, {"flat 2", "flat +2"}, {"flat 2", "flat"}, {"flat 2", "flat 2 "}, {"flat 2", "flat 2 2"}, {"flat 2", "flat 1000000"}, {"flat 2", "flat 18446744073709551618"}, {"flat 2\n", ""}, {"flat", "Flat"},
		{"room 41a00000", "room 43480001"}, {"room 41a00000", "room 41A00000"}, {"pane 0 -", "pane 0 0"}, {"pane 0 -", "pane 1 -"}, {"pane 0 - 3f800000 00000000\n", ""}, {"room 41a00000 41200000\n", ""},
		{"chimney 1", "chimney 0"}, {"chimney 1", "chimney 2"}, {"chimney 1", "chimney 01"}, {"chimney 1", "chimney 100"}, {"chimney 1\n", ""}, {"40800000 3f000000 41a00000 3f800000 -\n", ""}, {"41a00000 3f800000 -\n", "41a00000 3f800000 0\n"}, {"41a00000 3f800000 -\n", "41a00000 3f800000 -1\n"},
		{"source 1", "source 0"}, {"source 1", "source 2"}, {"source 1", "source 01"}, {"source 1", "source"}, {"source 1", "source -1"}, {"damper = in0 < 18", "damper = in0 < "}, {"damper = in0 < 18", "damper = in4 < 18"}, {"damper = in0 < 18\n", "damper = in0 < 18\n\n"}, {"damper = in0 < 18\n", ""}, {"source 1\n", "source 2\n\n"},
		{"source 1\ndamper = in0 < 18\n", strings.Repeat("source 0\n", 4)}, {"source 1\ndamper = in0 < 18\n", "source 1\n\n"},
		{"hearth 0 0 - 1", "hearth 1 0 - 1"}, {"hearth 0 0 - 1", "hearth - 0 - 1"}, {"hearth 0 0 - 1", "hearth 0 1 - 1"}, {"hearth 0 0 - 1", "hearth 0 - - 1"}, {"hearth 0 0 - 1", "hearth 0 0 -1 1"}, {"hearth 0 0 - 1", "hearth 0 0 1 1"}, {"hearth 0 0 - 1", "hearth 0 0 00 1"}, {"hearth 0 0 - 1", "hearth 00 0 - 1"},
		{"hearth 0 0 - 1", "hearth 0 0 - 0"}, {"hearth 0 0 - 1", "hearth 0 0 - 2"}, {"hearth 0 0 - 1", "hearth 0 0 - 01"}, {"hearth 0 0 - 1", "hearth 0 0 -"}, {"hearth 0 0 - 1", "hearth 0 0 - 1 1"}, {"hearth 0 0 - 1", "hearth 0 0  - 1"}, {"hearth 0 0 - 1\n", ""}, {"hearth 0 0 - 1", "hearths 0 0 - 1"},
		{"cold 0\n", "cold 0"}, {"cold 0\n", "cold 0\n\n"}, {"cold 0\n", "cold 00\n"}, {"cold 0\n", "warm 0\n"}, {"stove 41a00000", "stove 44bb8001"}, {"stove 41a00000 3f800000 00000000 cold 0\n", ""},
	} {
		text := replacedText(t, c[0], c[1])
		h, code := impl.ReadHouse(text)
		isHouse(t, fmt.Sprintf("%q", text), h, impl.House{}, code, impl.ErrSyntax)
	}
	for _, text := range []string{"", "\n", "house", "house 0 0 0 0 0 0\n", exampleText + "\n", exampleText + " ", "\n" + exampleText, exampleText + exampleText, strings.TrimSuffix(exampleText, "\n")} {
		h, code := impl.ReadHouse(text)
		isHouse(t, fmt.Sprintf("%q", text), h, impl.House{}, code, impl.ErrSyntax)
	}
}

// sectionsOf are the sections of the full house's text, each of them with all its lines.
func sectionsOf(text string) []string {
	var sections []string
	for line := range strings.Lines(text) {
		word, _, _ := strings.Cut(strings.TrimSpace(line), " ")
		if slices.Contains([]string{"house", "hour", "flat", "chimney", "source", "hearth"}, word) {
			sections = append(sections, "")
		}
		sections[len(sections)-1] += line
	}
	return sections
}

func TestP13SectionsInAnotherOrder(t *testing.T) {
	h := fullHouse()
	h.Sources[1] = "flue = in2\n"
	text := impl.HouseText(h)
	sections := sectionsOf(text)
	if len(sections) != 12 || strings.Join(sections, "") != text {
		t.Fatalf("got the sections %q", sections)
	}
	for i := range sections {
		for k := range sections {
			moved := slices.Insert(slices.Delete(slices.Clone(sections), i, i+1), k, sections[i])
			doubled := slices.Insert(slices.Clone(sections), k, sections[i])
			for _, other := range [][]string{moved, doubled, slices.Delete(slices.Clone(sections), i, i+1)} {
				text := strings.Join(other, "")
				got, code := impl.ReadHouse(text)
				if code == impl.OK && impl.HouseText(got) == text && impl.ValidHouse(got) {
					continue // sections of one kind have changed places, or are more or fewer
				}
				isHouse(t, fmt.Sprintf("%d %d", i, k), got, impl.House{}, code, impl.ErrSyntax)
			}
		}
	}
	for _, order := range [][]int{{1, 0}, {4, 1}, {5, 4}, {6, 5}, {9, 6}, {11, 0}} {
		other := slices.Clone(sections)
		other[order[0]], other[order[1]] = other[order[1]], other[order[0]]
		got, code := impl.ReadHouse(strings.Join(other, ""))
		isHouse(t, fmt.Sprint("changed places ", order), got, impl.House{}, code, impl.ErrSyntax)
	}
	for _, i := range []int{0, 4, 5} {
		got, code := impl.ReadHouse(strings.Join(slices.Insert(slices.Clone(sections), i, sections[i]), ""))
		isHouse(t, fmt.Sprint("doubled ", i), got, impl.House{}, code, impl.ErrSyntax)
	}
}

func TestP13SpoiledTextsOfHouses(t *testing.T) {
	d := dice(627)
	texts := []string{exampleText, impl.HouseText(fullHouse()), impl.HouseText(coldHouse())}
	good := 0
	for range 4000 {
		text := d.spoiled(texts[d.roll(3)])
		got, code := impl.ReadHouse(text)
		if code == impl.OK {
			good++
			if !impl.ValidHouse(got) || modelHouseText(got) != text {
				t.Errorf("%q: got %v", text, got)
			}
			continue
		}
		isHouse(t, fmt.Sprintf("%q", text), got, impl.House{}, code, impl.ErrSyntax)
	}
	if good < 100 || good > 3000 {
		t.Errorf("%d good texts", good)
	}
}

func TestP13LongTextsOfHouses(t *testing.T) {
	// The longest house has far fewer bytes than a text may have.
	h := copyHouse(fullHouse())
	h.Flat, h.Hours, h.Sources = flatWith(5, 5, 10, 8), manyHours(24), sourcesOf(longestSource(), 3) // 2000 bytes each
	for i := range h.Hearths {
		h.Hearths[i].Stove.Logs = slices.Repeat([]impl.Wood{grownLog()}, 6)
	}
	text := impl.HouseText(h)
	read, code := impl.ReadHouse(text)
	if len(text) < 11000 || len(text) > 12000 {
		t.Errorf("the text has %d bytes", len(text))
	}
	isHouse(t, "sources that get too long by a newline", read, impl.House{}, code, impl.ErrSyntax)
	h.Sources = sourcesOf(longestSource()[:1999]+"\n", 3)
	read, code = impl.ReadHouse(impl.HouseText(h))
	isHouse(t, "the longest sources", read, h, code, impl.OK)
	for _, size := range []int{59999, 60000} {
		got, code := impl.ReadHouse(text + strings.Repeat("\n", size-len(text)))
		isHouse(t, "at the limit", got, impl.House{}, code, impl.ErrSyntax)
	}
	for _, size := range []int{60001, 70000, 1000000} {
		got, code := impl.ReadHouse(text + strings.Repeat("\n", size-len(text)))
		isHouse(t, "beyond the limit", got, impl.House{}, code, impl.ErrRange)
	}
}
