package tests

import (
	"math"
	"slices"
	"strings"
	"testing"

	"loop.example/g01229/impl"
)

// Promise 1 of chapter 3: every function returns for all arguments, modifies no argument, and returns equal results
// for equal arguments.

func TestP1ChimneyLimits(t *testing.T) {
	if impl.MaxFlues != 6 || impl.MaxWarmSteps != 200 {
		t.Errorf("got %d and %d", impl.MaxFlues, impl.MaxWarmSteps)
	}
}

// flueField is a number of a flue, with those that it may be, and those that it may not.
type flueField struct {
	name      string
	at        func(f *impl.Flue) *float32
	good, bad []float32
}

func flueFields() []flueField {
	return []flueField{
		{"Height", func(f *impl.Flue) *float32 { return &f.Height },
			[]float32{1.0 / 16, above(1.0 / 16), 1, below(30), 30},
			[]float32{below(1.0 / 16), 0, negZero, tiny, -1, -30, above(30), big, inf, -inf, nan, otherNaN}},
		{"Wide", func(f *impl.Flue) *float32 { return &f.Wide },
			[]float32{1.0 / 64, above(1.0 / 64), 1, below(4), 4},
			[]float32{below(1.0 / 64), 0, negZero, tiny, -1, -4, above(4), big, inf, -inf, nan, otherNaN}},
		{"Heat", func(f *impl.Flue) *float32 { return &f.Heat }, goodHeats, badHeats},
		{"Damper", func(f *impl.Flue) *float32 { return &f.Damper },
			[]float32{0, tiny, 1.0 / 64, 0.5, below(1), 1},
			[]float32{negZero, -tiny, -1, above(1), 2, big, inf, -inf, nan, otherNaN}},
	}
}

// changedFlues are the flue of the example with one of its numbers replaced.
func changedFlues(good bool) map[string]impl.Flue {
	flues := map[string]impl.Flue{}
	for _, field := range flueFields() {
		numbers := field.bad
		if good {
			numbers = field.good
		}
		for _, a := range numbers {
			f := likeTheExample(-1)
			*field.at(&f) = a
			flues[field.name+" "+impl.NumberText(a)] = f
		}
	}
	return flues
}

// endingAt is a chimney whose flues end as told.
func endingAt(into ...int64) []impl.Flue {
	var c []impl.Flue
	for _, i := range into {
		c = append(c, likeTheExample(i))
	}
	return c
}

func goodChimneys() [][]impl.Flue {
	list := [][]impl.Flue{
		endingAt(-1), endingAt(-1, 0), endingAt(1, -1), endingAt(-1, -1, -1, -1, -1, -1), endingAt(5, 5, 5, 5, 5, -1),
		endingAt(-1, 0, 0, 0, 0, 0), endingAt(-1, 0, -1, 2, 2, -1), forked(), sixFlues(),
	}
	for _, f := range changedFlues(true) {
		list = append(list, []impl.Flue{f}, []impl.Flue{likeTheExample(1), f})
		f.Into = 1
		list = append(list, []impl.Flue{f, likeTheExample(-1)})
	}
	return list
}

func badChimneys() [][]impl.Flue {
	list := [][]impl.Flue{
		nil, {}, {{}}, endingAt(-1, -1, -1, -1, -1, -1, -1), endingAt(-1, 0, 0, 0, 0, 0, 0), make([]impl.Flue, 30000),
		endingAt(0), endingAt(1), endingAt(-2), endingAt(-1, 1), endingAt(-1, 2), endingAt(-1, 0, 1), endingAt(1, 2, -1), endingAt(1, 0),
		endingAt(-1, 0, 3), endingAt(-1, -2), endingAt(-1, 6), endingAt(-1, math.MaxInt64), endingAt(-1, math.MinInt64), endingAt(-1, 1<<32),
		endingAt(-1, 0, -1, 2, 2, 4), endingAt(2, 2, 2),
	}
	for _, f := range changedFlues(false) {
		list = append(list, []impl.Flue{f}, []impl.Flue{likeTheExample(1), f})
		f.Into = 1
		list = append(list, []impl.Flue{f, likeTheExample(-1)})
	}
	return list
}

func TestP1ValidChimney(t *testing.T) {
	for _, c := range goodChimneys() {
		if !impl.ValidChimney(c) {
			t.Errorf("%v is valid", c)
		}
	}
	for _, c := range badChimneys() {
		if impl.ValidChimney(c) {
			t.Errorf("%d flues are not valid: %v", len(c), c[:min(len(c), 7)])
		}
	}
}

// None of these is the same as another one, though some are equal by ==.
func differentChimneys() [][]impl.Flue {
	list := [][]impl.Flue{nil, endingAt(-1), endingAt(-1, -1), endingAt(-1, 0), endingAt(1, -1), endingAt(-1, 7), endingAt(-1, math.MinInt64), make([]impl.Flue, 7)}
	for _, field := range flueFields() {
		for _, a := range []float32{0, negZero, tiny, above(1), inf, -inf, nan} {
			first, last := endingAt(-1, -1), endingAt(-1, -1)
			*field.at(&first[0]), *field.at(&last[1]) = a, a
			list = append(list, first, last)
		}
	}
	return list
}

func TestP1SameChimney(t *testing.T) {
	again := differentChimneys()
	for i, c := range differentChimneys() {
		for k, d := range again {
			if got := impl.SameChimney(c, d); got != (i == k) {
				t.Errorf("SameChimney(%v, %v): got %v", c, d, got)
			}
		}
	}
	if !impl.SameChimney(nil, []impl.Flue{}) || !impl.SameChimney([]impl.Flue{}, nil) {
		t.Error("a nil slice and an empty one are equivalent")
	}
	allNaN := func(a float32) []impl.Flue { return []impl.Flue{{Height: a, Wide: a, Heat: a, Damper: a}} }
	if !impl.SameChimney(allNaN(nan), allNaN(otherNaN)) {
		t.Error("each NaN is the same")
	}
	long := make([]impl.Flue, 200000)
	other := slices.Clone(long)
	if !impl.SameChimney(long, other) {
		t.Error("long lists are the same as well")
	}
	other[199999].Damper = negZero
	if impl.SameChimney(long, other) {
		t.Error("their last flues count")
	}
}

// drawTold is all that a function of chapter 3 returns beside its code.
type drawTold struct {
	flues   []impl.Flue
	numbers []float32
	indices []int64
	number  float32
	count   int64
}

func sameDrawTold(a, b drawTold) bool {
	return sameFlues(a.flues, b.flues) && sameNumbers(a.numbers, b.numbers) && slices.Equal(a.indices, b.indices) &&
		sameBits(a.number, b.number) && a.count == b.count
}

// drawArguments are what a function of chapter 3 takes beside a chimney.
type drawArguments struct {
	flue                int64
	outside, wind, time float32
	damper, flow        float32
	smoke, flows        []float32
	most                int64
}

// easyFor fits the chimneys of the tests if their flue 0 is a trunk.
func easyFor(c []impl.Flue) drawArguments {
	count := min(len(c), 10)
	return drawArguments{0, 5, 0.5, 0.25, 0.5, 0, make([]float32, count), make([]float32, count), 200}
}

type drawCall struct {
	name string
	do   func(c []impl.Flue, g drawArguments) (drawTold, int64)
}

// drawCalls are all functions that take a chimney and may return an error.
func drawCalls() []drawCall {
	return []drawCall{
		{"PushAt", func(c []impl.Flue, g drawArguments) (drawTold, int64) {
			a, code := impl.PushAt(c, g.flue, g.outside, g.wind)
			return drawTold{number: a}, code
		}},
		{"FlowsOf", func(c []impl.Flue, g drawArguments) (drawTold, int64) {
			l, code := impl.FlowsOf(c, g.outside, g.wind)
			return drawTold{numbers: l}, code
		}},
		{"BlownBack", func(c []impl.Flue, g drawArguments) (drawTold, int64) {
			l, code := impl.BlownBack(c, g.outside, g.wind)
			return drawTold{indices: l}, code
		}},
		{"SetFlue", func(c []impl.Flue, g drawArguments) (drawTold, int64) {
			d, code := impl.SetFlue(c, g.flue, g.damper)
			return drawTold{flues: d}, code
		}},
		{"DamperFor", func(c []impl.Flue, g drawArguments) (drawTold, int64) {
			a, code := impl.DamperFor(c, g.flue, g.flow, g.outside, g.wind)
			return drawTold{number: a}, code
		}},
		{"SmokeInto", func(c []impl.Flue, g drawArguments) (drawTold, int64) {
			l, code := impl.SmokeInto(c, g.smoke, g.flows, g.outside)
			return drawTold{numbers: l}, code
		}},
		{"WarmChimney", func(c []impl.Flue, g drawArguments) (drawTold, int64) {
			d, l, code := impl.WarmChimney(c, g.smoke, g.outside, g.wind, g.time)
			return drawTold{flues: d, numbers: l}, code
		}},
		{"StepsToDraw", func(c []impl.Flue, g drawArguments) (drawTold, int64) {
			n, code := impl.StepsToDraw(c, g.smoke, g.outside, g.wind, g.time, g.most)
			return drawTold{count: n}, code
		}},
	}
}

// flueCalls are those that take a single flue, the first one here.
func flueCalls() []drawCall {
	return []drawCall{
		{"DraftOf", func(c []impl.Flue, g drawArguments) (drawTold, int64) {
			a, code := impl.DraftOf(c[0], g.outside)
			return drawTold{number: a}, code
		}},
		{"ResistOf", func(c []impl.Flue, g drawArguments) (drawTold, int64) {
			a, code := impl.ResistOf(c[0])
			return drawTold{number: a}, code
		}},
		{"FlowThrough", func(c []impl.Flue, g drawArguments) (drawTold, int64) {
			a, code := impl.FlowThrough(c[0], g.outside, g.wind)
			return drawTold{number: a}, code
		}},
	}
}

func allDrawCalls() []drawCall { return append(drawCalls(), flueCalls()...) }

// drawsAreRefused checks that the named functions have the code, and zero values in all other results, and that others are OK.
func drawsAreRefused(t *testing.T, why, names string, c []impl.Flue, g drawArguments, want int64) {
	t.Helper()
	for _, call := range allDrawCalls() {
		got, code := call.do(c, g)
		if named := slices.Contains(strings.Fields(names), call.name); named && (code != want || !sameDrawTold(got, drawTold{})) {
			t.Errorf("%s: %s: got %v and the code %d, want %d", why, call.name, got, code, want)
		} else if !named && code != impl.OK {
			t.Errorf("%s: %s: got the code %d", why, call.name, code)
		}
	}
}

// worstArguments have an error for each function.
func worstArguments() drawArguments {
	return drawArguments{-1, 61, nan, 2, -1, -1, []float32{nan}, []float32{inf, 0, 0}, -1}
}

func TestP1InvalidChimneysAreToldFirst(t *testing.T) {
	for _, c := range badChimneys() {
		for _, g := range []drawArguments{easyFor(c), worstArguments(), {}} {
			for _, call := range drawCalls() {
				if got, code := call.do(c, g); code != impl.ErrInvalid || !sameDrawTold(got, drawTold{}) {
					t.Errorf("%s of %v: got %v and the code %d", call.name, c[:min(len(c), 7)], got, code)
				}
			}
		}
		if text := impl.ChimneyText(c); text != "" {
			t.Errorf("%v: got the text %q", c[:min(len(c), 7)], text)
		}
	}
}

func TestP1InvalidFluesAreToldFirst(t *testing.T) {
	for name, f := range changedFlues(false) {
		for _, g := range []drawArguments{easyFor(nil), worstArguments()} {
			for _, call := range flueCalls() {
				if got, code := call.do([]impl.Flue{f}, g); code != impl.ErrInvalid || !sameDrawTold(got, drawTold{}) {
					t.Errorf("%s: %s: got %v and the code %d", name, call.name, got, code)
				}
			}
		}
	}
	for name, f := range changedFlues(true) {
		for _, into := range []int64{-1, 0, 1, 6, -2, math.MaxInt64, math.MinInt64} {
			f.Into = into
			_, one := impl.DraftOf(f, 5)
			_, two := impl.FlowThrough(f, 5, 0.5)
			if one != impl.OK || two != impl.OK {
				t.Errorf("%s: Into %d does not matter: got the codes %d and %d", name, into, one, two)
			}
			if resist, code := impl.ResistOf(f); code == impl.ErrInvalid || code != impl.OK && resist != 0 {
				t.Errorf("%s: Into %d does not matter: got %v and the code %d", name, into, resist, code)
			}
		}
	}
}

const (
	withOutside = "PushAt FlowsOf BlownBack DamperFor SmokeInto WarmChimney StepsToDraw DraftOf FlowThrough"
	withWind    = "PushAt FlowsOf BlownBack DamperFor WarmChimney StepsToDraw FlowThrough"
	withSmoke   = "SmokeInto WarmChimney StepsToDraw"
)

// fourFlues have a trunk with branches, as the flue 0, a shut branch and an open trunk.
func fourFlues() []impl.Flue {
	c := []impl.Flue{likeTheExample(-1), likeTheExample(0), likeTheExample(0), likeTheExample(-1)}
	c[2].Damper = 0
	return c
}

// rangeChecker lets one of the arguments be another one; all others stay easy, and no function has another error.
func rangeChecker(t *testing.T, why string, want int64) func(names string, how func(g *drawArguments)) {
	return func(names string, how func(g *drawArguments)) {
		t.Helper()
		c := fourFlues()
		g := easyFor(c)
		how(&g)
		drawsAreRefused(t, why, names, c, g, want)
	}
}

func TestP1RangesOfWeatherAreTold(t *testing.T) {
	check := rangeChecker(t, "range", impl.ErrRange)
	for _, bad := range []float32{below(-60), -61, above(60), 61, big, -big, inf, -inf, nan, otherNaN} {
		check(withOutside, func(g *drawArguments) { g.outside = bad })
	}
	for _, bad := range []float32{below(-1000), -1001, above(1000), 1001, big, -big, inf, -inf, nan, otherNaN} {
		check(withWind, func(g *drawArguments) { g.wind = bad })
	}
	for _, bad := range []float32{negZero, -tiny, -1, above(1), 2, inf, -inf, nan, otherNaN} {
		check("WarmChimney StepsToDraw", func(g *drawArguments) { g.time = bad })
	}
	for _, bad := range badHeats {
		a, code := impl.DenseAt(bad)
		isNumberAnd(t, "DenseAt", a, 0, code, impl.ErrRange)
	}
}

func TestP1RangesOfFluesAreTold(t *testing.T) {
	check := rangeChecker(t, "range", impl.ErrRange)
	for _, bad := range []int64{-1, 4, -2, 1 << 32, math.MinInt64, math.MaxInt64} {
		check("PushAt SetFlue DamperFor", func(g *drawArguments) { g.flue = bad })
	}
	for _, branch := range []int64{1, 2} {
		check("PushAt", func(g *drawArguments) { g.flue = branch })
	}
	for _, bad := range []float32{negZero, -tiny, -1, above(1), 2, inf, -inf, nan, otherNaN} {
		check("SetFlue", func(g *drawArguments) { g.damper = bad })
	}
	for _, bad := range []float32{negZero, -tiny, -1, -big, inf, -inf, nan, otherNaN} {
		check("DamperFor", func(g *drawArguments) { g.flow = bad })
	}
	for _, bad := range []int64{-1, impl.MaxWarmSteps + 1, 1 << 32, math.MinInt64, math.MaxInt64} {
		check("StepsToDraw", func(g *drawArguments) { g.most = bad })
	}
}

func TestP1RangesOfListsAreTold(t *testing.T) {
	check := rangeChecker(t, "range", impl.ErrRange)
	for _, count := range []int{0, 1, 3, 5, 200000} {
		check(withSmoke, func(g *drawArguments) { g.smoke = make([]float32, count) })
		check("SmokeInto", func(g *drawArguments) { g.flows = make([]float32, count) })
	}
	check(withSmoke, func(g *drawArguments) { g.smoke = nil })
	check("SmokeInto", func(g *drawArguments) { g.flows = nil })
	for i := range 4 {
		for _, bad := range badHeats {
			check(withSmoke, func(g *drawArguments) { g.smoke[i] = bad })
		}
		for _, bad := range []float32{inf, -inf, nan, otherNaN} {
			check("SmokeInto", func(g *drawArguments) { g.flows[i] = bad })
		}
	}
}

func TestP1DrawArgumentsMayReachTheirBounds(t *testing.T) {
	check := rangeChecker(t, "at a bound", impl.OK)
	for _, edge := range []float32{-60, above(-60), negZero, 0, tiny, -tiny, below(60), 60} {
		check("", func(g *drawArguments) { g.outside, g.flow = edge, 0 })
	}
	for _, edge := range []float32{0, tiny, 1.0 / 64, below(1), 1} {
		check("", func(g *drawArguments) { g.time, g.damper = edge, edge })
	}
	for _, edge := range []int64{0, 3} {
		check("", func(g *drawArguments) { g.flue = edge })
	}
	for i := range 4 {
		for _, edge := range goodHeats {
			check("", func(g *drawArguments) { g.smoke[i] = edge })
		}
		for _, edge := range []float32{-big, negZero, tiny, -tiny, 1e35} {
			check("", func(g *drawArguments) { g.flows[i] = edge })
		}
	}
	for _, edge := range []int64{0, 1, impl.MaxWarmSteps} {
		check("", func(g *drawArguments) { g.most = edge })
	}
	// A wind may blow flues back for ever, and let DamperFor find none; but the wind is told no error.
	for _, edge := range []float32{-1000, above(-1000), negZero, tiny, below(1000), 1000} {
		c := fourFlues()
		g := easyFor(c)
		g.wind = edge
		for _, call := range allDrawCalls() {
			if _, code := call.do(c, g); code != impl.OK && code != impl.ErrBudget {
				t.Errorf("wind %v: %s: got the code %d", edge, call.name, code)
			}
		}
	}
}

func TestP1LaterErrorsOfDrawsComeBehindRanges(t *testing.T) {
	c := fourFlues()
	g := easyFor(c)
	g.wind, g.flow, g.flows[1], g.most = 1000, big, big, 0
	for _, call := range []struct {
		name string
		code int64
	}{{"DamperFor", impl.ErrNotFound}, {"SmokeInto", impl.ErrState}, {"StepsToDraw", impl.ErrBudget}} {
		i := slices.IndexFunc(drawCalls(), func(other drawCall) bool { return other.name == call.name })
		do := drawCalls()[i].do
		if got, code := do(c, g); code != call.code || !sameDrawTold(got, drawTold{}) {
			t.Errorf("%s: got %v and the code %d", call.name, got, code)
		}
		bad := g
		bad.outside = 61
		if got, code := do(c, bad); code != impl.ErrRange || !sameDrawTold(got, drawTold{}) {
			t.Errorf("%s: got %v and the code %d", call.name, got, code)
		}
		if _, code := do(endingAt(0, 0, 0, 0), g); code != impl.ErrInvalid {
			t.Errorf("%s: got the code %d", call.name, code)
		}
	}
}

// roomyList is the same list in other memory, with room for more behind its end, which has the filling.
func roomyList[T any](list []T, filling T) []T {
	roomy := append([]T{}, list...)
	for range 3 {
		roomy = append(roomy, filling)
	}
	return roomy[:len(list)]
}

func roomyArguments(g drawArguments) drawArguments {
	g.smoke, g.flows = roomyList(g.smoke, 77), roomyList(g.flows, 7)
	return g
}

// fill overwrites all that a list has room for.
func fill[T any](list []T, filling T) {
	list = list[:cap(list)]
	for i := range list {
		list[i] = filling
	}
}

func (told drawTold) scribble() {
	fill(told.flues, likeTheExample(5))
	fill(told.numbers, 9)
	fill(told.indices, 9)
}

func (told drawTold) kept() drawTold {
	told.flues, told.numbers, told.indices = slices.Clone(told.flues), slices.Clone(told.numbers), slices.Clone(told.indices)
	return told
}

// untouched tells whether lists that were made by roomyList are as they were made.
func untouched(c, was []impl.Flue, g, old drawArguments) bool {
	return sameFlues(c[:cap(c)][:len(c)+3], append(slices.Clone(was), make([]impl.Flue, 3)...)) &&
		sameNumbers(g.smoke[:len(g.smoke)+3], append(slices.Clone(old.smoke), 77, 77, 77)) &&
		sameNumbers(g.flows[:len(g.flows)+3], append(slices.Clone(old.flows), 7, 7, 7))
}

// chimneysToTry are such that each function has no error for some of them.
func chimneysToTry() [][]impl.Flue {
	list := [][]impl.Flue{endingAt(-1), forked(), fourFlues(), sixFlues(), endingAt(0), endingAt(-1, -1, -1, -1, -1, -1, -1), nil}
	d := dice(41)
	for range 30 {
		list = append(list, d.chimney())
	}
	return list
}

func TestP1DrawsModifyNothingAndShareNothing(t *testing.T) {
	d := dice(42)
	for _, c := range chimneysToTry() {
		for _, wind := range []float32{0.5, 400} {
			g := easyFor(c)
			g.flue, g.wind, g.smoke, g.flows = int64(d.roll(len(c)+1)), wind, d.smokeFor(c), d.flowsFor(c)
			for _, call := range drawCalls() {
				roomy, args := roomyList(c, impl.Flue{}), roomyArguments(g)
				one, code := call.do(roomy, args)
				two, also := call.do(roomy, args)
				if !untouched(roomy, c, args, g) {
					t.Errorf("%s modifies its arguments: %v", call.name, c)
				}
				if code != also || !sameDrawTold(one, two) {
					t.Errorf("%s has other results the second time: %v", call.name, c)
				}
				kept := two.kept()
				one.scribble()
				if !untouched(roomy, c, args, g) || !sameDrawTold(two, kept) {
					t.Errorf("%s: a result shares memory: %v", call.name, c)
				}
				fill(roomy, likeTheExample(4))
				fill(args.smoke, 8)
				fill(args.flows, 8)
				if !sameDrawTold(two, kept) {
					t.Errorf("%s keeps its arguments: %v", call.name, c)
				}
			}
		}
	}
}

func TestP1WhatIsReadSharesNoMemory(t *testing.T) {
	text := impl.ChimneyText(sixFlues())
	one, _ := impl.ReadChimney(text)
	two, _ := impl.ReadChimney(text)
	fill(one, impl.Flue{})
	if !sameFlues(two, sixFlues()) {
		t.Error("what is read shares memory")
	}
}

func TestP1EveryFunctionOfChimneysReturns(t *testing.T) {
	odd := []float32{0, negZero, tiny, -tiny, 1, above(1), -60, 60, 1000, -1000, 1500, big, -big, inf, -inf, nan, otherNaN}
	counts := []int64{math.MinInt64, -1, 0, 1, 5, 200, math.MaxInt64}
	d := dice(43)
	for range 4000 {
		c := d.chimney()
		if d.roll(4) == 0 {
			*flueFields()[d.roll(4)].at(&c[d.roll(len(c))]) = d.pick(odd...)
			c[d.roll(len(c))].Into = counts[d.roll(7)]
		}
		g := drawArguments{
			int64(d.roll(7)), d.pick(odd...), d.pick(odd...), d.pick(odd...), d.pick(odd...), d.pick(odd...),
			d.smokeFor(c), d.flowsFor(c), counts[d.roll(7)],
		}
		g.smoke[d.roll(len(c))], g.flows[d.roll(len(c))] = d.pick(odd...), d.pick(odd...)
		for _, call := range allDrawCalls() {
			got, code := call.do(c, g)
			if impl.CodeName(code) == "" || code != impl.OK && !sameDrawTold(got, drawTold{}) {
				t.Fatalf("%s(%v, %v): got %v, %d", call.name, c, g, got, code)
			}
			if len(got.flues) > 0 && !impl.ValidChimney(got.flues) || !isGood(got.number) || !isGood(sumOf(0, got.numbers...)) {
				t.Fatalf("%s(%v, %v): got %v", call.name, c, g, got)
			}
		}
	}
}

func TestP1LongTextsOfChimneys(t *testing.T) {
	line := impl.ChimneyText(endingAt(-1))
	for _, text := range []string{
		strings.Repeat("0", 1000000), strings.Repeat(" ", 1000000), strings.Repeat("\n", 1000000), strings.Repeat(" -\n", 300000),
		strings.Repeat(line, 25000), strings.TrimSuffix(line, "-\n") + strings.Repeat("9", 900000) + "\n",
	} {
		c, code := impl.ReadChimney(text)
		isChimney(t, text[:20], c, nil, code, impl.ErrSyntax)
	}
}
