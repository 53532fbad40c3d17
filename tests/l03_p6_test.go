package tests

import (
	"math"
	"slices"
	"testing"

	"loop.example/g01229/impl"
)

// Promise 6: where branches join, what comes goes, nearly; the least damper is least.

// These pushes and flows, like what is known of smoke, were calculated with exact fractions, rounded after each operation.
func TestP6KnownPushesAndFlows(t *testing.T) {
	for _, c := range []struct {
		outside, wind float32
		pushes, flows []uint32
		back          []int64
	}{
		{-7.3, 3.25, []uint32{0xc18337cb, 0xc05f22b9, 0}, []uint32{0x3f41398c, 0x3f0fea31, 0x3e453d6b, 0x3f711f1e, 0x3f711f1e, 0x3d6b3079}, nil},
		{31.7, -55.5, []uint32{0xc227d01c, 0xc1b4d5c5, 0}, []uint32{0x3f858651, 0x3f40f7c8, 0x3e9429b5, 0x3fa0103a, 0x3fa0103a, 0x3ddc7392}, nil},
		{12.1, 88.8, []uint32{0x41e8aff6, 0x41e9c556, 0}, []uint32{0xbf41cbff, 0xbef2c788, 0xbe90d077, 0xbf413bb3, 0xbf413bb4, 0xbe0318b2}, []int64{0, 1, 2, 3, 4, 5}},
	} {
		for i, trunk := range []int64{0, 3, 5} {
			push, code := impl.PushAt(sixFlues(), trunk, c.outside, c.wind)
			isNumberAnd(t, "PushAt", push, math.Float32frombits(c.pushes[i]), code, impl.OK)
		}
		flows, code := impl.FlowsOf(sixFlues(), c.outside, c.wind)
		areNumbers(t, "FlowsOf", flows, numbersOf(c.flows...), code, impl.OK)
		back, code := impl.BlownBack(sixFlues(), c.outside, c.wind)
		areIndices(t, "BlownBack", back, c.back, code, impl.OK)
	}
	push, code := impl.PushAt(forked(), 2, 0, 0)
	isNumberAnd(t, "PushAt", push, math.Float32frombits(0x40db6db5), code, impl.OK)
	flows, code := impl.FlowsOf(forked(), 0, 0)
	areNumbers(t, "FlowsOf", flows, numbersOf(0x3f41848f, 0x3f41848f, 0x3fc1848f), code, impl.OK)
}

func TestP6PushesAndFlowsAreAsTold(t *testing.T) {
	d := dice(61)
	signs := map[string]int{}
	for range 1500 {
		c, outside, wind := d.chimney(), d.outside(), d.wind()
		for i := range c {
			push, code := impl.PushAt(c, int64(i), outside, wind)
			if c[i].Into != -1 {
				isNumberAnd(t, "PushAt a branch", push, 0, code, impl.ErrRange)
			} else {
				isNumberAnd(t, "PushAt", push, modelPush(c, i, outside, wind), code, impl.OK)
			}
		}
		want := modelFlows(c, outside, wind)
		flows, code := impl.FlowsOf(c, outside, wind)
		areNumbers(t, "FlowsOf", flows, want, code, impl.OK)
		back, code := impl.BlownBack(c, outside, wind)
		areIndices(t, "BlownBack", back, modelBlownBack(c, outside, wind), code, impl.OK)
		for _, flow := range want {
			switch {
			case flow > 0:
				signs["up"]++
			case flow < 0:
				signs["down"]++
			case math.Signbit(float64(flow)):
				signs["-0"]++
			default:
				signs["0"]++
			}
		}
	}
	for _, sign := range []string{"up", "down", "-0", "0"} {
		if signs[sign] < 50 {
			t.Errorf("too few of a kind: %v", signs)
		}
	}
}

func TestP6OpenTrunksHaveNoPush(t *testing.T) {
	d := dice(62)
	for range 200 {
		f, outside, wind := d.flue(), d.outside(), d.wind()
		push, code := impl.PushAt([]impl.Flue{f}, 0, outside, wind)
		isNumberAnd(t, "PushAt", push, 0, code, impl.OK)
		flow, _ := impl.FlowThrough(f, outside, minus(0, wind))
		flows, code := impl.FlowsOf([]impl.Flue{f, f}, outside, wind)
		areNumbers(t, "FlowsOf", flows, []float32{flow, flow}, code, impl.OK)
	}
}

// A flow is that through the flue alone, with the push that is told for it.
func TestP6FlowsAreThoseOfTheirPushes(t *testing.T) {
	d := dice(63)
	for range 500 {
		c, outside, wind := d.chimneyOf(d.plainFlue), d.outside(), d.share()*200-100
		flows, _ := impl.FlowsOf(c, outside, wind)
		for i, f := range c {
			trunk := int64(i)
			if f.Into != -1 {
				trunk = f.Into
			}
			push, _ := impl.PushAt(c, trunk, outside, wind)
			if f.Into != -1 {
				push = minus(0, push)
			} else {
				push = minus(push, wind)
			}
			flow, code := impl.FlowThrough(f, outside, push)
			isNumberAnd(t, "FlowsOf", flows[i], flow, code, impl.OK)
		}
	}
}

func TestP6WhatComesGoes(t *testing.T) {
	d := dice(64)
	joined := 0
	for range 1000 {
		c, outside, wind := d.chimneyOf(d.plainFlue), d.outside(), d.share()*100-50
		flows, code := impl.FlowsOf(c, outside, wind)
		isCode(t, "FlowsOf", code, impl.OK)
		for i := range c {
			branches := modelBranches(c, i)
			gap := float64(flows[i])
			for _, k := range branches {
				gap -= float64(flows[k])
			}
			if len(branches) > 0 && math.Abs(gap) > 5e-3 {
				t.Errorf("%v: outside %v, wind %v: the flows %v differ by %v", c, outside, wind, flows, gap)
			}
			joined += min(len(branches), 1)
		}
	}
	if joined < 500 {
		t.Errorf("only %d trunks have branches", joined)
	}
}

func TestP6BranchesThatAreAlikeBringAlike(t *testing.T) {
	for branches := 1; branches <= 5; branches++ {
		c := endingAt(-1)
		for range branches {
			c = append(c, likeTheExample(0))
		}
		flows, code := impl.FlowsOf(c, 0, 0)
		isCode(t, "FlowsOf", code, impl.OK)
		for _, flow := range flows[1:] {
			isNumber(t, "a branch", flow, flows[1])
			if gap := float64(flow)*float64(branches) - float64(flows[0]); flow <= 0 || math.Abs(gap) > 1e-4 {
				t.Errorf("%d branches: got %v", branches, flows)
			}
		}
	}
}

// With a wind, the push that a trunk has may be beyond the bounds of those that are given.
func TestP6PushesAtBothEnds(t *testing.T) {
	narrow := impl.Flue{Height: 30, Wide: 1.0 / 64, Heat: -60, Damper: 1, Into: -1}
	wide := impl.Flue{Height: 30, Wide: 4, Heat: 1500, Damper: 1, Into: -1}
	into := func(f impl.Flue) impl.Flue { f.Into = 0; return f }
	for _, c := range []struct {
		flues         []impl.Flue
		outside, wind float32
	}{
		{[]impl.Flue{wide, into(narrow)}, 60, 1000}, {[]impl.Flue{wide, into(narrow)}, -60, -1000},
		{[]impl.Flue{narrow, into(wide)}, 60, 1000}, {[]impl.Flue{narrow, into(wide)}, -60, -1000},
		{[]impl.Flue{narrow, into(narrow)}, 60, 1000}, {[]impl.Flue{wide, into(wide)}, -60, -1000},
		{[]impl.Flue{endingAt(-1)[0], into(wide)}, -60, -1000}, {[]impl.Flue{narrow, into(endingAt(0)[0])}, 60, 1000},
	} {
		push, code := impl.PushAt(c.flues, 0, c.outside, c.wind)
		isNumberAnd(t, "PushAt", push, modelPush(c.flues, 0, c.outside, c.wind), code, impl.OK)
		flows, code := impl.FlowsOf(c.flues, c.outside, c.wind)
		areNumbers(t, "FlowsOf", flows, modelFlows(c.flues, c.outside, c.wind), code, impl.OK)
	}
	push, _ := impl.PushAt([]impl.Flue{narrow, into(wide)}, 0, -60, -1000)
	if push+1000 <= 1000 {
		t.Errorf("the push %v is not beyond the bounds", push)
	}
	shut := into(wide)
	shut.Damper = 0
	cold := wide
	cold.Heat = -60
	push, code := impl.PushAt([]impl.Flue{cold, shut}, 0, 60, 1000)
	isNumberAnd(t, "nothing comes, and all goes down", push, 1000, code, impl.OK)
	cold.Damper = 0
	push, code = impl.PushAt([]impl.Flue{cold, shut}, 0, 60, 1000)
	isNumberAnd(t, "nothing comes or goes", push, modelPush([]impl.Flue{cold, shut}, 0, 60, 1000), code, impl.OK)
	flows, code := impl.FlowsOf([]impl.Flue{cold, shut}, 60, 1000)
	areNumbers(t, "nothing comes or goes", flows, []float32{0, 0}, code, impl.OK)
	if push > -999 {
		t.Errorf("nothing is greater than nothing: the push is %v", push)
	}
}

func TestP6BlownBack(t *testing.T) {
	c := fourFlues()
	for _, k := range []struct {
		wind float32
		want []int64
	}{{0, nil}, {1, nil}, {40, []int64{0, 1, 3}}, {-40, nil}} {
		back, code := impl.BlownBack(c, 0, k.wind)
		areIndices(t, "BlownBack", back, k.want, code, impl.OK)
	}
	c[3].Damper = 1e-30
	flows, _ := impl.FlowsOf(c, 0, 40)
	isNumber(t, "a flow that is lost", flows[3], negZero)
	back, code := impl.BlownBack(c, 0, 40)
	areIndices(t, "-0 is not less than 0", back, []int64{0, 1}, code, impl.OK)
}

func TestP6SetFlue(t *testing.T) {
	d := dice(65)
	for range 200 {
		c := d.chimney()
		for i := range c {
			want := slices.Clone(c)
			want[i].Damper = d.pick(0, tiny, 1, d.share())
			got, code := impl.SetFlue(c, int64(i), want[i].Damper)
			isChimney(t, "SetFlue", got, want, code, impl.OK)
		}
	}
}

func TestP6DamperForIsAsTold(t *testing.T) {
	d := dice(66)
	codes := map[int64]int{}
	for range 250 {
		c, outside, wind := d.chimney(), d.outside(), d.share()*60-40
		flue := d.roll(len(c))
		flow := d.pick(0, tiny, d.share(), d.share()/4, d.share()*4, big)
		want, wantCode := modelDamper(c, flue, flow, outside, wind)
		damper, code := impl.DamperFor(c, int64(flue), flow, outside, wind)
		isNumberAnd(t, "DamperFor", damper, want, code, wantCode)
		if code != impl.OK || damper > 0 {
			codes[code]++
		}
	}
	if codes[impl.OK] < 30 || codes[impl.ErrNotFound] < 30 {
		t.Errorf("too few of a kind: %v", codes)
	}
}

// flowWith is the flow of a flue that has another damper.
func flowWith(t *testing.T, c []impl.Flue, flue int64, damper, outside, wind float32) float32 {
	other, one := impl.SetFlue(c, flue, damper)
	flows, two := impl.FlowsOf(other, outside, wind)
	if one != impl.OK || two != impl.OK {
		t.Fatalf("got the codes %d and %d", one, two)
	}
	return flows[flue]
}

func TestP6TheLeastDamperIsLeast(t *testing.T) {
	d := dice(67)
	for range 40 {
		c, outside, wind := d.chimneyOf(d.plainFlue), d.outside(), d.share()*20-18
		flue := int64(d.roll(len(c)))
		flow := d.share() * d.pick(0.1, 0.5, 2)
		damper, code := impl.DamperFor(c, flue, flow, outside, wind)
		for part := range 65 {
			tried := float32(part) / 64
			enough := flowWith(t, c, flue, tried, outside, wind) >= flow
			if enough && (code != impl.OK || damper > tried) || !enough && code == impl.OK && damper == tried {
				t.Errorf("%v: flue %d, flow %v: got %v and the code %d, but %v of %v", c, flue, flow, damper, code, enough, tried)
			}
		}
	}
}

func TestP6DampersForJustSoMuch(t *testing.T) {
	for flue := range int64(6) {
		c := sixFlues()
		for _, part := range []int{1, 2, 37, 63, 64} {
			damper := float32(part) / 64
			just := flowWith(t, c, flue, damper, -7.3, 3.25)
			got, code := impl.DamperFor(c, flue, just, -7.3, 3.25)
			isNumberAnd(t, "just so much", got, damper, code, impl.OK)
			got, code = impl.DamperFor(c, flue, above(just), -7.3, 3.25)
			if part == 64 {
				isNumberAnd(t, "more than that", got, 0, code, impl.ErrNotFound)
			} else {
				isNumberAnd(t, "more than that", got, damper+1.0/64, code, impl.OK)
			}
		}
		for _, wind := range []float32{3.25, 1000} {
			got, code := impl.DamperFor(c, flue, 0, -7.3, wind)
			isNumberAnd(t, "nothing", got, 0, code, impl.OK)
		}
		got, code := impl.DamperFor(c, flue, tiny, 60, 1000)
		isNumberAnd(t, "against the wind", got, 0, code, impl.ErrNotFound)
	}
}
