package tests

import (
	"fmt"
	"math"
	"slices"
	"testing"

	"loop.example/g01229/impl"
)

// The model does chapter 3 again, in wide numbers that are rounded after each operation.

func modelDense(heat float32) float32 { return over(353, plus(heat, 273)) }

func modelDraft(f impl.Flue, outside float32) float32 {
	return times(times(9.75, f.Height), minus(modelDense(outside), modelDense(f.Heat)))
}

func modelResist(f impl.Flue) float32 {
	open := times(f.Wide, f.Damper)
	return over(plus(1, times(0.25, f.Height)), times(open, open))
}

func modelFlow(f impl.Flue, outside, push float32) float32 {
	if f.Damper == 0 {
		return 0
	}
	x := float64(over(plus(modelDraft(f, outside), push), modelResist(f)))
	if x < 0 {
		return float32(-math.Sqrt(-x))
	}
	return float32(math.Sqrt(x))
}

func modelBranches(c []impl.Flue, flue int) []int {
	var list []int
	for i, f := range c {
		if int(f.Into) == flue {
			list = append(list, i)
		}
	}
	return list
}

func modelPush(c []impl.Flue, trunk int, outside, wind float32) float32 {
	branches := modelBranches(c, trunk)
	if len(branches) == 0 {
		return 0
	}
	low, high := float32(-1000), float32(1000)
	for range 40 {
		m := times(0.5, plus(low, high))
		var brought []float32
		for _, i := range branches {
			brought = append(brought, modelFlow(c[i], outside, minus(0, m)))
		}
		if sumOf(brought[0], brought[1:]...) > modelFlow(c[trunk], outside, minus(m, wind)) {
			low = m
		} else {
			high = m
		}
	}
	return high
}

func modelFlows(c []impl.Flue, outside, wind float32) []float32 {
	var flows []float32
	for i, f := range c {
		if f.Into == -1 {
			flows = append(flows, modelFlow(f, outside, minus(modelPush(c, i, outside, wind), wind)))
		} else {
			flows = append(flows, modelFlow(f, outside, minus(0, modelPush(c, int(f.Into), outside, wind))))
		}
	}
	return flows
}

func modelBlownBack(c []impl.Flue, outside, wind float32) []int64 {
	var back []int64
	for i, flow := range modelFlows(c, outside, wind) {
		if flow < 0 {
			back = append(back, int64(i))
		}
	}
	return back
}

// modelSmoke may return what is not finite.
func modelSmoke(c []impl.Flue, smoke, flows []float32, outside float32) []float32 {
	var into []float32
	for i := range c {
		branches := modelBranches(c, i)
		products, rising := []float32{}, []float32{}
		for _, k := range branches {
			if flows[k] > 0 {
				products, rising = append(products, times(flows[k], c[k].Heat)), append(rising, flows[k])
			}
		}
		switch {
		case flows[i] < 0:
			into = append(into, outside)
		case len(branches) == 0:
			into = append(into, smoke[i])
		case len(rising) == 0:
			into = append(into, c[i].Heat)
		default:
			into = append(into, over(sumOf(0, products...), sumOf(0, rising...)))
		}
	}
	return into
}

func modelWarmFlues(c []impl.Flue, smoke []float32, outside, wind, time float32) []impl.Flue {
	flows := modelFlows(c, outside, wind)
	into := modelSmoke(c, smoke, flows, outside)
	after := slices.Clone(c)
	for i, f := range c {
		size := math.Float32frombits(math.Float32bits(flows[i]) &^ (1 << 31))
		inside := times(times(times(0.5, size), minus(into[i], f.Heat)), time)
		heat := sumOf(f.Heat, inside, times(times(0.0625, minus(outside, f.Heat)), time))
		if heat < -60 {
			heat = -60
		} else if heat > 1500 {
			heat = 1500
		}
		after[i].Heat = heat
	}
	return after
}

func modelStepsToDraw(c []impl.Flue, smoke []float32, outside, wind, time float32, most int64) (int64, int64) {
	for n := int64(0); n <= most; n++ {
		if len(modelBlownBack(c, outside, wind)) == 0 {
			return n, impl.OK
		}
		c = modelWarmFlues(c, smoke, outside, wind, time)
	}
	return 0, impl.ErrBudget
}

func modelDamper(c []impl.Flue, flue int, flow, outside, wind float32) (float32, int64) {
	for k := range 65 {
		c = slices.Clone(c)
		c[flue].Damper = float32(k) / 64
		if modelFlows(c, outside, wind)[flue] >= flow {
			return float32(k) / 64, impl.OK
		}
	}
	return 0, impl.ErrNotFound
}

func modelChimneyText(c []impl.Flue) string {
	text := ""
	for _, f := range c {
		into := fmt.Sprint(f.Into)
		if f.Into == -1 {
			into = "-"
		}
		text += fmt.Sprintf("%08x %08x %08x %08x %s\n", bitsOf(f.Height), bitsOf(f.Wide), bitsOf(f.Heat), bitsOf(f.Damper), into)
	}
	return text
}

// Below are what the tests of chapter 3 share.

func sameFlue(f, g impl.Flue) bool {
	return sameBits(f.Height, g.Height) && sameBits(f.Wide, g.Wide) && sameBits(f.Heat, g.Heat) && sameBits(f.Damper, g.Damper) && f.Into == g.Into
}

func sameFlues(c, d []impl.Flue) bool { return slices.EqualFunc(c, d, sameFlue) }

func sameNumbers(a, b []float32) bool { return slices.EqualFunc(a, b, sameBits) }

func isChimney(t *testing.T, name string, got, want []impl.Flue, code, wantCode int64) {
	t.Helper()
	if !sameFlues(got, want) || code != wantCode {
		t.Errorf("%s: got the chimney %v and the code %d, want %v and %d", name, got, code, want, wantCode)
	}
}

func areNumbers(t *testing.T, name string, got, want []float32, code, wantCode int64) {
	t.Helper()
	if !sameNumbers(got, want) || code != wantCode {
		t.Errorf("%s: got %v and the code %d, want %v and %d", name, got, code, want, wantCode)
	}
}

func areIndices(t *testing.T, name string, got, want []int64, code, wantCode int64) {
	t.Helper()
	if !slices.Equal(got, want) || code != wantCode {
		t.Errorf("%s: got %v and the code %d, want %v and %d", name, got, code, want, wantCode)
	}
}

func isNumberAnd(t *testing.T, name string, got, want float32, code, wantCode int64) {
	t.Helper()
	isNumber(t, name, got, want)
	isCode(t, name, code, wantCode)
}

// numbersOf reads numbers that are written as their bits.
func numbersOf(bits ...uint32) []float32 {
	var list []float32
	for _, b := range bits {
		list = append(list, math.Float32frombits(b))
	}
	return list
}

// likeTheExample is the flue of the document's example.
func likeTheExample(into int64) impl.Flue {
	return impl.Flue{Height: 4, Wide: 0.5, Heat: 80, Damper: 1, Into: into}
}

// forked has two branches and their trunk, as in the document's example.
func forked() []impl.Flue {
	return []impl.Flue{likeTheExample(2), likeTheExample(2), likeTheExample(-1)}
}

// sixFlues have trunks with two branches, with one and with none; the first two trunks are alike but for these.
func sixFlues() []impl.Flue {
	return []impl.Flue{
		{Height: 7.3, Wide: 0.31, Heat: 212.7, Damper: 0.85, Into: -1},
		{Height: 2.1, Wide: 0.22, Heat: 180.3, Damper: 0.6, Into: 0},
		{Height: 3.7, Wide: 0.17, Heat: -12.5, Damper: 0.4, Into: 0},
		{Height: 7.3, Wide: 0.31, Heat: 212.7, Damper: 0.85, Into: -1},
		{Height: 1.9, Wide: 0.25, Heat: 640.1, Damper: 1, Into: 3},
		{Height: 11.2, Wide: 0.4, Heat: 33.3, Damper: 0.07, Into: -1},
	}
}

func sixSmokes() []float32 { return []float32{20, 350.5, 41.25, -3.5, 812.9, 77.7} }

func (d *dice) flue() impl.Flue {
	return impl.Flue{
		Height: d.pick(1.0/16, 30, d.share()*29+0.5, d.share()*9+0.5),
		Wide:   d.pick(1.0/64, 4, d.share()*3+0.5, d.share()+0.02, d.share()/2+0.1),
		Heat:   d.pick(-60, 1500, negZero, 0, d.share()*1500, d.share()*300, d.share()*160-60),
		Damper: d.pick(0, 1, 1.0/64, tiny, 1e-20, d.share(), d.share(), d.share(), d.share()),
		Into:   -1,
	}
}

// plainFlue has no edges.
func (d *dice) plainFlue() impl.Flue {
	return impl.Flue{Height: d.share()*9 + 0.5, Wide: d.share() + 0.1, Heat: d.share() * 300, Damper: d.share()*0.9 + 0.1, Into: -1}
}

// chimneyOf has one to six flues, of which trunks and branches stand in any order.
func (d *dice) chimneyOf(flue func() impl.Flue) []impl.Flue {
	c := make([]impl.Flue, 1+d.roll(impl.MaxFlues))
	trunks := []int64{int64(d.roll(len(c)))}
	for i := range c {
		c[i] = flue()
		if int64(i) != trunks[0] && d.roll(3) == 0 {
			trunks = append(trunks, int64(i))
		}
	}
	for i := range c {
		if !slices.Contains(trunks, int64(i)) {
			c[i].Into = trunks[d.roll(len(trunks))]
		}
	}
	return c
}

func (d *dice) chimney() []impl.Flue { return d.chimneyOf(d.flue) }

func (d *dice) outside() float32 {
	return d.pick(-60, 60, 0, negZero, d.share()*120-60, d.share()*40-20, d.share()*40-20)
}

func (d *dice) wind() float32 {
	return d.pick(-1000, 1000, 0, negZero, d.share()*2000-1000, d.share()*40-20, d.share()*40-20, d.share()*2-1)
}

func (d *dice) smokeFor(c []impl.Flue) []float32 {
	var smoke []float32
	for range c {
		smoke = append(smoke, d.pick(-60, 1500, 0, negZero, d.share()*1500, d.share()*300, d.share()*300))
	}
	return smoke
}

// flowsFor are such that their products are not too great.
func (d *dice) flowsFor(c []impl.Flue) []float32 {
	var flows []float32
	for range c {
		flows = append(flows, d.pick(0, negZero, tiny, -tiny, 1e30, -1e30, -d.share(), d.share(), d.share(), d.share()*200))
	}
	return flows
}
