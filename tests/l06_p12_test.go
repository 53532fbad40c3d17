package tests

import (
	"fmt"
	"math"
	"testing"

	"loop.example/g01229/impl"
)

// Promise 12: what a brain wants is a share, and what its program says.

func TestP12KnownTenths(t *testing.T) {
	for _, c := range []struct {
		heat float32
		want int16
	}{
		{20.04, 200}, {20.06, 201}, {0, 0}, {negZero, 0}, {tiny, 0}, {-tiny, 0}, {1, 10}, {-1, -10}, {math.Float32frombits(1 << 23), 0},
		// In the middle between two tenths; the product is rounded first, so that some of these come there only then.
		{0.25, 2}, {0.75, 8}, {-0.25, -2}, {-0.75, -8}, {0.05, 0}, {-0.05, 0}, {0.15, 2}, {-0.15, -2}, {0.35, 4}, {-0.35, -4}, {0.45, 4}, {-0.45, -4},
		{1.25, 12}, {1.75, 18}, {-1.25, -12}, {20.25, 202}, {20.75, 208}, {-20.25, -202}, {-20.75, -208}, {1000.25, 10002}, {1000.75, 10008},
		{above(0.25), 3}, {below(0.25), 2}, {below(0.75), 7}, {above(0.75), 8}, {-below(0.75), -7}, {-above(0.25), -3},
		// At the ends of what can be shown, and beyond them.
		{3276.7, 32767}, {3276.6, 32766}, {3276.75, 32767}, {3276.8, 32767}, {3276.9, 32767}, {3277, 32767}, {32768, 32767}, {1e9, 32767}, {1e20, 32767}, {big, 32767}, {inf, 32767},
		{-3276.7, -32767}, {-3276.75, -32768}, {-3276.8, -32768}, {-3276.85, -32768}, {-3276.9, -32768}, {-3277, -32768}, {-1e9, -32768}, {-1e20, -32768}, {-big, -32768}, {-inf, -32768},
		{6553.6, 32767}, {-6553.7, -32768}, {429496736, 32767}, {nan, 0}, {otherNaN, 0},
	} {
		if got := impl.ToTenths(c.heat); got != c.want {
			t.Errorf("ToTenths(%v): got %d, want %d", c.heat, got, c.want)
		}
	}
}

func TestP12TenthsAreAsTold(t *testing.T) {
	d := dice(611)
	for range 20000 {
		heat := d.pick(d.anyNumber(), d.heat(), d.heat(), d.share()*8000-4000, float32(d.roll(1<<14)-1<<13)/20, float32(d.roll(1<<10)-1<<9)/4)
		if got, want := impl.ToTenths(heat), modelTenths(heat); got != want {
			t.Fatalf("ToTenths(%v): got %d, want %d", heat, got, want)
		}
	}
}

func TestP12EachTenthIsShown(t *testing.T) {
	for n := math.MinInt16; n <= math.MaxInt16; n++ {
		heat := impl.OfTenths(int16(n))
		if !sameBits(heat, float32(float64(n)/10)) || impl.ToTenths(heat) != int16(n) {
			t.Fatalf("OfTenths(%d): got %v, and %d of this", n, heat, impl.ToTenths(heat))
		}
	}
	isNumber(t, "OfTenths 0", impl.OfTenths(0), 0)
	isNumber(t, "OfTenths 200", impl.OfTenths(200), 20)
	isNumber(t, "OfTenths -5", impl.OfTenths(-5), -0.5)
	isNumber(t, "OfTenths -32768", impl.OfTenths(-32768), -3276.8)
}

func wantsAre(t *testing.T, name string, h impl.House, hearth int64, wantDamper, wantFlue float32) {
	t.Helper()
	damper, flue, code := impl.BrainOf(h, hearth)
	isCode(t, name, code, impl.OK)
	isNumber(t, name+": damper", damper, wantDamper)
	isNumber(t, name+": flue", flue, wantFlue)
}

func TestP12TheExample(t *testing.T) {
	h := exampleHouse()
	wantsAre(t, "no brain", h, 0, 1, 1)
	h.Hearths[0].Brain = 0
	wantsAre(t, "the example", h, 0, 0, 1)
	h.Flat.Heat[0] = 17.94
	wantsAre(t, "a cold room", h, 0, 1, 1)
	// It is less than 18 degrees, but is seen as 18.
	h.Flat.Heat[0] = 17.96
	wantsAre(t, "a room that is seen as warm", h, 0, 0, 1)
}

// thinkingHouse has a hearth in the second room and at the second flue, whose brain has this source.
func thinkingHouse(source string) impl.House {
	return impl.House{
		Flat:    impl.Flat{Heat: []float32{99, 0.44}, Store: []float32{10, 20}},
		Chimney: []impl.Flue{{Height: 4, Wide: 0.5, Heat: 77, Damper: 0.875, Into: -1}, {Height: 3, Wide: 0.25, Heat: 50, Damper: 0.375, Into: -1}},
		Hearths: []impl.Hearth{{Brain: -1, Stove: impl.Stove{Box: 88, Damper: 0.125}}, {Room: 1, Flue: 1, Brain: 1, Stove: impl.Stove{Box: 0.26, Damper: 0.625}}},
		Sources: []string{"damper = 1\nflue = 1\n", source, "damper = 0\nflue = 0\n"},
		Hours:   []impl.Hour{{Outside: 0.75}, {Outside: -0.63}, {Outside: 55}},
		Tick:    96,
	}
}

func TestP12EachInputIsSeen(t *testing.T) {
	tenth := func(n float32) float32 { return n / 10 }
	for _, c := range []struct {
		tick         int64
		source       string
		damper, flue float32
	}{
		{96, "damper = in0\nflue = in1\n", tenth(4), tenth(3)},
		{96, "flue = in0\ndamper = in1\n", tenth(3), tenth(4)},
		{96, "damper = in2\n", tenth(8), 0.375},
		{97, "damper = -in2\nflue = in3", tenth(6), 1},
		{98, "damper = in2 * 1/64\nflue = in3 * 1/8\n", 55.0 / 64, 0.25},
		{95, "damper = in3 * 1/128\n", 95.0 / 128, 0.375},
		{96, "damper = in3 * 1/128\n", 0, 0.375},
		{97, "damper = in3 * 1/128\n", 1.0 / 128, 0.375},
		{0, "damper = in3 * 1/128\nflue = in2\n", 0, tenth(8)},
		{1, "damper = in3 * 1/128\nflue = -in2\n", 1.0 / 128, tenth(6)},
		{191, "damper = in3 * 1/128\n", 95.0 / 128, 0.375},
		{192, "damper = in3 * 1/128\n", 0, 0.375},
		{1000000000, "damper = in3 * 1/128\nflue = -in2\n", 64.0 / 128, tenth(6)},
		{999999999, "damper = in3 * 1/128\nflue = in2\n", 63.0 / 128, tenth(8)},
	} {
		wantsAre(t, fmt.Sprintf("%q in the tick %d", c.source, c.tick), tickedTo(thinkingHouse(c.source), c.tick), 1, c.damper, c.flue)
	}
}

func TestP12KnownWants(t *testing.T) {
	huge := "big = 999999 * 999999 * 999999 * 999999 * 999999 * 999999 * 999999\n"
	for source, want := range map[string][2]float32{
		"":                                     {0.625, 0.375},
		"other = 1\n":                          {0.625, 0.375},
		"damper = 1/2\n":                       {0.5, 0.375},
		"flue = 1/2\n":                         {0.625, 0.5},
		"flue = 1/4\ndamper = 1/2\n":           {0.5, 0.25},
		"damper = 1/4\nflue = 1/2":             {0.25, 0.5},
		"damper = 0\nflue = 0\n":               {0, 0},
		"damper = 1\nflue = 1\n":               {1, 1},
		"damper = -0\nflue = -0\n":             {0, 0},
		"damper = -1\nflue = -1/1024\n":        {0, 0},
		"damper = 2\nflue = 1025/1024\n":       {1, 1},
		"damper = 1023/1024\nflue = 1/1024\n":  {1023.0 / 1024, 1.0 / 1024},
		"damper = -999999\nflue = 999999\n":    {0, 1},
		huge + "damper = big\nflue = -big\n":   {1, 0},
		huge + "damper = big - big\nflue = 1":  {0.625, 1},
		huge + "flue = big - big\ndamper = 0":  {0, 0.375},
		huge + "damper = 0 * big\nflue = 1/4":  {0.625, 0.25},
		"dampers = 1\nflu = 1\nd = 1\n":        {0.625, 0.375},
		"x = 1/8\ndamper = x\ny = 1\nflue = x": {0.125, 0.125},
	} {
		h := thinkingHouse(source)
		wantsAre(t, fmt.Sprintf("%q", source), h, 1, want[0], want[1])
		wantsAre(t, "without a brain", h, 0, 0.125, 0.875)
		h.Hearths[0].Brain, h.Hearths[1].Brain = 1, -1
		wantsAre(t, "the other one without a brain", h, 1, 0.625, 0.375)
		h.Hearths[1].Brain = 2
		wantsAre(t, "the last source", h, 1, 0, 0)
	}
}

func TestP12BrainsAreAsTold(t *testing.T) {
	d := dice(612)
	counts := map[string]int{}
	for range 3000 {
		h := d.house()
		for i, e := range h.Hearths {
			damper, flue, code := impl.BrainOf(h, int64(i))
			wantDamper, wantFlue := modelWants(h, i)
			if code != impl.OK || !sameBits(damper, wantDamper) || !sameBits(flue, wantFlue) {
				t.Fatalf("%v: got %v, %v and the code %d, want %v and %v", h, damper, flue, code, wantDamper, wantFlue)
			}
			if !impl.IsShare(damper) || !impl.IsShare(flue) {
				t.Fatalf("%v and %v are no shares", damper, flue)
			}
			counts[fmt.Sprint("damper ", sameBits(damper, e.Stove.Damper))]++
			counts[fmt.Sprint("flue ", sameBits(flue, h.Chimney[e.Flue].Damper))]++
			counts[fmt.Sprint("brain ", e.Brain >= 0)]++
		}
	}
	for what, count := range counts {
		if count < 400 || len(counts) != 6 {
			t.Errorf("%s: only %d of %v", what, count, counts)
		}
	}
}

// What a program says is known from RunProgram and ValueIn as well.
func TestP12BrainsSayWhatProgramsSay(t *testing.T) {
	d := dice(613)
	for range 1000 {
		h := d.house()
		for i, e := range h.Hearths {
			if e.Brain < 0 {
				continue
			}
			hour, _ := impl.HourOf(h)
			seen := func(heat float32) float32 { return impl.OfTenths(impl.ToTenths(heat)) }
			inputs := [4]float32{seen(h.Flat.Heat[e.Room]), seen(e.Stove.Box), seen(hour.Outside), float32(h.Tick % 96)}
			p := programOf(t, h.Sources[e.Brain])
			damper, flue, _ := impl.BrainOf(h, int64(i))
			for name, got := range map[string]float32{"damper": damper, "flue": flue} {
				value, code := impl.ValueIn(p, inputs, name)
				switch {
				case code != impl.OK || value != value:
					value = map[string]float32{"damper": e.Stove.Damper, "flue": h.Chimney[e.Flue].Damper}[name]
				case value > 1:
					value = 1
				case !(value > 0):
					value = 0
				}
				isNumber(t, name, got, value)
			}
		}
	}
}

func TestP12HoursComeAgain(t *testing.T) {
	for count := 1; count <= 24; count++ {
		h := exampleHouse()
		h.Hours = manyHours(count)
		for i := range h.Hours {
			h.Hours[i] = impl.Hour{Outside: float32(i), Sun: float32(i) / 4, Wind: -float32(i)}
		}
		for _, tick := range []int64{0, 1, 2, 23, 24, 25, 47, 48, 95, 96, 97, 999999999, 1000000000} {
			got, code := impl.HourOf(tickedTo(h, tick))
			if want := h.Hours[int(tick)%count]; code != impl.OK || got != want {
				t.Errorf("%d hours, tick %d: got %v and the code %d, want %v", count, tick, got, code, want)
			}
		}
	}
	h := exampleHouse()
	h.Hours[0] = impl.Hour{Outside: negZero, Sun: tiny, Wind: negZero}
	if got, code := impl.HourOf(h); code != impl.OK || !sameHours(got, h.Hours[0]) {
		t.Errorf("got %v and the code %d", got, code)
	}
}

func TestP12ThereIsNoSuchHearth(t *testing.T) {
	h := exampleHouse()
	for _, bad := range []int64{-1, 1, 2, 1 << 32, math.MinInt64, math.MaxInt64} {
		damper, flue, code := impl.BrainOf(h, bad)
		isNumberAnd(t, "damper", damper, 0, code, impl.ErrRange)
		isNumber(t, "flue", flue, 0)
	}
	h.Hearths = nil
	_, _, code := impl.BrainOf(h, 0)
	isCode(t, "no hearth", code, impl.ErrRange)
}
