package tests

import (
	"math"
	"testing"

	"loop.example/g01229/impl"
)

// The model does chapter 1 again, in wide numbers that are rounded after each operation: wide numbers have more
// than twice as many bits as narrow ones, so that rounding twice gives what rounding once does.

func plus(a, b float32) float32  { return float32(float64(a) + float64(b)) }
func minus(a, b float32) float32 { return float32(float64(a) - float64(b)) }
func times(a, b float32) float32 { return float32(float64(a) * float64(b)) }
func over(a, b float32) float32  { return float32(float64(a) / float64(b)) }

func sumOf(first float32, rest ...float32) float32 {
	for _, a := range rest {
		first = plus(first, a)
	}
	return first
}

func modelMass(w impl.Wood, i int) float32 {
	return sumOf(times(w.Wet[i], 4), times(w.Fuel[i], 2), 0.25)
}

func modelWarm(w impl.Wood, around, time float32) (impl.Wood, float32) {
	after := w
	taken := times(times(0.5, minus(around, w.Heat[0])), time)
	in := taken
	for i := range 6 {
		out := float32(0)
		if i < 5 {
			out = times(times(0.25, minus(w.Heat[i], w.Heat[i+1])), time)
		}
		heat := plus(w.Heat[i], over(minus(in, out), modelMass(w, i)))
		if heat < -60 {
			heat = -60
		} else if heat > 1500 {
			heat = 1500
		}
		after.Heat[i] = heat
		in = out
	}
	return after, taken
}

func modelDry(w impl.Wood, time float32) (impl.Wood, float32) {
	after, all := w, []float32{}
	for i := range 6 {
		if w.Heat[i] > 100 {
			d := times(times(minus(w.Heat[i], 100), 0.002), time)
			if w.Wet[i] < d {
				d = w.Wet[i]
			}
			after.Wet[i] = minus(w.Wet[i], d)
			after.Heat[i] = minus(w.Heat[i], over(times(2000, d), modelMass(w, i)))
			if after.Heat[i] < 100 {
				after.Heat[i] = 100
			}
			all = append(all, d)
		}
	}
	return after, sumOf(0, all...)
}

func modelBurn(w impl.Wood, air, time float32) (impl.Wood, float32, float32) {
	after, all, heats := w, []float32{}, []float32{}
	for i := range 6 {
		if w.Heat[i] >= 250 && w.Wet[i] < 0.125 {
			b := times(times(times(minus(w.Heat[i], 250), 0.001), air), time)
			if w.Fuel[i] < b {
				b = w.Fuel[i]
			}
			after.Fuel[i] = minus(w.Fuel[i], b)
			after.Heat[i] = plus(w.Heat[i], over(times(2000, b), modelMass(w, i)))
			if after.Heat[i] > 1500 {
				after.Heat[i] = 1500
			}
			all, heats = append(all, b), append(heats, times(5000, b))
		}
	}
	return after, sumOf(0, heats...), sumOf(0, all...)
}

func modelStep(w impl.Wood, around, air, time float32) (impl.Wood, float32, float32, float32) {
	warm, taken := modelWarm(w, around, time)
	dry, steam := modelDry(warm, time)
	after, heat, fuel := modelBurn(dry, air, time)
	return after, minus(heat, taken), steam, fuel
}

func modelRow(row [6]float32) float32 { return sumOf(row[0], row[1:]...) }

// Below are what the tests of chapter 1 share.

var (
	negZero  = math.Float32frombits(1 << 31)
	nan      = float32(math.NaN())
	otherNaN = math.Float32frombits(0xffc12345)
	inf      = float32(math.Inf(1))
	tiny     = math.Float32frombits(1)
	big      = float32(math.MaxFloat32)
)

// above and below are the next numbers.
func above(a float32) float32 { return math.Nextafter32(a, inf) }
func below(a float32) float32 { return math.Nextafter32(a, -inf) }

func bitsOf(a float32) uint32 {
	if a != a {
		return 0x7fc00000
	}
	return math.Float32bits(a)
}

func sameBits(a, b float32) bool { return bitsOf(a) == bitsOf(b) }

func sameLog(w, v impl.Wood) bool {
	for i := range 6 {
		if !sameBits(w.Wet[i], v.Wet[i]) || !sameBits(w.Heat[i], v.Heat[i]) || !sameBits(w.Fuel[i], v.Fuel[i]) {
			return false
		}
	}
	return true
}

// isLog checks a log and the numbers that come with it, bit for bit; codes may be among the pairs, as numbers.
func isLog(t *testing.T, name string, got, want impl.Wood, pairs ...float32) {
	t.Helper()
	if !sameLog(got, want) {
		t.Errorf("%s: got the log %v, want %v", name, got, want)
	}
	for i := 0; i < len(pairs); i += 2 {
		if !sameBits(pairs[i], pairs[i+1]) {
			t.Errorf("%s: number %d: got %v, want %v", name, i/2, pairs[i], pairs[i+1])
		}
	}
}

func isNumber(t *testing.T, name string, got, want float32) {
	t.Helper()
	if !sameBits(got, want) {
		t.Errorf("%s: got %v (%08x), want %v (%08x)", name, got, bitsOf(got), want, bitsOf(want))
	}
}

func isCode(t *testing.T, name string, got, want int64) {
	t.Helper()
	if got != want {
		t.Errorf("%s: got the code %d, want %d", name, got, want)
	}
}

// logOf makes a log with equal layers, valid or not.
func logOf(wet, heat, fuel float32) impl.Wood {
	var w impl.Wood
	for i := range 6 {
		w.Wet[i], w.Heat[i], w.Fuel[i] = wet, heat, fuel
	}
	return w
}

// dice gives the same numbers in each run.
type dice uint64

func (d *dice) roll(sides int) int {
	*d = *d*6364136223846793005 + 1442695040888963407
	return int(uint64(*d) >> 33 % uint64(sides))
}

// share is one of 0 to 1, with many different last bits.
func (d *dice) share() float32 { return float32(d.roll(1<<24+1)) / (1 << 24) }

func (d *dice) pick(list ...float32) float32 { return list[d.roll(len(list))] }

// shareOrEdge is often 0 or 1.
func (d *dice) shareOrEdge() float32 { return d.pick(0, 1, d.share(), d.share(), d.share()) }

func (d *dice) kilos() float32 {
	return d.pick(0, tiny, below(0.125), 0.125, above(0.125), 10, d.share(), d.share()/8, d.share()*10, d.share()*10)
}

func (d *dice) heat() float32 {
	return d.pick(-60, negZero, 0, 100, above(100), below(250), 250, above(250), 1500,
		d.share()*160-60, d.share()*250, d.share()*1500, d.share()*1500, 250+d.share()*1250, 250+d.share()*1250)
}

func (d *dice) around() float32 {
	return d.pick(-60, 20, 700, big, -big, d.share()*1500, d.share()*1500, d.share()*3000-1500)
}

func (d *dice) log() impl.Wood {
	var w impl.Wood
	for i := range 6 {
		w.Wet[i], w.Heat[i], w.Fuel[i] = d.kilos(), d.heat(), d.kilos()
	}
	return w
}
