package tests

import (
	"math"
	"slices"
	"strings"
	"testing"

	"loop.example/g01229/impl"
)

// Promise 1: every function returns for all arguments, modifies no argument, and returns equal results for equal arguments.

func TestP1CodeNames(t *testing.T) {
	names := []string{"ok", "invalid", "range", "limit", "state", "syntax", "notfound", "budget", "proof"}
	codes := []int64{impl.OK, impl.ErrInvalid, impl.ErrRange, impl.ErrLimit, impl.ErrState, impl.ErrSyntax, impl.ErrNotFound, impl.ErrBudget, impl.ErrProof}
	for i, name := range names {
		if codes[i] != int64(i) || impl.CodeName(int64(i)) != name {
			t.Errorf("code %d: got %d and %q, want %q", i, codes[i], impl.CodeName(int64(i)), name)
		}
	}
	for _, code := range []int64{-1, 9, 256, 1 << 32, math.MinInt64, math.MaxInt64} {
		if got := impl.CodeName(code); got != "" {
			t.Errorf("CodeName(%d): got %q", code, got)
		}
	}
}

func TestP1SameNumber(t *testing.T) {
	list := []float32{0, negZero, 1, -1, above(1), tiny, -tiny, inf, -inf, big, nan}
	for i, a := range list {
		for k, b := range list {
			if got := impl.SameNumber(a, b); got != (i == k) {
				t.Errorf("SameNumber(%v, %v): got %v", a, b, got)
			}
		}
	}
	if !impl.SameNumber(nan, otherNaN) || !impl.SameNumber(otherNaN, nan) || impl.SameNumber(otherNaN, 1) {
		t.Error("each NaN is the same as each NaN, and as no other number")
	}
}

func TestP1AmountsAndShares(t *testing.T) {
	for _, c := range []struct {
		number        float32
		amount, share bool
	}{
		{0, true, true}, {negZero, false, false}, {tiny, true, true}, {-tiny, false, false}, {0.5, true, true},
		{1, true, true}, {above(1), true, false}, {-1, false, false}, {big, true, false}, {-big, false, false},
		{inf, false, false}, {-inf, false, false}, {nan, false, false}, {otherNaN, false, false},
	} {
		if impl.IsAmount(c.number) != c.amount || impl.IsShare(c.number) != c.share {
			t.Errorf("%v: got %v and %v", c.number, impl.IsAmount(c.number), impl.IsShare(c.number))
		}
	}
}

var goodKilos = []float32{0, tiny, 0.125, 1, below(10), 10}
var badKilos = []float32{negZero, -tiny, -1, above(10), 11, big, inf, -inf, nan, otherNaN}
var goodHeats = []float32{-60, above(-60), -1, negZero, 0, tiny, -tiny, 100, 250, below(1500), 1500}
var badHeats = []float32{below(-60), above(1500), 1501, -61, big, -big, inf, -inf, nan, otherNaN}

// changedLogs are the log 1, 20, 2 with one of its numbers replaced: the row 0 is Wet, 1 Heat, 2 Fuel.
func changedLogs(row int, number float32) []impl.Wood {
	var list []impl.Wood
	for i := range 6 {
		w := logOf(1, 20, 2)
		[]*[6]float32{&w.Wet, &w.Heat, &w.Fuel}[row][i] = number
		list = append(list, w)
	}
	return list
}

func TestP1ValidWood(t *testing.T) {
	check := func(row int, numbers []float32, want bool) {
		for _, a := range numbers {
			for i, w := range changedLogs(row, a) {
				if got := impl.ValidWood(w); got != want {
					t.Errorf("row %d, layer %d, %v: got %v", row, i, a, got)
				}
			}
		}
	}
	for _, row := range []int{0, 2} {
		check(row, goodKilos, true)
		check(row, badKilos, false)
	}
	check(1, goodHeats, true)
	check(1, badHeats, false)
}

func TestP1SameWood(t *testing.T) {
	odd := []float32{0, negZero, 1, above(1), tiny, inf, -inf, nan}
	for row := range 3 {
		for i, a := range odd {
			for k, b := range odd {
				for layer, w := range changedLogs(row, a) {
					if got := impl.SameWood(w, changedLogs(row, b)[layer]); got != (i == k) {
						t.Errorf("row %d, layer %d, %v and %v: got %v", row, layer, a, b, got)
					}
				}
			}
		}
		if !impl.SameWood(changedLogs(row, nan)[3], changedLogs(row, otherNaN)[3]) {
			t.Errorf("row %d: each NaN is the same", row)
		}
	}
}

func TestP1MakeWood(t *testing.T) {
	for _, kilos := range goodKilos {
		for _, heat := range goodHeats {
			w, code := impl.MakeWood(kilos, heat, 2)
			v, also := impl.MakeWood(3, heat, kilos)
			isLog(t, "wet", w, logOf(kilos, heat, 2), float32(code), impl.OK)
			isLog(t, "fuel", v, logOf(3, heat, kilos), float32(also), impl.OK)
		}
	}
	for _, bad := range badKilos {
		w, code := impl.MakeWood(bad, 20, 1)
		v, also := impl.MakeWood(1, 20, bad)
		isLog(t, "bad wet", w, impl.Wood{}, float32(code), impl.ErrInvalid)
		isLog(t, "bad fuel", v, impl.Wood{}, float32(also), impl.ErrInvalid)
	}
	for _, bad := range badHeats {
		w, code := impl.MakeWood(1, bad, 1)
		isLog(t, "bad heat", w, impl.Wood{}, float32(code), impl.ErrInvalid)
	}
}

// call is a function with some arguments: all that it returns, and its code.
type call struct {
	name string
	do   func() (impl.Wood, []float32, int64)
}

// callsFor calls each function that takes a log and may return an error.
func callsFor(w impl.Wood, around, air, time float32, steps int64) []call {
	return []call{
		{"WaterOf", func() (impl.Wood, []float32, int64) { a, c := impl.WaterOf(w); return impl.Wood{}, []float32{a}, c }},
		{"FuelOf", func() (impl.Wood, []float32, int64) { a, c := impl.FuelOf(w); return impl.Wood{}, []float32{a}, c }},
		{"MeanHeat", func() (impl.Wood, []float32, int64) { a, c := impl.MeanHeat(w); return impl.Wood{}, []float32{a}, c }},
		{"BurningLayers", func() (impl.Wood, []float32, int64) {
			l, c := impl.BurningLayers(w)
			var list []float32
			for _, i := range l {
				list = append(list, float32(i)+1)
			}
			return impl.Wood{}, list, c
		}},
		{"SplitWood", func() (impl.Wood, []float32, int64) { v, c := impl.SplitWood(w); return v, nil, c }},
		{"MixWoods", func() (impl.Wood, []float32, int64) {
			v, c := impl.MixWoods([]impl.Wood{logOf(1, 1, 1), w})
			return v, nil, c
		}},
		{"WarmStep", func() (impl.Wood, []float32, int64) {
			v, a, c := impl.WarmStep(w, around, time)
			return v, []float32{a}, c
		}},
		{"DryStep", func() (impl.Wood, []float32, int64) {
			v, a, c := impl.DryStep(w, time)
			return v, []float32{a}, c
		}},
		{"BurnStep", func() (impl.Wood, []float32, int64) {
			v, a, b, c := impl.BurnStep(w, air, time)
			return v, []float32{a, b}, c
		}},
		{"LogStep", func() (impl.Wood, []float32, int64) {
			v, a, b, d, c := impl.LogStep(w, around, air, time)
			return v, []float32{a, b, d}, c
		}},
		{"LogSteps", func() (impl.Wood, []float32, int64) {
			v, a, b, c := impl.LogSteps(w, around, air, time, steps)
			return v, []float32{a, b}, c
		}},
		{"StepsToDry", func() (impl.Wood, []float32, int64) {
			n, c := impl.StepsToDry(w, around, time, steps)
			return impl.Wood{}, []float32{float32(n)}, c
		}},
	}
}

// isRefused checks that a call has the code, and zero values in all other results.
func isRefused(t *testing.T, c call, want int64) {
	t.Helper()
	w, numbers, code := c.do()
	isCode(t, c.name, code, want)
	isLog(t, c.name, w, impl.Wood{})
	for _, a := range numbers {
		isNumber(t, c.name, a, 0)
	}
}

func TestP1InvalidLogsAreToldFirst(t *testing.T) {
	bad := changedLogs(1, nan)
	bad = append(bad, changedLogs(0, above(10))...)
	bad = append(bad, changedLogs(2, negZero)...)
	bad = append(bad, changedLogs(1, above(1500))...)
	for _, w := range bad {
		for _, c := range callsFor(w, 20, 1, 1, 3) {
			isRefused(t, c, impl.ErrInvalid)
		}
		for _, c := range callsFor(w, inf, 2, nan, -1) {
			isRefused(t, c, impl.ErrInvalid)
		}
		if text := impl.WoodText(w); text != "" {
			t.Errorf("WoodText of an invalid log: %q", text)
		}
	}
}

// The second log is dry, so that StepsToDry has nothing to do, and still has to look at its arguments.
func TestP1RangesAreTold(t *testing.T) {
	for _, w := range []impl.Wood{logOf(1, 300, 2), logOf(0, 20, 1)} {
		for _, steps := range []int64{0, 3, impl.MaxLogSteps} {
			rangesAreTold(t, w, steps)
		}
	}
}

func rangesAreTold(t *testing.T, w impl.Wood, steps int64) {
	all := "WarmStep DryStep BurnStep LogStep LogSteps StepsToDry"
	check := func(names string, calls []call) {
		t.Helper()
		for _, c := range calls {
			if slices.Contains(strings.Fields(names), c.name) {
				isRefused(t, c, impl.ErrRange)
			} else if _, _, code := c.do(); code != impl.OK && code != impl.ErrBudget {
				t.Errorf("%s: got the code %d", c.name, code)
			}
		}
	}
	for _, bad := range []float32{negZero, -tiny, above(1), 2, inf, -inf, nan, otherNaN} {
		check(all, callsFor(w, 20, 1, bad, steps))
		check("BurnStep LogStep LogSteps", callsFor(w, 20, bad, 1, steps))
	}
	for _, bad := range []float32{inf, -inf, nan, otherNaN} {
		check("WarmStep LogStep LogSteps StepsToDry", callsFor(w, bad, 1, 1, steps))
	}
	for _, bad := range []int64{-1, impl.MaxLogSteps + 1, math.MinInt64, math.MaxInt64} {
		check("LogSteps StepsToDry", callsFor(w, 20, 1, 1, bad))
	}
	for _, edge := range []float32{0, tiny, below(1), 1} {
		check("none", callsFor(w, -big, edge, edge, steps))
	}
}

func TestP1MixWoodsErrors(t *testing.T) {
	list := make([]impl.Wood, 9)
	for _, count := range []int{0, 9} {
		w, code := impl.MixWoods(list[:count])
		isLog(t, "range", w, impl.Wood{}, float32(code), impl.ErrRange)
	}
	if w, code := impl.MixWoods(nil); code != impl.ErrRange || !sameLog(w, impl.Wood{}) {
		t.Errorf("nil: got %v, %d", w, code)
	}
	for at := range list {
		bad := make([]impl.Wood, 9)
		bad[at].Fuel[5] = nan
		w, code := impl.MixWoods(bad)
		isLog(t, "invalid", w, impl.Wood{}, float32(code), impl.ErrInvalid)
	}
	if _, code := impl.MixWoods(make([]impl.Wood, 50000)); code != impl.ErrRange {
		t.Errorf("50000 logs: got %d", code)
	}
}

func TestP1NoArgumentIsModified(t *testing.T) {
	d := dice(1)
	list := []impl.Wood{d.log(), d.log(), d.log(), d.log()}
	kept := append([]impl.Wood{}, list...)
	impl.MixWoods(list[:2])
	for i := range list {
		isLog(t, "after MixWoods", list[i], kept[i])
	}
}

func TestP1ResultsAreNewAndEqual(t *testing.T) {
	w := logOf(0, 300, 1)
	one, _ := impl.BurningLayers(w)
	one[0] = 99
	_ = append(one[:1], 98)
	two, _ := impl.BurningLayers(w)
	if len(two) != 6 || two[0] != 0 || two[1] != 1 {
		t.Errorf("BurningLayers: got %v", two)
	}
	d := dice(2)
	for range 50 {
		v, around, air, time := d.log(), d.around(), d.shareOrEdge(), d.shareOrEdge()
		again := callsFor(v, around, air, time, 7)
		for i, c := range callsFor(v, around, air, time, 7) {
			a, some, code := c.do()
			b, same, also := again[i].do()
			isCode(t, c.name, also, code)
			isLog(t, c.name, b, a)
			if len(some) != len(same) {
				t.Fatalf("%s: got %v and %v", c.name, some, same)
			}
			for k := range some {
				isNumber(t, c.name, same[k], some[k])
			}
		}
	}
}

func TestP1EveryFunctionReturns(t *testing.T) {
	odd := []float32{0, negZero, tiny, -tiny, 1, above(1), -60, 10, 250, 1500, big, -big, inf, -inf, nan, otherNaN}
	logs := []impl.Wood{{}, logOf(10, 1500, 10), logOf(0, 1500, 10), logOf(tiny, -60, tiny), logOf(nan, nan, nan), logOf(-1, inf, 99)}
	for _, w := range logs {
		for _, around := range odd {
			for _, share := range odd {
				for _, steps := range []int64{math.MinInt64, -1, 0, 1, 5, math.MaxInt64} {
					for _, c := range callsFor(w, around, share, share, steps) {
						v, numbers, code := c.do()
						if impl.CodeName(code) == "" || code == impl.OK && !impl.ValidWood(v) {
							t.Fatalf("%s(%v, %v, %v, %v, %d): got %v, %d", c.name, w, around, share, share, steps, v, code)
						}
						if code != impl.OK {
							isRefused(t, c, code)
						}
						for _, a := range numbers {
							if a-a != 0 {
								t.Fatalf("%s: got %v", c.name, a)
							}
						}
					}
				}
			}
		}
	}
	long := strings.Repeat("0", 1000000)
	blanks := "log" + strings.Repeat(" ", 999997)
	_, one := impl.ReadNumber(long)
	_, two := impl.ReadWood(long)
	_, three := impl.ReadWood(blanks)
	if one != impl.ErrSyntax || two != impl.ErrSyntax || three != impl.ErrSyntax {
		t.Errorf("long texts: got %d, %d and %d", one, two, three)
	}
}

func TestP1LimitsAndCodes(t *testing.T) {
	if impl.Layers != 6 || impl.MaxLogSteps != 300 {
		t.Errorf("got %d and %d", impl.Layers, impl.MaxLogSteps)
	}
}
