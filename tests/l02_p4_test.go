package tests

import (
	"math"
	"strings"
	"testing"

	"loop.example/g01229/impl"
)

// Promise 4: fuel and ash go together, nearly; a cold stove stays cold until it is kindled.

func givenOf(room, up, steam, fuel uint32) impl.Given {
	return impl.Given{
		Room: math.Float32frombits(room), Up: math.Float32frombits(up),
		Steam: math.Float32frombits(steam), Fuel: math.Float32frombits(fuel),
	}
}

func isStoveText(t *testing.T, name string, s impl.Stove, want string) {
	t.Helper()
	if got := impl.StoveText(s); got != want {
		t.Errorf("%s: got %q, want %q", name, got, want)
	}
}

const dryText = "log 00000000 44bb6000 3a83126f 3dcccccd 442f2ccd 3f8ccccd 3e000000 42c80000 3f99999a 00000000 43a6a666 3fa66666 3df5c28f 437a0000 3fb33333 00000000 42ca0000 3fc00000"

const burningText = "stove 43ce2666 3f4ccccd 3e99999a burning 7\n" + grownText + "\n" + dryText + "\n"

// dampText is grownText behind a step in the box of burningStove, whatever its state.
const dampText = "log 3f000000 4252d104 3f800000 3ecccccd 4198425f 3f8ccccd 3e99999a 4191d174 3f99999a 3e4ccccd 4188225e 3fa66666 3dcccccd 4180b806 3fb33333 3d4ccccd 4170e48c 3fc00000"

const firstText = "stove 43e0cf44 3f4ccccd 3f66d5a0 burning 11\n" + dampText + "\nlog 00000000 c2700000 3a83126f 00000000 44490d5a 3f66f00e 3d764e60 42d24bda 3f99999a 00000000 43a83910 3fa247c0 00000000 4332c116 3fb33333 00000000 42da0bd1 3fc00000\n"

// These results, and those of the runs, were calculated with exact fractions, rounded after each operation.
func TestP4KnownFires(t *testing.T) {
	for _, c := range []struct {
		state int8
		text  string
		given impl.Given
	}{
		{impl.StCold, "stove 43c68472 3f4ccccd 3e99999a cold 7\n" + dampText + "\nlog 00000000 c2700000 3a83126f 00000000 4420aa1c 3f8ccccd 3d764e60 42d24bda 3f99999a 00000000 439cee09 3fa66666 00000000 4332c116 3fb33333 00000000 42da0bd1 3fc00000\n",
			givenOf(0x44092147, 0, 0x3e91da0b, 0)},
		{impl.StKindled, "stove 43d3a9db 3f4ccccd 3f19d134 burning 9\n" + dampText + "\nlog 00000000 c2700000 3a83126f 00000000 4434dbbb 3f80226a 3d764e60 42d24bda 3f99999a 00000000 43a2938c 3fa45713 00000000 4332c116 3fb33333 00000000 42da0bd1 3fc00000\n",
			givenOf(0x44092147, 0x42457799, 0x3e91da0b, 0x3deb9b5d)},
		{impl.StBurning, firstText,
			givenOf(0x44092147, 0x42c57799, 0x3e91da0b, 0x3e6b9b5d)},
		{impl.StEmbers, "stove 43cd1727 3f4ccccd 3ee69e00 burning 8\n" + dampText + "\nlog 00000000 c2700000 3a83126f 00000000 442ac2ec 3f86779b 3d764e60 42d24bda 3f99999a 00000000 439fc0cb 3fa55ebd 00000000 4332c116 3fb33333 00000000 42da0bd1 3fc00000\n",
			givenOf(0x44092147, 0x41c57799, 0x3e91da0b, 0x3d6b9b5d)},
	} {
		s, g, code := impl.FireStep(inState(burningStove(), c.state), 0.9, 20.5, 0.7)
		isStoveText(t, "FireStep", s, c.text)
		isGiven(t, "FireStep", g, c.given)
		isCode(t, "FireStep", code, impl.OK)
	}
}

func TestP4KnownRuns(t *testing.T) {
	for _, c := range []struct {
		steps int64
		text  string
		given impl.Given
	}{
		{0, burningText, impl.Given{}},
		{1, firstText, givenOf(0x44092147, 0x42c57799, 0x3e91da0b, 0x3e6b9b5d)},
		{2, "stove 43e5b61d 3f4ccccd 3f4a6e30 burning 16\nlog 3f000000 42a80270 3f800000 3ecccccd 41a39edc 3f8ccccd 3e99999a 4191abb8 3f99999a 3e4ccccd 41883e36 3fa66666 3dcccccd 4180ace5 3fb33333 3d4ccccd 4171bb64 3fc00000\nlog 00000000 449cfc5a 00000000 00000000 445b687f 3f309d50 00000000 42efbc06 3f99999a 00000000 43a73930 3f9e47ad 00000000 4337cd18 3fb33333 00000000 42e18e40 3fc00000\n",
			givenOf(0x448fa92e, 0x434edf24, 0x3eb0a3d7, 0x3ef2f68a)},
		{40, "stove 439b248b 3f4ccccd 3f752b7e burning 158\nlog 00000000 c2700000 00000000 00000000 439cab72 3f82519e 3e7d6880 42cb9c88 3f99999a 3e4ccccd 42429658 3fa66666 3dcccccd 41cd9987 3fb33333 3d4ccccd 41972caf 3fc00000\nlog 00000000 44bb8000 00000000 00000000 c2700000 00000000 00000000 44bb8000 00000000 00000000 c2700000 00000000 00000000 44bb8000 00000000 00000000 43960000 00000000\n",
			givenOf(0x4702e448, 0x45a20529, 0x3fa61581, 0x40f2a6fc)},
		{impl.MaxFires, "stove 43072cf2 3f4ccccd 3f11f660 embers 163\nlog 00000000 c2700000 00000000 00000000 4312038f 3f499918 00000000 42f32340 3f99999a 00000000 42dcf5d6 3fa66666 3d9ccd81 42c8363b 3fb33333 3d4ca77d 42c800a1 3fc00000\nlog 00000000 44a4b589 00000000 00000000 c2700000 00000000 00000000 44bb8000 00000000 00000000 c2700000 00000000 00000000 44bb8000 00000000 00000000 43960000 00000000\n",
			givenOf(0x47bddcd2, 0x460836b0, 0x3fe25d53, 0x40fa0840)},
	} {
		s, g, code := impl.FireSteps(burningStove(), 0.9, 20.5, 0.7, c.steps)
		isStoveText(t, "FireSteps", s, c.text)
		isGiven(t, "FireSteps", g, c.given)
		isCode(t, "FireSteps", code, impl.OK)
	}
}

// kindledStove burns out, and becomes cold behind 144 steps.
func kindledStove(t *testing.T) impl.Stove {
	s, one := impl.ColdStove(20)
	s, two := impl.PutLog(s, logOf(0, 20, 0.5))
	s, three := impl.KindleStove(s)
	if one != impl.OK || two != impl.OK || three != impl.OK {
		t.Fatalf("got the codes %d, %d and %d", one, two, three)
	}
	return s
}

func TestP4KnownStepsToCold(t *testing.T) {
	s := kindledStove(t)
	for _, c := range [][3]int64{{400, 144, impl.OK}, {144, 144, impl.OK}, {143, 0, impl.ErrBudget}, {1, 0, impl.ErrBudget}, {0, 0, impl.ErrBudget}} {
		n, code := impl.StepsToCold(s, 5.5, 0.25, c[0])
		isCount(t, "StepsToCold", n, c[1], code, c[2])
	}
	last, g, code := impl.FireSteps(s, 1, 5.5, 0.25, 144)
	isStoveText(t, "burnt out", last, "stove 421dab3d 3f800000 35c00000 cold 60\nlog 00000000 42903e36 00000000 00000000 4304f0b2 00000000 00000000 4339e5fb 00000000 00000000 436434f5 00000000 00000000 4380d648 00000000 00000000 43886558 00000000\n")
	isGiven(t, "burnt out", g, givenOf(0x4664b12e, 0x44e7fcf2, 0, 0x40400001))
	isCode(t, "burnt out", code, impl.OK)
}

func TestP4FireStepIsAsTold(t *testing.T) {
	d := dice(31)
	full := 0
	for range 3000 {
		s, draft, room, time := d.stove(), d.draft(), d.room(), d.shareOrEdge()
		want, all, wantCode := impl.Stove{}, impl.Given{}, int64(impl.ErrState)
		if after, g := modelFire(s, draft, room, time); after.Ash <= 1000000 {
			want, all, wantCode = after, g, impl.OK
		} else {
			full++
		}
		got, g, code := impl.FireStep(s, draft, room, time)
		isStove(t, "FireStep", got, want, code, wantCode)
		isGiven(t, "FireStep", g, all)
	}
	if full < 50 {
		t.Errorf("only %d stoves had too much ash", full)
	}
}

func TestP4BoxesAreHeld(t *testing.T) {
	hot := impl.Stove{Box: 1500, Damper: 1, State: impl.StBurning}
	for range 6 {
		hot.Logs = append(hot.Logs, logOf(0, 1500, 10))
	}
	cold := impl.Stove{Box: -60}
	for range 6 {
		cold.Logs = append(cold.Logs, logOf(10, -60, 10))
	}
	for _, c := range []struct {
		stove impl.Stove
		room  float32
		box   float32
	}{{hot, 100, 1500}, {cold, -60, -60}} {
		want, all := modelFire(c.stove, 1, c.room, 1)
		got, g, code := impl.FireStep(c.stove, 1, c.room, 1)
		isStove(t, "held", got, want, code, impl.OK)
		isGiven(t, "held", g, all)
		isNumber(t, "held", got.Box, c.box)
	}
}

// Whole grams fall through: a sum of just 1 is a gram of ash, and no dust.
func TestP4WholeGrams(t *testing.T) {
	check := func(dust, fuel float32, wantAsh int64, wantDust float32) {
		t.Helper()
		s := impl.Stove{Logs: []impl.Wood{logOf(0, 1500, 0)}, Box: 1500, Damper: 1, State: impl.StBurning, Ash: 3, Dust: dust}
		s.Logs[0].Fuel[0] = fuel
		got, g, code := impl.FireStep(s, 1, 20, 1)
		isNumber(t, "fuel", g.Fuel, fuel)
		isNumber(t, "dust", got.Dust, wantDust)
		isCount(t, "ash", got.Ash, 3+wantAsh, code, impl.OK)
	}
	check(0, 0, 0, 0)
	check(0.75, 0, 0, 0.75)
	check(below(1), 0, 0, below(1))
	check(0.375, 1.0/32, 1, 0)
	check(below(0.375), 1.0/32, 1, 0)
	check(0.375-1.0/(1<<24), 1.0/32, 0, below(1))
	check(0.375+1.0/(1<<23), 1.0/32, 1, 1.0/(1<<23))
	check(0.5, 1.0/32, 1, 0.125)
	check(0.75, 1, 20, 0.75)
	check(0.3, 0.575, 11, minus(plus(0.3, times(20, 0.575)), 11))
	check(below(1), tiny, 0, below(1))
	check(below(1), 1.0/1024, 1, minus(plus(below(1), times(20, 1.0/1024)), 1))
	check(tiny, tiny, 0, 21*tiny)
}

func TestP4SignedZeros(t *testing.T) {
	for _, box := range []float32{0, negZero, tiny, -tiny, -60, 1500, 20} {
		for _, room := range []float32{0, negZero, tiny, -tiny, -60, 20, 100} {
			for _, time := range []float32{0, tiny, 1} {
				for state := range int8(4) {
					s := inState(impl.Stove{Box: box, Damper: 1, Logs: []impl.Wood{logOf(0, box, 0)}}, state)
					for _, r := range []impl.Stove{s, {Box: box, Damper: 0.5, State: state}} {
						want, all := modelFire(r, 0.5, room, time)
						got, g, code := impl.FireStep(r, 0.5, room, time)
						isStove(t, "a step", got, want, code, impl.OK)
						isGiven(t, "a step", g, all)
						got, g, code = impl.FireSteps(r, 0.5, room, time, 1)
						isStove(t, "one of several steps", got, want, code, impl.OK)
						isGiven(t, "one of several steps", g, sumGiven(impl.Given{}, all))
					}
				}
			}
		}
	}
}

func TestP4StepsAreStepsAtOnce(t *testing.T) {
	d := dice(32)
	for range 150 {
		s, draft, room, time := d.stove(), d.draft(), d.room(), d.shareOrEdge()
		for steps := int64(0); steps <= 12; steps++ {
			want, all, wantCode := modelFires(s, draft, room, time, steps)
			got, g, code := impl.FireSteps(s, draft, room, time, steps)
			isStove(t, "FireSteps", got, want, code, wantCode)
			isGiven(t, "FireSteps", g, all)
		}
		s.Ash = 0
		first, _, _ := impl.FireSteps(s, draft, room, time, 137)
		parts, _, _ := impl.FireSteps(first, draft, room, time, impl.MaxFires-137)
		once, _, code := impl.FireSteps(s, draft, room, time, impl.MaxFires)
		isStove(t, "in parts", parts, once, code, impl.OK)
	}
}

func grams(s impl.Stove) float64 { return float64(s.Ash) + float64(s.Dust) }

func TestP4FuelAndAshGoTogether(t *testing.T) {
	d := dice(33)
	burnt := 0
	for range 200 {
		s, draft, room, time := d.stove(), d.draft(), d.room(), d.shareOrEdge()
		s.Ash = int64(d.roll(1000))
		before, _ := impl.FuelIn(s)
		after, g, code := impl.FireSteps(s, draft, room, time, int64(d.roll(60)))
		left, _ := impl.FuelIn(after)
		if gap := float64(before) - float64(left) - float64(g.Fuel); code != impl.OK || math.Abs(gap) > 1e-3 {
			t.Errorf("%v: the fuel differs by %v, code %d", s, gap, code)
		}
		if gap := grams(after) - grams(s) - 20*float64(g.Fuel); math.Abs(gap) > 1e-2 {
			t.Errorf("%v: the ash differs by %v", s, gap)
		}
		if g.Fuel > 1 {
			burnt++
		}
	}
	if burnt < 30 {
		t.Errorf("only %d stoves have burnt", burnt)
	}
}

func TestP4ColdStovesStayCold(t *testing.T) {
	d := dice(34)
	for range 200 {
		s, draft, room, time := inState(d.stove(), impl.StCold), d.draft(), d.room(), d.shareOrEdge()
		before, _ := impl.FuelIn(s)
		air, code := impl.AirOf(s, draft)
		isNumber(t, "air", air, 0)
		isCode(t, "air", code, impl.OK)
		after, g, code := impl.FireSteps(s, draft, room, time, 50)
		left, _ := impl.FuelIn(after)
		isCode(t, "cold", code, impl.OK)
		if after.State != impl.StCold || after.Ash != s.Ash || after.Dust != s.Dust || left != before || g.Fuel != 0 || g.Up != 0 {
			t.Errorf("%v became %v and gave %v", s, after, g)
		}
		n, code := impl.StepsToCold(s, room, time, int64(d.roll(3)))
		isCount(t, "cold", n, 0, code, impl.OK)
		if len(after.Logs) > 0 {
			kindled, code := impl.KindleStove(after)
			isCount(t, "until it is kindled", int64(kindled.State), impl.StKindled, code, impl.OK)
		}
	}
}

// What a cold stove gives to the room, its box and its logs have no more; water that goes takes heat with it.
func TestP4ColdStovesGiveWhatTheyHave(t *testing.T) {
	d := dice(35)
	for range 300 {
		s := impl.Stove{Box: d.share() * 500, Damper: 1}
		for range d.roll(7) {
			w := d.log()
			for i := range 6 {
				w.Wet[i], w.Heat[i], w.Fuel[i] = 0, 100+d.share()*500, 1+d.share()*9
			}
			s.Logs = append(s.Logs, w)
		}
		heatIn := func(s impl.Stove) float64 {
			sum := 20 * float64(s.Box)
			for _, w := range s.Logs {
				sum += stored(w)
			}
			return sum
		}
		after, g, _ := impl.FireStep(s, 1, 20, 0.5)
		if gap := heatIn(s) - heatIn(after) - float64(g.Room); math.Abs(gap) > 0.5 {
			t.Errorf("%v: the heat differs by %v", s, gap)
		}
	}
}

func TestP4AirOf(t *testing.T) {
	shares := []float32{1, 0.5, 1, 0.25}
	for state, share := range shares {
		if state == impl.StCold {
			share = 0
		}
		for _, c := range [][3]float32{
			{1, 1, 1}, {1, 0, 0}, {0, 1, 0}, {1, 3, 1}, {0.5, 1, 0.5}, {0.5, 2, 1}, {0.5, above(2), 1}, {0.5, below(2), below(1)},
			{1, above(1), 1}, {1, big, 1}, {0, big, 0}, {tiny, 0.5, 0}, {tiny, 1, tiny}, {tiny, big, times(tiny, big)}, {0.3, 0.7, times(0.3, 0.7)},
		} {
			s := impl.Stove{Box: 20, Damper: c[0], State: int8(state)}
			air, code := impl.AirOf(s, c[1])
			isNumber(t, "AirOf", air, times(c[2], share))
			isCode(t, "AirOf", code, impl.OK)
		}
	}
}

func TestP4NextState(t *testing.T) {
	for _, c := range []struct {
		state   int8
		box     float32
		burning bool
		want    int8
	}{
		{impl.StKindled, 200, true, impl.StKindled}, {impl.StKindled, 200, false, impl.StKindled},
		{impl.StKindled, above(200), true, impl.StBurning}, {impl.StKindled, above(200), false, impl.StBurning},
		{impl.StKindled, 50, false, impl.StKindled}, {impl.StKindled, below(50), false, impl.StCold}, {impl.StKindled, below(50), true, impl.StKindled},
		{impl.StBurning, -60, true, impl.StBurning}, {impl.StBurning, 1500, true, impl.StBurning},
		{impl.StBurning, -60, false, impl.StEmbers}, {impl.StBurning, 1500, false, impl.StEmbers}, {impl.StBurning, nan, false, impl.StEmbers},
		{impl.StEmbers, 250, true, impl.StEmbers}, {impl.StEmbers, above(250), true, impl.StBurning}, {impl.StEmbers, above(250), false, impl.StEmbers},
		{impl.StEmbers, 40, true, impl.StEmbers}, {impl.StEmbers, below(40), true, impl.StCold}, {impl.StEmbers, below(40), false, impl.StCold}, {impl.StEmbers, 40, false, impl.StEmbers},
	} {
		if got := impl.NextState(c.state, c.box, c.burning); got != c.want {
			t.Errorf("NextState(%d, %v, %v): got %d, want %d", c.state, c.box, c.burning, got, c.want)
		}
	}
	boxes := []float32{-60, 0, negZero, tiny, 39, 40, 45, 49, 50, 51, 200, 201, 249, 250, 251, 1500, big, -big, inf, -inf, nan, otherNaN}
	for state := -128; state < 128; state++ {
		for _, box := range boxes {
			for _, burning := range []bool{false, true} {
				if got, want := impl.NextState(int8(state), box, burning), modelNext(int8(state), box, burning); got != want {
					t.Errorf("NextState(%d, %v, %v): got %d, want %d", state, box, burning, got, want)
				}
			}
		}
	}
}

// burnsAs are logs of which the last one burns, or not.
func burnsAs(burning bool) []impl.Wood {
	if burning {
		return []impl.Wood{logOf(0, 20, 1), logOf(0, 600, 10)}
	}
	return []impl.Wood{logOf(0, 20, 1), logOf(0, 600, 0)}
}

// No time goes by, so that the box stays as it is.
func TestP4StatesTurnInSteps(t *testing.T) {
	for state := range int8(4) {
		for _, box := range []float32{below(40), 40, below(50), 50, 200, above(200), 250, above(250)} {
			for _, burning := range []bool{false, true} {
				s := impl.Stove{Logs: burnsAs(burning), Box: box, Damper: 1, State: state}
				got, _, code := impl.FireStep(s, 1, 20, 0)
				isStove(t, "FireStep", got, inState(s, modelNext(state, box, burning)), code, impl.OK)
			}
		}
	}
	cooling := impl.Stove{Box: 41, Damper: 1, State: impl.StEmbers}
	got, _, _ := impl.FireStep(cooling, 1, 20, 1)
	isCount(t, "the box behind the step", int64(got.State), impl.StCold, 0, 0)
	dying := impl.Stove{Logs: []impl.Wood{logOf(0, 1400, 0.1)}, Box: 900, Damper: 1, State: impl.StBurning}
	got, _, _ = impl.FireStep(dying, 1, 20, 1)
	isCount(t, "the logs behind the step", int64(got.State), impl.StEmbers, 0, 0)
}

func TestP4StateName(t *testing.T) {
	for state := -128; state < 128; state++ {
		want := map[int]string{0: "cold", 1: "kindled", 2: "burning", 3: "embers"}[state]
		if got := impl.StateName(int8(state)); got != want {
			t.Errorf("StateName(%d): got %q, want %q", state, got, want)
		}
	}
}

func TestP4IsAlight(t *testing.T) {
	check := func(s impl.Stove, want bool) {
		t.Helper()
		if got, code := impl.IsAlight(s); got != want || code != impl.OK {
			t.Errorf("IsAlight(%v): got %v, %d", s, got, code)
		}
	}
	for state := range int8(4) {
		lit := state == impl.StKindled || state == impl.StBurning
		check(impl.Stove{State: state}, lit)
		check(impl.Stove{State: state, Box: 1500, Logs: burnsAs(false)}, lit)
		check(impl.Stove{State: state, Logs: burnsAs(true)}, true)
		check(impl.Stove{State: state, Logs: []impl.Wood{logOf(0, 250, 1)}}, lit)
		check(impl.Stove{State: state, Logs: []impl.Wood{logOf(below(0.125), above(250), tiny)}}, true)
		check(impl.Stove{State: state, Logs: []impl.Wood{logOf(0.125, above(250), tiny)}}, lit)
	}
}

func TestP4FuelIn(t *testing.T) {
	d := dice(36)
	for range 300 {
		s := d.stove()
		var want float32
		for _, w := range s.Logs {
			want = plus(want, modelRow(w.Fuel))
		}
		fuel, code := impl.FuelIn(s)
		isNumber(t, "FuelIn", fuel, want)
		isCode(t, "FuelIn", code, impl.OK)
	}
}

func TestP4LogsInAndOut(t *testing.T) {
	d := dice(37)
	for range 200 {
		s := d.stove()
		for log := range s.Logs {
			want := s
			want.Logs = nil
			for i, w := range s.Logs {
				if i != log {
					want.Logs = append(want.Logs, w)
				}
			}
			rest, w, code := impl.TakeLog(s, int64(log))
			isStove(t, "TakeLog", rest, want, code, impl.OK)
			isLog(t, "TakeLog", w, s.Logs[log])
			want.Logs = append(want.Logs, w)
			back, code := impl.PutLog(rest, w)
			isStove(t, "PutLog", back, want, code, impl.OK)
		}
		share := d.shareOrEdge()
		got, code := impl.SetDamper(s, share)
		s.Damper = share
		isStove(t, "SetDamper", got, s, code, impl.OK)
	}
}

func TestP4KindleStove(t *testing.T) {
	s := inState(burningStove(), impl.StCold)
	s.Logs[0].Heat = [6]float32{20, below(700), 700, 20, 20, 20}
	want := inState(roomyCopy(s), impl.StKindled)
	want.Logs[0].Heat = [6]float32{700, 700, 700, 20, 20, 20}
	got, code := impl.KindleStove(s)
	isStove(t, "KindleStove", got, want, code, impl.OK)
	s.Logs[0].Heat = [6]float32{above(700), 1500, -60, 699, 1, 2}
	want.Logs[0].Heat = [6]float32{above(700), 1500, 700, 699, 1, 2}
	got, code = impl.KindleStove(s)
	isStove(t, "hot layers stay", got, want, code, impl.OK)
}

func TestP4RakeOut(t *testing.T) {
	for _, ash := range []int64{0, 1, 7, 1000000} {
		s := inState(burningStove(), impl.StCold)
		s.Ash = ash
		want := s
		want.Ash = 0
		got, grams, code := impl.RakeOut(s)
		isStove(t, "RakeOut", got, want, code, impl.OK)
		isCount(t, "RakeOut", grams, ash, code, impl.OK)
	}
}

func TestP4DropSpent(t *testing.T) {
	full := logOf(1, 20, 1)
	var just, less, none impl.Wood
	just.Fuel[3], less.Fuel[5] = 1.0/64, below(1.0/64)
	check := func(logs, left []impl.Wood) {
		t.Helper()
		s := burningStove()
		want := s
		s.Logs, want.Logs = logs, left
		got, spent, code := impl.DropSpent(s)
		isStove(t, "DropSpent", got, want, code, impl.OK)
		isCount(t, "DropSpent", spent, int64(len(logs)-len(left)), code, impl.OK)
	}
	check(nil, nil)
	check([]impl.Wood{full}, []impl.Wood{full})
	check([]impl.Wood{less}, nil)
	check([]impl.Wood{less, less, none, none, less, less}, nil)
	check([]impl.Wood{less, full, none, just, less, grownLog()}, []impl.Wood{full, just, grownLog()})
	check([]impl.Wood{just, grownLog(), less}, []impl.Wood{just, grownLog()})
}

func modelStepsToCold(s impl.Stove, room, time float32, most int64) (int64, int64) {
	for n := int64(0); ; n++ {
		if s.State == impl.StCold {
			return n, impl.OK
		}
		if n == most {
			return 0, impl.ErrBudget
		}
		if s, _ = modelFire(s, 1, room, time); s.Ash > 1000000 {
			return 0, impl.ErrState
		}
	}
}

func TestP4StepsToCold(t *testing.T) {
	d := dice(38)
	codes := map[int64]int{}
	for range 600 {
		s, room, time, most := d.stove(), d.room(), d.shareOrEdge(), int64(d.roll(60))
		s.Box = d.pick(s.Box, d.share()*100, d.share()*60)
		if d.roll(2) == 0 {
			s.Logs = nil
		}
		want, wantCode := modelStepsToCold(s, room, time, most)
		n, code := impl.StepsToCold(s, room, time, most)
		isCount(t, "StepsToCold", n, want, code, wantCode)
		if n > 0 || code != impl.OK {
			codes[code]++
		}
	}
	if codes[impl.OK] < 30 || codes[impl.ErrBudget] < 30 || codes[impl.ErrState] < 30 {
		t.Errorf("too few of a kind: %v", codes)
	}
}

func TestP4StovesAreReadFromTheirTexts(t *testing.T) {
	isStoveText(t, "burningStove", burningStove(), burningText)
	isStoveText(t, "zero", impl.Stove{}, "stove 00000000 00000000 00000000 cold 0\n")
	isStoveText(t, "bounds", impl.Stove{Box: negZero, Damper: 1, State: impl.StKindled, Ash: 1000000, Dust: below(1)}, "stove 80000000 3f800000 3f7fffff kindled 1000000\n")
	isStoveText(t, "a log", impl.Stove{Box: -60, State: impl.StEmbers, Logs: []impl.Wood{grownLog()}}, "stove c2700000 00000000 00000000 embers 0\n"+grownText+"\n")
	d := dice(39)
	list := []impl.Stove{burningStove(), plainStove(6)}
	for _, c := range goodStoves() {
		list = append(list, c.stove)
	}
	for range 500 {
		list = append(list, d.stove())
	}
	for _, s := range list {
		got, code := impl.ReadStove(impl.StoveText(s))
		isStove(t, "ReadStove", got, s, code, impl.OK)
	}
}

// textsOfNone are not just so.
func textsOfNone() []string {
	list := []string{
		"", "\n", " ", "stove", "stove\n", "cold", grownText, grownText + "\n", "\n" + burningText, " " + burningText, burningText + "\n",
		burningText + " ", burningText + "log\n", burningText + grownText, strings.TrimSuffix(burningText, "\n"),
		strings.ReplaceAll(burningText, "\n", "\r\n"), strings.ReplaceAll(burningText, "\n", "\n\n"), strings.ReplaceAll(burningText, "\n", " \n"),
		strings.ReplaceAll(burningText, "\nlog", "\n log"), strings.ReplaceAll(burningText, " ", "  "), strings.ReplaceAll(burningText, "log", "Log"),
		burningText + strings.Repeat(grownText+"\n", 5), strings.Replace(burningText, "44bb6000", "44bb8001", 1),
		"stove 00000000 00000000 00000000 cold 0", "stove 00000000 00000000 00000000 cold 0\n\n",
	}
	words := strings.Fields("stove 41a00000 3f800000 3e99999a embers 12")
	for at, others := range [][]string{
		{"", "Stove", "stov", "log", "stove "},
		{"", "44bb8001", "c2700001", "7fc00000", "7f800000", "41A00000", "41a0000", "041a00000", "0", "20"},
		{"", "3f800001", "80000000", "bf800000", "7fc00000", "1"},
		{"", "3f800000", "80000000", "80000001", "7fc00000", "0"},
		{"", "Cold", "ember", "3", "ash", "embers\n"},
		{"", "+12", "-0", "00", "012", "-1", "1000001", "12.0", "1e3", "0x1", "1_0", " 12", "12 ", "9223372036854775807", "9223372036854775808", "99999999999999999999", "１２"},
	} {
		for _, other := range others {
			line := append([]string{}, words...)
			line[at] = other
			list = append(list, strings.Join(line, " ")+"\n")
		}
		list = append(list, strings.Join(append(append([]string{}, words[:at]...), words[at+1:]...), " ")+"\n")
	}
	return append(list, strings.Join(append(words, "0"), " ")+"\n")
}

func TestP4NoStoves(t *testing.T) {
	for _, text := range textsOfNone() {
		s, code := impl.ReadStove(text)
		isStove(t, text, s, impl.Stove{}, code, impl.ErrSyntax)
	}
	s, code := impl.ReadStove("stove 41a00000 3f800000 3e99999a embers 12\n")
	isStove(t, "but this is one", s, impl.Stove{Box: 20, Damper: 1, Dust: 0.3, State: impl.StEmbers, Ash: 12}, code, impl.OK)
}

func TestP4Example(t *testing.T) {
	for _, heat := range []float32{-60, 0, 20, 100} {
		still, _ := impl.ColdStove(heat)
		s, g, code := impl.FireStep(still, 1, heat, 1)
		isStove(t, "as hot as the room", s, still, code, impl.OK)
		isGiven(t, "as hot as the room", g, impl.Given{})
	}
	warm, _ := impl.ColdStove(100)
	s, g, code := impl.FireStep(warm, 1, 20, 0.5)
	isStove(t, "100 degrees", s, impl.Stove{Box: 96, Damper: 1}, code, impl.OK)
	isGiven(t, "100 degrees", g, impl.Given{Room: 80})
}
