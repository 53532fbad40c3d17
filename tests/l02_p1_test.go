package tests

import (
	"math"
	"slices"
	"strings"
	"testing"

	"loop.example/g01229/impl"
)

// Promise 1 of chapter 2: every function returns for all arguments, modifies no argument, and returns equal results
// for equal arguments.

func TestP1StoveLimitsAndStates(t *testing.T) {
	got := []int64{impl.MaxLogs, impl.MaxFires, impl.StCold, impl.StKindled, impl.StBurning, impl.StEmbers}
	if want := []int64{6, 400, 0, 1, 2, 3}; !slices.Equal(got, want) {
		t.Errorf("got %v, want %v", got, want)
	}
}

// change is a stove that is plainStove(2) but for one thing.
type change struct {
	name  string
	stove impl.Stove
}

func changed(name string, how func(s *impl.Stove)) change {
	s := plainStove(2)
	how(&s)
	return change{name, s}
}

func goodStoves() []change {
	list := []change{{"no logs", plainStove(0)}, {"MaxLogs", plainStove(6)}, {"zero", impl.Stove{}}, {"empty", impl.Stove{Logs: []impl.Wood{}}}}
	for _, a := range goodHeats {
		list = append(list, changed("Box "+impl.NumberText(a), func(s *impl.Stove) { s.Box = a }))
	}
	for _, a := range []float32{0, tiny, 0.5, below(1), 1} {
		list = append(list, changed("Damper "+impl.NumberText(a), func(s *impl.Stove) { s.Damper = a }))
	}
	for _, a := range []float32{0, tiny, 0.5, below(1)} {
		list = append(list, changed("Dust "+impl.NumberText(a), func(s *impl.Stove) { s.Dust = a }))
	}
	for _, n := range []int64{0, 1, 999999, 1000000} {
		list = append(list, changed("Ash", func(s *impl.Stove) { s.Ash = n }))
	}
	for state := range int8(4) {
		list = append(list, changed("State", func(s *impl.Stove) { s.State = state }))
	}
	return list
}

func badStoves() []change {
	list := []change{{"seven logs", plainStove(7)}, {"many logs", impl.Stove{Logs: make([]impl.Wood, 20000)}}}
	for _, a := range badHeats {
		list = append(list, changed("Box "+impl.NumberText(a), func(s *impl.Stove) { s.Box = a }))
	}
	for _, a := range []float32{negZero, -tiny, -1, above(1), 2, big, inf, -inf, nan, otherNaN} {
		list = append(list, changed("Damper "+impl.NumberText(a), func(s *impl.Stove) { s.Damper = a }))
	}
	for _, a := range []float32{negZero, -tiny, -1, 1, above(1), big, inf, -inf, nan, otherNaN} {
		list = append(list, changed("Dust "+impl.NumberText(a), func(s *impl.Stove) { s.Dust = a }))
	}
	for _, n := range []int64{-1, 1000001, 1 << 32, math.MinInt64, math.MaxInt64} {
		list = append(list, changed("Ash", func(s *impl.Stove) { s.Ash = n }))
	}
	for _, state := range []int8{-1, 4, -128, 127} {
		list = append(list, changed("State", func(s *impl.Stove) { s.State = state }))
	}
	for i := range 2 {
		list = append(list, changed("a log", func(s *impl.Stove) { s.Logs[i].Fuel[5] = negZero }))
		list = append(list, changed("a log", func(s *impl.Stove) { s.Logs[i].Heat[0] = above(1500) }))
		list = append(list, changed("a log", func(s *impl.Stove) { s.Logs[i].Wet[3] = nan }))
	}
	return list
}

func TestP1ValidStove(t *testing.T) {
	for _, c := range goodStoves() {
		if !impl.ValidStove(c.stove) {
			t.Errorf("%s: %v is valid", c.name, c.stove)
		}
	}
	for _, c := range badStoves() {
		if impl.ValidStove(c.stove) {
			t.Errorf("%s: the stove is not valid", c.name)
		}
	}
}

// None of these is the same as another one, though some are equal by ==.
func differentStoves() []impl.Stove {
	list := []impl.Stove{plainStove(0), plainStove(1), plainStove(2), plainStove(7)}
	for _, c := range []func(s *impl.Stove){
		func(s *impl.Stove) { s.Box = 0 },
		func(s *impl.Stove) { s.Box = negZero },
		func(s *impl.Stove) { s.Box = nan },
		func(s *impl.Stove) { s.Damper = 0 },
		func(s *impl.Stove) { s.Damper = negZero },
		func(s *impl.Stove) { s.Damper = nan },
		func(s *impl.Stove) { s.Dust = negZero },
		func(s *impl.Stove) { s.Dust = inf },
		func(s *impl.Stove) { s.Dust = nan },
		func(s *impl.Stove) { s.State = 1 },
		func(s *impl.Stove) { s.State = -1 },
		func(s *impl.Stove) { s.Ash = 1 },
		func(s *impl.Stove) { s.Ash = math.MinInt64 },
		func(s *impl.Stove) { s.Logs[0].Wet[5] = 0 },
		func(s *impl.Stove) { s.Logs[1].Wet[5] = 0 },
		func(s *impl.Stove) { s.Logs[1].Heat[2] = negZero },
		func(s *impl.Stove) { s.Logs[1].Heat[2] = nan },
		func(s *impl.Stove) { s.Logs[0], s.Logs[1] = s.Logs[1], s.Logs[0] },
	} {
		list = append(list, changed("", c).stove)
	}
	return list
}

func TestP1SameStove(t *testing.T) {
	list := differentStoves()
	again := differentStoves()
	for i, s := range list {
		for k, r := range again {
			if got := impl.SameStove(s, r); got != (i == k) {
				t.Errorf("SameStove(%v, %v): got %v", s, r, got)
			}
		}
	}
	if !impl.SameStove(impl.Stove{}, impl.Stove{Logs: []impl.Wood{}}) {
		t.Error("a nil slice and an empty one are equivalent")
	}
	if !impl.SameStove(impl.Stove{Box: nan, Dust: nan}, impl.Stove{Box: otherNaN, Dust: otherNaN}) {
		t.Error("each NaN is the same")
	}
	long := impl.Stove{Logs: make([]impl.Wood, 50000)}
	other := roomyCopy(long)
	if !impl.SameStove(long, other) {
		t.Error("long lists are the same as well")
	}
	other.Logs[49999].Fuel[5] = negZero
	if impl.SameStove(long, other) {
		t.Error("their last logs count")
	}
}

func TestP1ColdStove(t *testing.T) {
	for _, heat := range goodHeats {
		s, code := impl.ColdStove(heat)
		isStove(t, "ColdStove", s, impl.Stove{Box: heat, Damper: 1}, code, impl.OK)
	}
	for _, heat := range badHeats {
		s, code := impl.ColdStove(heat)
		isStove(t, "ColdStove", s, impl.Stove{}, code, impl.ErrInvalid)
	}
}

// told is all that a function returns beside its code.
type told struct {
	stove  impl.Stove
	wood   impl.Wood
	given  impl.Given
	number float32
	count  int64
	flag   bool
}

func sameTold(a, b told) bool {
	return sameStoves(a.stove, b.stove) && sameLog(a.wood, b.wood) && sameGiven(a.given, b.given) &&
		sameBits(a.number, b.number) && a.count == b.count && a.flag == b.flag
}

// arguments are what a function takes beside a stove.
type arguments struct {
	wood              impl.Wood
	log               int64
	share             float32
	draft, room, time float32
	steps             int64
}

func easy() arguments {
	return arguments{wood: logOf(0, 20, 1), log: 0, share: 0.5, draft: 1, room: 20, time: 0.5, steps: 3}
}

type stoveCall struct {
	name string
	do   func(s impl.Stove, g arguments) (told, int64)
}

// stoveCalls are all functions that take a stove and may return an error.
func stoveCalls() []stoveCall {
	return []stoveCall{
		{"PutLog", func(s impl.Stove, g arguments) (told, int64) {
			r, c := impl.PutLog(s, g.wood)
			return told{stove: r}, c
		}},
		{"TakeLog", func(s impl.Stove, g arguments) (told, int64) {
			r, w, c := impl.TakeLog(s, g.log)
			return told{stove: r, wood: w}, c
		}},
		{"SetDamper", func(s impl.Stove, g arguments) (told, int64) {
			r, c := impl.SetDamper(s, g.share)
			return told{stove: r}, c
		}},
		{"KindleStove", func(s impl.Stove, g arguments) (told, int64) { r, c := impl.KindleStove(s); return told{stove: r}, c }},
		{"AirOf", func(s impl.Stove, g arguments) (told, int64) {
			a, c := impl.AirOf(s, g.draft)
			return told{number: a}, c
		}},
		{"FireStep", func(s impl.Stove, g arguments) (told, int64) {
			r, all, c := impl.FireStep(s, g.draft, g.room, g.time)
			return told{stove: r, given: all}, c
		}},
		{"FireSteps", func(s impl.Stove, g arguments) (told, int64) {
			r, all, c := impl.FireSteps(s, g.draft, g.room, g.time, g.steps)
			return told{stove: r, given: all}, c
		}},
		{"IsAlight", func(s impl.Stove, g arguments) (told, int64) { a, c := impl.IsAlight(s); return told{flag: a}, c }},
		{"FuelIn", func(s impl.Stove, g arguments) (told, int64) { a, c := impl.FuelIn(s); return told{number: a}, c }},
		{"RakeOut", func(s impl.Stove, g arguments) (told, int64) {
			r, n, c := impl.RakeOut(s)
			return told{stove: r, count: n}, c
		}},
		{"DropSpent", func(s impl.Stove, g arguments) (told, int64) {
			r, n, c := impl.DropSpent(s)
			return told{stove: r, count: n}, c
		}},
		{"StepsToCold", func(s impl.Stove, g arguments) (told, int64) {
			n, c := impl.StepsToCold(s, g.room, g.time, g.steps)
			return told{count: n}, c
		}},
	}
}

// areRefused checks that the named functions have the code, and zero values in all other results, and that others are OK.
func areRefused(t *testing.T, why, names string, s impl.Stove, g arguments, want int64) {
	t.Helper()
	for _, c := range stoveCalls() {
		got, code := c.do(s, g)
		if named := slices.Contains(strings.Fields(names), c.name); named && (code != want || !sameTold(got, told{})) {
			t.Errorf("%s: %s: got %v and the code %d, want %d", why, c.name, got, code, want)
		} else if !named && code != impl.OK {
			t.Errorf("%s: %s: got the code %d", why, c.name, code)
		}
	}
}

const allStoveCalls = "PutLog TakeLog SetDamper KindleStove AirOf FireStep FireSteps IsAlight FuelIn RakeOut DropSpent StepsToCold"

func TestP1InvalidStovesAreToldFirst(t *testing.T) {
	worst := arguments{wood: logOf(nan, 0, 0), log: -1, share: nan, draft: -1, room: 101, time: 2, steps: -1}
	for _, c := range badStoves() {
		areRefused(t, c.name, allStoveCalls, c.stove, easy(), impl.ErrInvalid)
		areRefused(t, c.name, allStoveCalls, c.stove, worst, impl.ErrInvalid)
		if text := impl.StoveText(c.stove); text != "" {
			t.Errorf("%s: got the text %q", c.name, text)
		}
	}
	bad := easy()
	bad.wood.Heat[4] = below(-60)
	areRefused(t, "a bad log", "PutLog", plainStove(2), bad, impl.ErrInvalid)
	areRefused(t, "a bad log and no room", "PutLog", plainStove(6), bad, impl.ErrInvalid)
}

// The stoves are cold, so that KindleStove and RakeOut have no error, and StepsToCold has nothing to do.
func TestP1StoveRangesAreTold(t *testing.T) {
	s := plainStove(2)
	check := func(names string, how func(g *arguments)) {
		t.Helper()
		g := easy()
		how(&g)
		areRefused(t, "range", names, s, g, impl.ErrRange)
	}
	for _, bad := range []float32{negZero, -tiny, -1, above(1), 2, inf, -inf, nan, otherNaN} {
		check("FireStep FireSteps StepsToCold", func(g *arguments) { g.time = bad })
		check("SetDamper", func(g *arguments) { g.share = bad })
	}
	for _, bad := range []float32{negZero, -tiny, -1, inf, -inf, nan, otherNaN} {
		check("AirOf FireStep FireSteps", func(g *arguments) { g.draft = bad })
	}
	for _, bad := range []float32{below(-60), -61, above(100), 101, big, -big, inf, -inf, nan, otherNaN} {
		check("FireStep FireSteps StepsToCold", func(g *arguments) { g.room = bad })
	}
	for _, bad := range []int64{-1, impl.MaxFires + 1, math.MinInt64, math.MaxInt64, 1 << 32} {
		check("FireSteps StepsToCold", func(g *arguments) { g.steps = bad })
	}
	for _, bad := range []int64{-1, 2, 1 << 32, math.MinInt64, math.MaxInt64} {
		check("TakeLog", func(g *arguments) { g.log = bad })
	}
}

func TestP1StoveArgumentsMayReachTheirBounds(t *testing.T) {
	s := plainStove(5)
	check := func(how func(g *arguments)) {
		t.Helper()
		g := easy()
		how(&g)
		areRefused(t, "at a bound", "none", s, g, impl.OK)
	}
	for _, edge := range []float32{0, tiny, below(1), 1} {
		check(func(g *arguments) { g.time, g.share = edge, edge })
	}
	for _, edge := range []float32{0, tiny, 1, above(1), big} {
		check(func(g *arguments) { g.draft = edge })
	}
	for _, edge := range []float32{-60, above(-60), negZero, 0, tiny, below(100), 100} {
		check(func(g *arguments) { g.room = edge })
	}
	for _, edge := range []int64{0, 1, impl.MaxFires} {
		check(func(g *arguments) { g.steps = edge })
	}
	for edge := range int64(5) {
		check(func(g *arguments) { g.log = edge })
	}
}

func TestP1PutLogErrors(t *testing.T) {
	areRefused(t, "no room", "PutLog", plainStove(6), easy(), impl.ErrLimit)
	s := plainStove(0)
	for count := 1; count <= 6; count++ {
		next, code := impl.PutLog(s, logOf(0.5, 20, float32(count)))
		isStove(t, "PutLog", next, plainStove(count), code, impl.OK)
		s = next
	}
}

func TestP1KindleStoveErrors(t *testing.T) {
	for _, state := range []int8{impl.StKindled, impl.StBurning, impl.StEmbers} {
		for _, count := range []int{0, 1} {
			s, code := impl.KindleStove(inState(plainStove(count), state))
			isStove(t, "not cold", s, impl.Stove{}, code, impl.ErrState)
			r, grams, code := impl.RakeOut(inState(plainStove(count), state))
			isStove(t, "not cold", r, impl.Stove{}, code, impl.ErrState)
			isCount(t, "not cold", grams, 0, code, impl.ErrState)
		}
	}
	s, code := impl.KindleStove(plainStove(0))
	isStove(t, "no log", s, impl.Stove{}, code, impl.ErrNotFound)
}

// ashyStove burns: 4.5 grams of ash fall in the first step with the time 0.5.
func ashyStove(ash int64) impl.Stove {
	return impl.Stove{Logs: []impl.Wood{logOf(0, 325, 10)}, Box: 325, Damper: 1, State: impl.StBurning, Ash: ash, Dust: 0.75}
}

func TestP1TooMuchAshIsAnErrorOfState(t *testing.T) {
	full := ashyStove(1000000)
	areRefused(t, "too much ash", "FireStep FireSteps StepsToCold KindleStove RakeOut", full, easy(), impl.ErrState)
	for _, bad := range []arguments{{draft: 1, room: 20, time: 2}, {draft: 1, room: 101, time: 1}} {
		_, _, one := impl.FireStep(full, bad.draft, bad.room, bad.time)
		_, _, two := impl.FireSteps(full, bad.draft, bad.room, bad.time, 3)
		_, three := impl.StepsToCold(full, bad.room, bad.time, 3)
		if one != impl.ErrRange || two != impl.ErrRange || three != impl.ErrRange {
			t.Errorf("ErrRange comes first: got %d, %d and %d", one, two, three)
		}
	}
	s, all, code := impl.FireSteps(full, 1, 20, 0.5, 0)
	isStove(t, "no step", s, full, code, impl.OK)
	isGiven(t, "no step", all, impl.Given{})
	n, code := impl.StepsToCold(full, 20, 0.5, 0)
	isCount(t, "no step", n, 0, code, impl.ErrBudget)
}

func TestP1AshMayReachItsBound(t *testing.T) {
	want, wanted := modelFire(ashyStove(999995), 1, 20, 0.5)
	if want.Ash != 1000000 {
		t.Fatalf("the model has %d grams", want.Ash)
	}
	s, all, code := impl.FireStep(ashyStove(999995), 1, 20, 0.5)
	isStove(t, "just full", s, want, code, impl.OK)
	isGiven(t, "just full", all, wanted)
	s, all, code = impl.FireStep(ashyStove(999996), 1, 20, 0.5)
	isStove(t, "too full", s, impl.Stove{}, code, impl.ErrState)
	isGiven(t, "too full", all, impl.Given{})
	s, all, code = impl.FireSteps(ashyStove(999995), 1, 20, 0.5, 2)
	isStove(t, "too full behind two steps", s, impl.Stove{}, code, impl.ErrState)
	isGiven(t, "too full behind two steps", all, impl.Given{})
	n, code := impl.StepsToCold(ashyStove(999995), 20, 0.5, 1)
	isCount(t, "not cold behind one step", n, 0, code, impl.ErrBudget)
	n, code = impl.StepsToCold(ashyStove(999995), 20, 0.5, 2)
	isCount(t, "too full behind two steps", n, 0, code, impl.ErrState)
}

// stovesToTry are such that each function has no error for some of them.
func stovesToTry() []impl.Stove {
	list := []impl.Stove{
		plainStove(0), plainStove(1), plainStove(3), plainStove(6), burningStove(), ashyStove(5), ashyStove(1000000),
		inState(burningStove(), impl.StCold), inState(burningStove(), impl.StKindled), inState(burningStove(), impl.StEmbers),
		inState(plainStove(5), impl.StEmbers), plainStove(7), {Box: nan},
	}
	list[2].Logs[1].Fuel = [6]float32{}
	d := dice(21)
	for range 20 {
		list = append(list, d.stove())
	}
	return list
}

// scribble overwrites all that a list has room for.
func scribble(logs []impl.Wood) {
	logs = logs[:cap(logs)]
	for i := range logs {
		logs[i] = logOf(9, 99, 9)
	}
}

func TestP1StovesAreNotModified(t *testing.T) {
	for _, s := range stovesToTry() {
		for _, c := range stoveCalls() {
			for log := range int64(2) {
				g := easy()
				g.log = log
				r, kept := roomyCopy(s), roomyCopy(s)
				got, code := c.do(r, g)
				if kept.Logs = kept.Logs[:cap(kept.Logs)]; !sameStoves(impl.Stove{Logs: r.Logs[:cap(r.Logs)]}, impl.Stove{Logs: kept.Logs}) {
					t.Errorf("%s modifies its argument: %v", c.name, s)
				}
				again, also := c.do(roomyCopy(s), g)
				scribble(r.Logs)
				if code != also || !sameTold(got, again) {
					t.Errorf("%s keeps its argument, or has other results the second time: %v", c.name, s)
				}
			}
		}
	}
}

func TestP1ResultsShareNoMemory(t *testing.T) {
	for _, s := range stovesToTry() {
		for _, c := range stoveCalls() {
			r := roomyCopy(s)
			one, _ := c.do(r, easy())
			two, _ := c.do(r, easy())
			kept := roomyCopy(two.stove)
			scribble(one.stove.Logs)
			if !sameStoves(r, s) {
				t.Errorf("%s: the result shares memory with the argument: %v", c.name, s)
			}
			if !sameStoves(two.stove, kept) {
				t.Errorf("%s: two results share memory: %v", c.name, s)
			}
		}
	}
	text := impl.StoveText(burningStove())
	one, _ := impl.ReadStove(text)
	two, _ := impl.ReadStove(text)
	scribble(one.Logs)
	if !sameStoves(two, burningStove()) {
		t.Error("what is read shares memory")
	}
}

func isGood(a float32) bool { return a-a == 0 }

func TestP1EveryFunctionOfStovesReturns(t *testing.T) {
	odd := []float32{0, negZero, tiny, -tiny, 1, above(1), -60, 100, 1500, big, -big, inf, -inf, nan, otherNaN}
	counts := []int64{math.MinInt64, -1, 0, 1, 5, math.MaxInt64}
	d := dice(22)
	for _, s := range stovesToTry() {
		for _, c := range stoveCalls() {
			for range 300 {
				g := arguments{logOf(d.pick(odd...), 20, 1), counts[d.roll(6)], d.pick(odd...), d.pick(odd...), d.pick(odd...), d.pick(odd...), counts[d.roll(6)]}
				got, code := c.do(s, g)
				if impl.CodeName(code) == "" || code != impl.OK && !sameTold(got, told{}) {
					t.Fatalf("%s(%v, %v): got %v, %d", c.name, s, g, got, code)
				}
				numbers := got.number + got.given.Room + got.given.Up + got.given.Steam + got.given.Fuel
				if !impl.ValidStove(got.stove) || !impl.ValidWood(got.wood) || !isGood(numbers) {
					t.Fatalf("%s(%v, %v): got %v", c.name, s, g, got)
				}
			}
		}
	}
}

func TestP1LongTextsOfStoves(t *testing.T) {
	for _, text := range []string{
		strings.Repeat("0", 1000000), strings.Repeat(" ", 1000000), strings.Repeat("\n", 1000000),
		"stove" + strings.Repeat(" 0", 499997), strings.Repeat("log\n", 250000),
		"stove 00000000 00000000 00000000 cold " + strings.Repeat("9", 900000) + "\n",
		"stove 00000000 00000000 00000000 cold 0\n" + strings.Repeat(grownText+"\n", 6000),
	} {
		s, code := impl.ReadStove(text)
		isStove(t, text[:20], s, impl.Stove{}, code, impl.ErrSyntax)
	}
}
