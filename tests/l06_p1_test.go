package tests

import (
	"fmt"
	"math"
	"slices"
	"strings"
	"testing"

	"loop.example/g01229/impl"
)

// Promise 1 of chapter 6: every function returns for all arguments, modifies no argument, and returns equal results
// for equal arguments.

func TestP1HouseConstants(t *testing.T) {
	limits := []int{impl.MaxHearths, impl.MaxSources, impl.MaxHours, impl.MaxHouseTicks, impl.MaxHouseActs, impl.MaxEntries, impl.MaxHouseText}
	if !slices.Equal(limits, []int{3, 3, 24, 200, 100, 150, 60000}) {
		t.Errorf("got the limits %v", limits)
	}
	kinds := []int{impl.AcLoad, impl.AcKindle, impl.AcRake, impl.AcClean, impl.AcPane, impl.AcBrain, impl.AcMute, impl.AcDamper, impl.AcWait}
	if !slices.Equal(kinds, []int{1, 2, 3, 4, 5, 6, 7, 8, 9}) {
		t.Errorf("got the kinds %v", kinds)
	}
}

// changedHouse is the full house but for one thing.
type changedHouse struct {
	name  string
	house impl.House
}

func otherwise(name string, how func(h *impl.House)) changedHouse {
	h := copyHouse(fullHouse())
	how(&h)
	return changedHouse{name, h}
}

// houseField is a number of the full house, with those that it may be, and those that it may not.
type houseField struct {
	name      string
	at        func(h *impl.House) *float32
	good, bad []float32
}

func houseFields() []houseField {
	goodOutside, badOutside := []float32{-60, above(-60), negZero, 0, tiny, 60}, append([]float32{below(-60), -61, above(60), 61}, noNumbers...)
	goodWinds, badWinds := []float32{-100, negZero, 0, -tiny, below(100), 100}, append([]float32{below(-100), -101, above(100), 1000}, noNumbers...)
	goodAmounts, badAmounts := []float32{0, tiny, 1, 1e20, below(big), big}, []float32{negZero, -tiny, -1, -big, inf, -inf, nan, otherNaN}
	goodFinite, badFinite := []float32{0, negZero, tiny, -tiny, -1, 1e20, -big, big}, []float32{inf, -inf, nan, otherNaN}
	fields := []houseField{
		{"Burnt", func(h *impl.House) *float32 { return &h.Sums.Burnt }, goodAmounts, badAmounts},
		{"Steam", func(h *impl.House) *float32 { return &h.Sums.Steam }, goodAmounts, badAmounts},
		{"Up", func(h *impl.House) *float32 { return &h.Sums.Up }, goodFinite, badFinite},
		{"Lost", func(h *impl.House) *float32 { return &h.Sums.Lost }, goodFinite, badFinite},
		{"Heat of a room", func(h *impl.House) *float32 { return &h.Flat.Heat[2] }, goodFlatHeats, badFlatHeats},
		{"Damper of a flue", func(h *impl.House) *float32 { return &h.Chimney[5].Damper }, []float32{0, tiny, 1}, []float32{negZero, above(1), nan}},
		{"Box", func(h *impl.House) *float32 { return &h.Hearths[2].Stove.Box }, goodHeats, badHeats},
		{"Fuel of a log", func(h *impl.House) *float32 { return &h.Hearths[1].Stove.Logs[2].Fuel[5] }, []float32{0, 10}, []float32{negZero, above(10)}},
	}
	for i := range 3 {
		fields = append(fields,
			houseField{fmt.Sprint("Outside ", i), func(h *impl.House) *float32 { return &h.Hours[i].Outside }, goodOutside, badOutside},
			houseField{fmt.Sprint("Sun ", i), func(h *impl.House) *float32 { return &h.Hours[i].Sun }, goodSuns, badSuns},
			houseField{fmt.Sprint("Wind ", i), func(h *impl.House) *float32 { return &h.Hours[i].Wind }, goodWinds, badWinds})
	}
	return fields
}

func manyHours(count int) []impl.Hour { return make([]impl.Hour, count) }

// standingAt has hearths in the room 0 at these flues.
func standingAt(flues ...int64) []impl.Hearth {
	var hearths []impl.Hearth
	for _, flue := range flues {
		hearths = append(hearths, impl.Hearth{Flue: flue, Brain: -1})
	}
	return hearths
}

// sourcesOf repeats a source.
func sourcesOf(source string, count int) []string { return slices.Repeat([]string{source}, count) }

// longestSource has as many bytes as a source may have.
func longestSource() string { return "a = 1" + strings.Repeat(" ", 1995) }

// lineOfSum has so many operations.
func lineOfSum(operations int) string { return "a = 0" + strings.Repeat(" + 0", (operations-2)/2) }

func goodHouses() []changedHouse {
	list := []changedHouse{
		{"example", exampleHouse()}, {"full", fullHouse()}, {"brainless", brainless(fullHouse())},
		otherwise("no hearth", func(h *impl.House) { h.Hearths = nil }), otherwise("an empty list of hearths", func(h *impl.House) { h.Hearths = []impl.Hearth{} }),
		otherwise("other open flues", func(h *impl.House) { h.Hearths = standingAt(5, 1, 2) }), otherwise("a trunk alone", func(h *impl.House) { h.Hearths = standingAt(5) }),
		otherwise("no source", func(h *impl.House) { h.Sources, h.Hearths = nil, standingAt(1) }), otherwise("empty sources", func(h *impl.House) { h.Sources = sourcesOf("", 3) }),
		otherwise("long sources", func(h *impl.House) { h.Sources = sourcesOf(longestSource(), 3) }), otherwise("much code", func(h *impl.House) { h.Sources[1] = lineOfSum(300) }),
		otherwise("a source of none", func(h *impl.House) { h.Sources, h.Hearths = sourcesOf("a = 1", 3), nil }),
	}
	for _, count := range []int{1, 2, 23, 24} {
		list = append(list, otherwise(fmt.Sprint("hours ", count), func(h *impl.House) { h.Hours = manyHours(count) }))
	}
	for _, n := range []int64{0, 1, 999999999, 1000000000} {
		list = append(list, otherwise(fmt.Sprint("Tick ", n), func(h *impl.House) { h.Tick = n }))
		list = append(list, otherwise(fmt.Sprint("Smoky ", n), func(h *impl.House) { h.Sums.Smoky = n }))
	}
	for i := range 3 {
		for n := range int64(3) {
			list = append(list, otherwise(fmt.Sprint("Room ", i, n), func(h *impl.House) { h.Hearths[i].Room = n }))
			list = append(list, otherwise(fmt.Sprint("Brain ", i, n), func(h *impl.House) { h.Hearths[i].Brain = n }))
		}
		list = append(list, otherwise(fmt.Sprint("no brain ", i), func(h *impl.House) { h.Hearths[i].Brain = -1 }))
		list = append(list, otherwise(fmt.Sprint("another flue ", i), func(h *impl.House) { h.Hearths[i].Flue = 5 }))
	}
	for _, field := range houseFields() {
		for _, a := range field.good {
			list = append(list, otherwise(field.name+" "+impl.NumberText(a), func(h *impl.House) { *field.at(h) = a }))
		}
	}
	return list
}

// housesOfWrongForm have too many or too few of something.
func housesOfWrongForm() []changedHouse {
	return []changedHouse{
		{"none", impl.House{}},
		otherwise("no flat", func(h *impl.House) { h.Flat = impl.Flat{} }), otherwise("no chimney", func(h *impl.House) { h.Chimney = nil }),
		otherwise("six rooms", func(h *impl.House) { h.Flat = flatWith(6, 6, 0, 0) }), otherwise("seven flues", func(h *impl.House) { h.Chimney = append(h.Chimney, likeTheExample(-1)) }),
		otherwise("no hour", func(h *impl.House) { h.Hours = nil }), otherwise("an empty list of hours", func(h *impl.House) { h.Hours = []impl.Hour{} }),
		otherwise("25 hours", func(h *impl.House) { h.Hours = manyHours(25) }), otherwise("many hours", func(h *impl.House) { h.Hours = manyHours(300000) }),
		otherwise("four hearths", func(h *impl.House) { h.Hearths, h.Chimney = standingAt(0, 1, 2, 3), endingAt(-1, -1, -1, -1) }),
		otherwise("many hearths", func(h *impl.House) { h.Hearths = make([]impl.Hearth, 100000) }),
		otherwise("four sources", func(h *impl.House) { h.Sources = sourcesOf("a = 1\n", 4) }), otherwise("four empty sources", func(h *impl.House) { h.Sources = sourcesOf("", 4) }),
		otherwise("many sources", func(h *impl.House) { h.Sources = sourcesOf("", 500000) }),
		otherwise("a great source", func(h *impl.House) { h.Sources[0] = strings.Repeat("a", 900000) }),
		otherwise("a source too long", func(h *impl.House) { h.Sources[2] = longestSource() + " " }),
		otherwise("too much code", func(h *impl.House) { h.Sources[1] = lineOfSum(302) }),
		otherwise("the same flue", func(h *impl.House) { h.Hearths = standingAt(1, 1) }), otherwise("the same flue of three", func(h *impl.House) { h.Hearths = standingAt(4, 1, 4) }),
		otherwise("the same flue at last", func(h *impl.House) { h.Hearths = standingAt(1, 5, 5) }), otherwise("the same flue in other rooms", func(h *impl.House) { h.Hearths[2].Flue = 1 }),
		otherwise("flues with branches", func(h *impl.House) { h.Hearths = standingAt(0) }), otherwise("a trunk with one branch", func(h *impl.House) { h.Hearths = standingAt(1, 3) }),
		otherwise("a brain of no sources", func(h *impl.House) { h.Sources = nil }), otherwise("a brain behind the sources", func(h *impl.House) { h.Sources = h.Sources[:2] }),
		otherwise("many logs", func(h *impl.House) { h.Hearths[1].Stove.Logs = make([]impl.Wood, 20000) }),
	}
}

func badHouses() []changedHouse {
	list := housesOfWrongForm()
	for _, n := range []int64{-1, 1000000001, 1 << 32, -1 << 32, math.MinInt64, math.MaxInt64} {
		list = append(list, otherwise(fmt.Sprint("Tick ", n), func(h *impl.House) { h.Tick = n }))
		list = append(list, otherwise(fmt.Sprint("Smoky ", n), func(h *impl.House) { h.Sums.Smoky = n }))
	}
	for i := range 3 {
		for _, n := range []int64{-2, 3, 6, 7, 1 << 32, 1<<32 + 1, -1 << 32, math.MinInt64, math.MaxInt64} {
			list = append(list, otherwise(fmt.Sprint("Room ", i, n), func(h *impl.House) { h.Hearths[i].Room = n }))
			list = append(list, otherwise(fmt.Sprint("Flue ", i, n), func(h *impl.House) { h.Hearths[i].Flue = n }))
			list = append(list, otherwise(fmt.Sprint("Brain ", i, n), func(h *impl.House) { h.Hearths[i].Brain = n }))
		}
		list = append(list, otherwise(fmt.Sprint("Room outside ", i), func(h *impl.House) { h.Hearths[i].Room = -1 }))
		list = append(list, otherwise(fmt.Sprint("no flue ", i), func(h *impl.House) { h.Hearths[i].Flue = -1 }))
		list = append(list, otherwise(fmt.Sprint("a flue with branches ", i), func(h *impl.House) { h.Hearths[i].Flue = 0 }))
		list = append(list, otherwise(fmt.Sprint("State ", i), func(h *impl.House) { h.Hearths[i].Stove.State = 4 }))
		list = append(list, otherwise(fmt.Sprint("Ash ", i), func(h *impl.House) { h.Hearths[i].Stove.Ash = 1000001 }))
		for _, source := range []string{"a", "a = 1\n\n", "\n", "a = 1\na = 2", "a = b", "damper = in4", " ", "a = 1\r\n", "\x00", lineOfSum(300) + "\nb = 1"} {
			list = append(list, otherwise(fmt.Sprintf("source %d %q", i, source), func(h *impl.House) { h.Sources[i] = source }))
		}
	}
	for _, field := range houseFields() {
		for _, a := range field.bad {
			list = append(list, otherwise(fmt.Sprint(field.name, " ", impl.NumberText(a)), func(h *impl.House) { *field.at(h) = a }))
		}
	}
	return list
}

func TestP1ValidHouse(t *testing.T) {
	for _, c := range goodHouses() {
		if !impl.ValidHouse(c.house) {
			t.Errorf("%s: the house is valid", c.name)
		}
	}
	for _, c := range badHouses() {
		if impl.ValidHouse(c.house) {
			t.Errorf("%s: the house is not valid", c.name)
		}
	}
	d := dice(601)
	for range 500 {
		if h := d.house(); !impl.ValidHouse(h) {
			t.Errorf("a house that is valid: %v", h)
		}
	}
}

// None of these is the same as another one, though some are equal by ==.
func differentHouses() []impl.House {
	list := []impl.House{
		{}, exampleHouse(), fullHouse(), {Tick: 1}, {Tick: math.MinInt64}, {Hours: manyHours(1)}, {Hours: manyHours(2)}, {Hearths: standingAt(0)}, {Hearths: standingAt(0, 0)},
		{Sources: []string{""}}, {Sources: []string{"", ""}}, {Sources: []string{"a = 1"}}, {Sources: []string{"a = 1\n"}}, {Chimney: endingAt(-1)}, {Flat: exampleFlat()},
		otherwise("", func(h *impl.House) { h.Hearths[0], h.Hearths[2] = h.Hearths[2], h.Hearths[0] }).house,
		otherwise("", func(h *impl.House) { h.Hours[0], h.Hours[2] = h.Hours[2], h.Hours[0] }).house,
		otherwise("", func(h *impl.House) { h.Sources[0], h.Sources[2] = h.Sources[2], h.Sources[0] }).house,
		otherwise("", func(h *impl.House) { h.Hearths[2].Stove.Logs = nil }).house, otherwise("", func(h *impl.House) { h.Hearths[1].Stove.State = -1 }).house,
	}
	for _, field := range houseFields() {
		for _, a := range []float32{negZero, 0, tiny, above(1), inf, -inf, nan} {
			list = append(list, otherwise("", func(h *impl.House) { *field.at(h) = a }).house)
		}
	}
	for _, n := range []int64{-1, 7, math.MaxInt64} {
		list = append(list, otherwise("", func(h *impl.House) { h.Tick = n }).house, otherwise("", func(h *impl.House) { h.Sums.Smoky = n }).house)
		for i := range 3 {
			list = append(list, otherwise("", func(h *impl.House) { h.Hearths[i].Room = n }).house, otherwise("", func(h *impl.House) { h.Hearths[i].Flue = n }).house)
			list = append(list, otherwise("", func(h *impl.House) { h.Hearths[i].Brain = n - 1 }).house)
		}
	}
	return list
}

func TestP1SameHouse(t *testing.T) {
	again := differentHouses()
	for i, h := range differentHouses() {
		for k, g := range again {
			if got := impl.SameHouse(h, g); got != (i == k) {
				t.Errorf("SameHouse(%v, %v): got %v", h, g, got)
			}
		}
	}
	empty := impl.House{Flat: impl.Flat{Heat: []float32{}}, Chimney: []impl.Flue{}, Hearths: []impl.Hearth{}, Sources: []string{}, Hours: []impl.Hour{}}
	if !impl.SameHouse(impl.House{}, empty) || !impl.SameHouse(empty, impl.House{}) {
		t.Error("a nil slice and an empty one are equivalent")
	}
	for _, field := range houseFields() {
		h, g := copyHouse(fullHouse()), copyHouse(fullHouse())
		*field.at(&h), *field.at(&g) = nan, otherNaN
		if !impl.SameHouse(h, g) {
			t.Errorf("%s: each NaN is the same", field.name)
		}
	}
	long, other := impl.House{Hours: manyHours(300000)}, impl.House{Hours: manyHours(300000)}
	if !impl.SameHouse(long, other) {
		t.Error("long lists are the same as well")
	}
	other.Hours[299999].Wind = negZero
	if impl.SameHouse(long, other) {
		t.Error("their last hours count")
	}
}

// houseTold is all that a function of chapter 6 returns beside its code.
type houseTold struct {
	house   impl.House
	flat    impl.Flat
	hour    impl.Hour
	journal []impl.Entry
	one     float32
	two     float32
	number  int64
	check   uint32
}

func sameHouseTold(a, b houseTold) bool {
	return sameHouses(a.house, b.house) && sameFlats(a.flat, b.flat) && sameHours(a.hour, b.hour) && slices.Equal(a.journal, b.journal) &&
		sameBits(a.one, b.one) && sameBits(a.two, b.two) && a.number == b.number && a.check == b.check
}

// houseArguments are what a function of chapter 6 takes beside a house.
type houseArguments struct {
	hearth, count, every int64
	act                  impl.Act
	acts                 []impl.Act
	journal              []impl.Entry
}

// easyHouseArguments have no error for the full house.
func easyHouseArguments() houseArguments {
	acts := []impl.Act{{Kind: impl.AcPane, A: 3, B: 2}, {Kind: impl.AcMute, A: 2}, {Kind: impl.AcWait, A: 1}}
	return houseArguments{2, 1, 2, impl.Act{Kind: impl.AcDamper, A: 1, B: 8}, acts, []impl.Entry{{Act: acts[0]}, {Act: acts[2]}}}
}

// worstHouseArguments have an error for each function that may have one.
func worstHouseArguments() houseArguments {
	bad := impl.Act{Kind: 99, A: -1, B: math.MaxInt64}
	return houseArguments{3, 201, 0, bad, slices.Repeat([]impl.Act{bad}, 101), slices.Repeat([]impl.Entry{{Mark: true, Check: 5, Act: bad}}, 151)}
}

type houseCall struct {
	name string
	do   func(h impl.House, g houseArguments) (houseTold, int64)
}

// plainHouseCalls take nothing beside a house.
func plainHouseCalls() []houseCall {
	return []houseCall{
		{"HourOf", func(h impl.House, g houseArguments) (houseTold, int64) {
			hour, code := impl.HourOf(h)
			return houseTold{hour: hour}, code
		}},
		{"TickHouse", func(h impl.House, g houseArguments) (houseTold, int64) {
			after, code := impl.TickHouse(h)
			return houseTold{house: after}, code
		}},
		{"FuelInHouse", func(h impl.House, g houseArguments) (houseTold, int64) {
			fuel, code := impl.FuelInHouse(h)
			return houseTold{one: fuel}, code
		}},
		{"StillHouse", func(h impl.House, g houseArguments) (houseTold, int64) {
			flat, code := impl.StillHouse(h)
			return houseTold{flat: flat}, code
		}},
		{"CheckOf", func(h impl.House, g houseArguments) (houseTold, int64) {
			check, code := impl.CheckOf(h)
			return houseTold{check: check}, code
		}},
	}
}

func houseCalls() []houseCall {
	return append(plainHouseCalls(), []houseCall{
		{"BrainOf", func(h impl.House, g houseArguments) (houseTold, int64) {
			damper, flue, code := impl.BrainOf(h, g.hearth)
			return houseTold{one: damper, two: flue}, code
		}},
		{"TickHouses", func(h impl.House, g houseArguments) (houseTold, int64) {
			after, code := impl.TickHouses(h, g.count)
			return houseTold{house: after}, code
		}},
		{"DoAct", func(h impl.House, g houseArguments) (houseTold, int64) {
			after, code := impl.DoAct(h, g.act)
			return houseTold{house: after}, code
		}},
		{"DoActs", func(h impl.House, g houseArguments) (houseTold, int64) {
			after, done, code := impl.DoActs(h, g.acts)
			return houseTold{house: after, number: done}, code
		}},
		{"KeepJournal", func(h impl.House, g houseArguments) (houseTold, int64) {
			journal, after, code := impl.KeepJournal(h, g.acts, g.every)
			return houseTold{house: after, journal: journal}, code
		}},
		{"ReplayJournal", func(h impl.House, g houseArguments) (houseTold, int64) {
			after, done, code := impl.ReplayJournal(h, g.journal)
			return houseTold{house: after, number: done}, code
		}},
	}...)
}

// housesAreRefused checks that the named functions have the code, and zero values in all other results but for the
// number, and that others are OK.
func housesAreRefused(t *testing.T, why, names string, h impl.House, g houseArguments, wantNumber, want int64) {
	t.Helper()
	for _, call := range houseCalls() {
		got, code := call.do(h, g)
		zero := houseTold{}
		if call.name == "DoActs" || call.name == "ReplayJournal" {
			zero.number = wantNumber
		}
		if named := slices.Contains(strings.Fields(names), call.name); named && (code != want || !sameHouseTold(got, zero)) {
			t.Errorf("%s: %s: got %v and the code %d, want %d", why, call.name, got, code, want)
		} else if !named && code != impl.OK {
			t.Errorf("%s: %s: got the code %d", why, call.name, code)
		}
	}
}

const (
	allOfHouses = "HourOf TickHouse FuelInHouse StillHouse CheckOf BrainOf TickHouses DoAct DoActs KeepJournal ReplayJournal"
	withActs    = "DoActs KeepJournal"
)

func TestP1InvalidHousesAreToldFirst(t *testing.T) {
	for _, c := range badHouses() {
		for _, g := range []houseArguments{easyHouseArguments(), worstHouseArguments(), {}} {
			housesAreRefused(t, c.name, allOfHouses, c.house, g, 0, impl.ErrInvalid)
		}
		if text := impl.HouseText(c.house); text != "" {
			t.Errorf("%s: got the text %q", c.name, text)
		}
	}
}

func TestP1ValidHousesAreTaken(t *testing.T) {
	housesAreRefused(t, "full", "", fullHouse(), easyHouseArguments(), 0, impl.OK)
	d := dice(602)
	for range 200 {
		h := d.house()
		for _, call := range plainHouseCalls() {
			if _, code := call.do(h, houseArguments{}); code != impl.OK && (code != impl.ErrState || call.name != "TickHouse" && call.name != "StillHouse") {
				t.Errorf("%s: got the code %d", call.name, code)
			}
		}
	}
	for _, c := range goodHouses() {
		for _, call := range plainHouseCalls() {
			if _, code := call.do(c.house, houseArguments{}); code == impl.ErrInvalid {
				t.Errorf("%s: %s: got the code %d", c.name, call.name, code)
			}
		}
	}
}

// houseChecker lets one of the arguments be another one; all others stay easy, and no function has another error.
func houseChecker(t *testing.T, why string, want int64) func(names string, number int64, how func(g *houseArguments)) {
	return func(names string, number int64, how func(g *houseArguments)) {
		t.Helper()
		g := easyHouseArguments()
		how(&g)
		housesAreRefused(t, why, names, fullHouse(), g, number, want)
	}
}

// badActs are not valid.
func badActs() []impl.Act {
	acts := []impl.Act{{}, {A: 1}, {B: 1}}
	for kind := int64(1); kind < 10; kind++ {
		for _, n := range []int64{-1, 1000, 1 << 32, -1 << 32, math.MinInt64, math.MaxInt64} {
			acts = append(acts, impl.Act{Kind: kind, A: n}, impl.Act{Kind: kind, B: n}, impl.Act{Kind: kind, A: n, B: n})
		}
		if !modelHasTwo(kind) {
			acts = append(acts, impl.Act{Kind: kind, B: 1}, impl.Act{Kind: kind, A: 1, B: 999})
		}
	}
	for _, kind := range []int64{-1, 0, 10, 11, 255, 256, 257, 1<<32 + 1, math.MinInt64, math.MaxInt64} {
		acts = append(acts, impl.Act{Kind: kind}, impl.Act{Kind: kind, A: 1})
	}
	return acts
}

func TestP1ArgumentsOfHousesAreTold(t *testing.T) {
	check := houseChecker(t, "range", impl.ErrRange)
	for _, n := range []int64{-1, 3, 1 << 32, -1 << 32, math.MinInt64, math.MaxInt64} {
		check("BrainOf", 0, func(g *houseArguments) { g.hearth = n })
	}
	for _, n := range []int64{-1, 201, 1 << 32, -1 << 32, math.MinInt64, math.MaxInt64} {
		check("TickHouses", 0, func(g *houseArguments) { g.count = n })
	}
	for _, n := range []int64{0, -1, 101, 1 << 32, 1<<32 + 1, math.MinInt64, math.MaxInt64} {
		check("KeepJournal", 0, func(g *houseArguments) { g.every = n })
	}
	for _, count := range []int{101, 1000, 300000} {
		check(withActs, 0, func(g *houseArguments) { g.acts = slices.Repeat(g.acts[:1], count) })
	}
	for _, count := range []int{151, 1000, 200000} {
		check("ReplayJournal", 0, func(g *houseArguments) { g.journal = slices.Repeat(g.journal[:1], count) })
	}
	check = houseChecker(t, "invalid", impl.ErrInvalid)
	for _, bad := range badActs() {
		check("DoAct", 0, func(g *houseArguments) { g.act = bad })
		for i := range 3 {
			check(withActs, 0, func(g *houseArguments) { g.acts[i] = bad })
		}
		for i := range 2 {
			check("ReplayJournal", int64(i), func(g *houseArguments) { g.journal[i].Act = bad })
		}
	}
}

func TestP1ArgumentsOfHousesMayReachTheirBounds(t *testing.T) {
	check := houseChecker(t, "at a bound", impl.OK)
	for n := range int64(3) {
		check("", 0, func(g *houseArguments) { g.hearth = n })
	}
	for _, n := range []int64{1, 2, 3, 4, 99, 100} {
		check("", 0, func(g *houseArguments) { g.every = n })
	}
	for _, count := range []int{0, 1, 99, 100} {
		check("", 0, func(g *houseArguments) { g.every, g.acts = 2, slices.Repeat(g.acts[:1], count) })
	}
	for _, count := range []int{0, 1, 149, 150} {
		check("", 0, func(g *houseArguments) { g.journal = slices.Repeat(g.journal[:1], count) })
	}
	check("", 0, func(g *houseArguments) { g.count = 0 })
	calm := exampleHouse()
	for _, n := range []int64{1, 199, 200} {
		got, code := impl.TickHouses(calm, n)
		want, _ := modelTicks(calm, n)
		isHouse(t, "TickHouses", got, want, code, impl.OK)
	}
}

// Errors are told in the order in which the document lists them.
func TestP1ErrorsOfHousesComeInOrder(t *testing.T) {
	h := fullHouse()
	missing := impl.Act{Kind: impl.AcMute, A: 9}
	bad := impl.Act{Kind: impl.AcMute, A: -1}
	many := append(slices.Repeat([]impl.Act{missing}, 100), bad)
	journal, after, code := impl.KeepJournal(h, many, 0)
	isHouse(t, "an invalid act, ahead of all others", after, impl.House{}, code, impl.ErrInvalid)
	got, at, code := impl.DoActs(h, many)
	isHouseAt(t, "an invalid act, ahead of too many", got, impl.House{}, at, 0, code, impl.ErrInvalid)
	many[100] = missing
	_, after, code = impl.KeepJournal(h, many, 1)
	isHouse(t, "too many acts, ahead of too many entries", after, impl.House{}, code, impl.ErrRange)
	got, at, code = impl.DoActs(h, many)
	isHouseAt(t, "too many acts, ahead of one that has an error", got, impl.House{}, at, 0, code, impl.ErrRange)
	_, after, code = impl.KeepJournal(h, many[:76], 1)
	isHouse(t, "too many entries, ahead of an act that has an error", after, impl.House{}, code, impl.ErrLimit)
	_, after, code = impl.KeepJournal(h, many[:76], 0)
	isHouse(t, "every, ahead of too many entries", after, impl.House{}, code, impl.ErrRange)
	journal, after, code = impl.KeepJournal(h, append(many[1:1:1], impl.Act{Kind: impl.AcClean}, missing), 1)
	isHouse(t, "an act that has an error", after, impl.House{}, code, impl.ErrRange)
	if len(journal) != 0 {
		t.Errorf("got the journal %v", journal)
	}
	entries := slices.Repeat([]impl.Entry{{Act: missing}}, 151)
	entries[0] = impl.Entry{Act: bad}
	got, at, code = impl.ReplayJournal(h, entries)
	isHouseAt(t, "too many entries, ahead of an entry that is none", got, impl.House{}, at, 0, code, impl.ErrRange)
	got, at, code = impl.ReplayJournal(h, entries[:150])
	isHouseAt(t, "the first entry", got, impl.House{}, at, 0, code, impl.ErrInvalid)
	entries[0] = impl.Entry{Act: impl.Act{Kind: impl.AcClean}}
	entries[2] = impl.Entry{Act: bad}
	got, at, code = impl.ReplayJournal(h, entries[:150])
	isHouseAt(t, "an act that cannot be done, ahead of a later one that is none", got, impl.House{}, at, 1, code, impl.ErrRange)
}

func roomyHouse(h impl.House) impl.House {
	r := h
	r.Flat = roomyFlat(h.Flat)
	r.Chimney = roomyList(h.Chimney, likeTheExample(5))
	r.Hearths = roomyList(h.Hearths, impl.Hearth{Room: 77})
	r.Sources = roomyList(h.Sources, "other")
	r.Hours = roomyList(h.Hours, impl.Hour{Sun: 77})
	for i := range h.Hearths {
		r.Hearths[i].Stove = roomyCopy(h.Hearths[i].Stove)
	}
	return r
}

// wholeHouse has the room behind the ends as well, if it was made by roomyHouse.
func wholeHouse(h impl.House) impl.House {
	w := h
	w.Flat = allOf(h.Flat)
	w.Chimney, w.Hearths = h.Chimney[:len(h.Chimney)+3], slices.Clone(h.Hearths[:len(h.Hearths)+3])
	w.Sources, w.Hours = h.Sources[:len(h.Sources)+3], h.Hours[:len(h.Hours)+3]
	for i := range h.Hearths {
		logs := h.Hearths[i].Stove.Logs
		w.Hearths[i].Stove.Logs = logs[:len(logs)+3]
	}
	return w
}

func scribbleHouse(h impl.House) {
	for _, hearth := range h.Hearths {
		fill(hearth.Stove.Logs, logOf(8, 88, 8))
	}
	fillFlat(h.Flat)
	fill(h.Chimney, likeTheExample(5))
	fill(h.Hearths, impl.Hearth{Room: 77})
	fill(h.Sources, "other")
	fill(h.Hours, impl.Hour{Sun: 77})
}

func (told houseTold) scribble() {
	scribbleHouse(told.house)
	fillFlat(told.flat)
	fill(told.journal, impl.Entry{Check: 77})
}

func (told houseTold) kept() houseTold {
	told.house, told.flat, told.journal = copyHouse(told.house), copyFlat(told.flat), slices.Clone(told.journal)
	return told
}

// housesToTry are valid ones, and some that are not.
func housesToTry() []impl.House {
	list := []impl.House{{}, exampleHouse(), fullHouse(), tickedTo(fullHouse(), 1000000000), badHouses()[3].house}
	d := dice(603)
	for range 60 {
		list = append(list, d.house())
	}
	return list
}

func TestP1HousesModifyNothingAndShareNothing(t *testing.T) {
	d := dice(604)
	for _, h := range housesToTry() {
		acts := []impl.Act{{Kind: impl.AcWait, A: 1}}
		if impl.ValidHouse(h) {
			acts, _ = d.doableActs(h, 5)
		}
		journal, _, _ := impl.KeepJournal(h, acts, 2)
		roomy := roomyHouse(h)
		g := houseArguments{0, 2, 2, d.act(h), roomyList(acts, impl.Act{Kind: 77}), roomyList(journal, impl.Entry{Check: 77})}
		for _, call := range houseCalls() {
			one, code := call.do(roomy, g)
			two, also := call.do(roomy, g)
			if !sameHouses(wholeHouse(roomy), wholeHouse(roomyHouse(h))) || !slices.Equal(g.acts[:len(acts)+3], roomyList(acts, impl.Act{Kind: 77})[:len(acts)+3]) ||
				!slices.Equal(g.journal[:len(journal)+3], roomyList(journal, impl.Entry{Check: 77})[:len(journal)+3]) {
				t.Errorf("%s modifies its arguments", call.name)
			}
			if code != also || !sameHouseTold(one, two) {
				t.Errorf("%s has other results the second time", call.name)
			}
			kept := two.kept()
			one.scribble()
			if !sameHouseTold(two, kept) || !sameHouses(wholeHouse(roomy), wholeHouse(roomyHouse(h))) || !slices.Equal(g.acts, acts) || !slices.Equal(g.journal, journal) {
				t.Errorf("%s: a result shares memory", call.name)
			}
		}
		valid, same, text := impl.ValidHouse(roomy), impl.SameHouse(roomy, h), impl.HouseText(roomy)
		if valid != impl.ValidHouse(h) || !same || text != impl.HouseText(h) || !sameHouses(wholeHouse(roomy), wholeHouse(roomyHouse(h))) {
			t.Errorf("got %v, %v and %q", valid, same, text)
		}
	}
}

// partsOfHouse are the lists of a house as texts of where they are in memory.
func partsOfHouse(h impl.House) []string {
	parts := []string{
		fmt.Sprintf("%p", h.Flat.Heat), fmt.Sprintf("%p", h.Flat.Store), fmt.Sprintf("%p", h.Flat.Walls), fmt.Sprintf("%p", h.Flat.Panes),
		fmt.Sprintf("%p", h.Chimney), fmt.Sprintf("%p", h.Hearths), fmt.Sprintf("%p", h.Sources), fmt.Sprintf("%p", h.Hours),
	}
	for _, hearth := range h.Hearths {
		parts = append(parts, fmt.Sprintf("%p", hearth.Stove.Logs))
	}
	return parts
}

// No two lists of one house share memory, whatever shared it before.
func TestP1ListsOfAHouseShareNothing(t *testing.T) {
	h := copyHouse(fullHouse())
	h.Flat.Store = h.Flat.Heat
	h.Flat.Heat[0], h.Flat.Heat[1], h.Flat.Heat[2] = 20, 21, 22
	for i := range h.Hearths {
		h.Hearths[i].Stove = burningStove()
		h.Hearths[i].Stove.Logs = h.Hearths[0].Stove.Logs
	}
	for _, count := range []int64{0, 1, 5} {
		after, code := impl.TickHouses(h, count)
		if code != impl.OK {
			t.Fatalf("got the code %d", code)
		}
		parts := partsOfHouse(after)
		if !slices.Equal(slices.Compact(slices.Sorted(slices.Values(parts))), slices.Sorted(slices.Values(parts))) {
			t.Errorf("%d ticks: two lists are the same memory", count)
		}
		want, _ := modelTicks(h, count)
		isHouse(t, "shared before", after, want, code, impl.OK)
	}
}

func TestP1TextsOfHousesModifyNothingAndShareNothing(t *testing.T) {
	d := dice(605)
	for range 100 {
		text := impl.HouseText(d.house())
		one, _ := impl.ReadHouse(text)
		two, code := impl.ReadHouse(text)
		kept := copyHouse(two)
		scribbleHouse(one)
		isHouse(t, "read twice", two, kept, code, impl.OK)
		journal := []impl.Entry{{Act: d.anyAct()}, {Mark: true, Check: uint32(d.roll(1 << 30))}}
		roomy := roomyList(journal, impl.Entry{Check: 77})
		lines := impl.JournalText(roomy)
		mark, code := impl.LastMark(roomy)
		isCount(t, "LastMark", mark, 1, code, impl.OK)
		if !slices.Equal(roomy[:5], roomyList(journal, impl.Entry{Check: 77})[:5]) {
			t.Error("JournalText or LastMark modifies the journal")
		}
		first, _ := impl.ReadJournal(lines)
		second, _ := impl.ReadJournal(lines)
		fill(first, impl.Entry{Check: 77})
		if !slices.Equal(second, journal) {
			t.Errorf("%q: got %v", lines, second)
		}
	}
}

func TestP1EveryFunctionOfHousesReturns(t *testing.T) {
	d := dice(606)
	odd := append(edgeNumbers(), nan, otherNaN)
	counts := []int64{math.MinInt64, -1, 0, 1, 2, 3, 5, 101, 201, math.MaxInt64}
	for range 600 {
		h := d.house()
		switch d.roll(6) {
		case 0:
			h.Hours[0].Outside = d.pick(odd...)
		case 1:
			h.Sums.Up = d.pick(odd...)
		case 2:
			h.Flat.Heat[0] = d.pick(odd...)
		case 3:
			h.Tick = counts[d.roll(10)]
		}
		acts := []impl.Act{d.anyAct(), d.act(h), {Kind: counts[d.roll(10)], A: counts[d.roll(10)], B: counts[d.roll(10)]}}[:d.roll(4)]
		g := houseArguments{hearth: counts[d.roll(10)], count: counts[d.roll(10)], every: counts[d.roll(10)], act: d.anyAct(), acts: acts}
		for _, a := range acts {
			g.journal = append(g.journal, impl.Entry{Mark: d.roll(3) == 0, Check: uint32(d.roll(2)), Act: a})
		}
		for _, call := range houseCalls() {
			got, code := call.do(h, g)
			if call.name == "DoActs" || call.name == "ReplayJournal" {
				got.number = 0
			}
			if impl.CodeName(code) == "" || code != impl.OK && !sameHouseTold(got, houseTold{}) {
				t.Fatalf("%s(%v, %v): got %v, %d", call.name, h, g, got, code)
			}
		}
	}
}

func TestP1AnyTextsOfHouses(t *testing.T) {
	d := dice(607)
	for range 3000 {
		bytes := make([]byte, d.roll(60))
		for i := range bytes {
			bytes[i] = "house flat chimney source hearth 0123456789abcdef-\n\n\n\n\x00\xff"[d.roll(56)]
		}
		text := string(bytes)
		h, code := impl.ReadHouse(text)
		isHouse(t, text, h, impl.House{}, code, impl.ErrSyntax)
		a, code := impl.ReadAct(text)
		if a != (impl.Act{}) || code != impl.ErrSyntax {
			t.Errorf("ReadAct(%q): got %v and the code %d", text, a, code)
		}
		if journal, code := impl.ReadJournal(text); len(journal) != 0 || code != impl.ErrSyntax && text != "" {
			t.Errorf("ReadJournal(%q): got %v and the code %d", text, journal, code)
		}
	}
	for _, piece := range []string{"house", " ", "\n", "source 9\n", "flat 999999999999999999999\n", "hearth 0 0 - 1\n", "mark ", "mark 00000001\n", "wait 1\n", "9", "-", "\x00", "é"} {
		text := strings.Repeat(piece, 1000000/len(piece))
		h, code := impl.ReadHouse(text)
		isHouse(t, piece, h, impl.House{}, code, impl.ErrRange)
		h, code = impl.ReadHouse(text[:60000])
		isHouse(t, piece, h, impl.House{}, code, impl.ErrSyntax)
		_, code = impl.ReadAct(text)
		isCode(t, "ReadAct "+piece, code, impl.ErrSyntax)
		journal, code := impl.ReadJournal(text)
		want := int64(impl.ErrSyntax)
		if strings.HasSuffix(piece, "\n") {
			want = impl.ErrRange
		}
		if len(journal) != 0 || code != want {
			t.Errorf("ReadJournal of many %q: got the code %d", piece, code)
		}
	}
}
