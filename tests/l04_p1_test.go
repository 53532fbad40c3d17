package tests

import (
	"fmt"
	"math"
	"slices"
	"strings"
	"testing"

	"loop.example/g01229/impl"
)

// Promise 1 of chapter 4: every function returns for all arguments, modifies no argument, and returns equal results
// for equal arguments.

func TestP1FlatLimits(t *testing.T) {
	if impl.MaxRooms != 5 || impl.MaxWalls != 10 || impl.MaxPanes != 8 || impl.Parts != 4 || impl.MaxRoomSteps != 400 {
		t.Errorf("got %d, %d, %d, %d and %d", impl.MaxRooms, impl.MaxWalls, impl.MaxPanes, impl.Parts, impl.MaxRoomSteps)
	}
}

// noNumbers are never good where a number has two bounds.
var noNumbers = []float32{big, -big, inf, -inf, nan, otherNaN}

var (
	goodFlatHeats = []float32{-60, above(-60), negZero, 0, tiny, -tiny, 20, below(200), 200}
	badFlatHeats  = append([]float32{below(-60), -61, above(200), 201}, noNumbers...)
	goodStores    = []float32{1, above(1), 100, below(10000), 10000}
	badStores     = append([]float32{below(1), 0, negZero, tiny, -1, -100, above(10000), 10001}, noNumbers...)
	goodLeads     = []float32{0, tiny, 1.0 / 64, 1, below(100), 100}
	badLeads      = append([]float32{negZero, -tiny, -1, above(100), 101}, noNumbers...)
	goodSuns      = []float32{0, tiny, 1, below(10), 10}
	badSuns       = append([]float32{negZero, -tiny, -1, above(10), 11}, noNumbers...)
	badSides      = []int64{2, 3, -2, 1 << 32, -1 << 32, math.MinInt64, math.MaxInt64}
)

// flatField is a number of a flat, with those that it may be, and those that it may not.
type flatField struct {
	name      string
	at        func(f *impl.Flat) *float32
	good, bad []float32
}

// twoRooms have two walls and two panes.
func twoRooms() impl.Flat {
	return impl.Flat{
		Heat: []float32{20, 10}, Store: []float32{10, 20},
		Walls: []impl.Wall{{A: 0, B: 1, Lead: 4, Store: 5, Heat: [4]float32{20, 20, 10, 10}}, {A: 1, B: -1, Lead: 1, Store: 50, Heat: [4]float32{9, 7, 5, 3}}},
		Panes: []impl.Pane{{A: 1, B: -1, Lead: 1, Sun: 2}, {A: 1, B: 0, Lead: 0.5, Sun: 0.25}},
	}
}

// flatFields are all numbers of twoRooms.
func flatFields() []flatField {
	goodWallLeads := []float32{1.0 / 64, above(1.0 / 64), 1, below(100), 100}
	badWallLeads := append([]float32{below(1.0 / 64), 0, negZero, tiny, -1, above(100), 101}, noNumbers...)
	var fields []flatField
	for i := range 2 {
		fields = append(fields,
			flatField{"Heat", func(f *impl.Flat) *float32 { return &f.Heat[i] }, goodFlatHeats, badFlatHeats},
			flatField{"Store", func(f *impl.Flat) *float32 { return &f.Store[i] }, goodStores, badStores},
			flatField{"Lead of a wall", func(f *impl.Flat) *float32 { return &f.Walls[i].Lead }, goodWallLeads, badWallLeads},
			flatField{"Store of a wall", func(f *impl.Flat) *float32 { return &f.Walls[i].Store }, goodStores, badStores},
			flatField{"Lead of a pane", func(f *impl.Flat) *float32 { return &f.Panes[i].Lead }, goodLeads, badLeads},
			flatField{"Sun", func(f *impl.Flat) *float32 { return &f.Panes[i].Sun }, goodSuns, badSuns})
		for k := range 4 {
			fields = append(fields, flatField{"Heat of a wall", func(f *impl.Flat) *float32 { return &f.Walls[i].Heat[k] }, goodFlatHeats, badFlatHeats})
		}
	}
	return fields
}

// flatWith is a flat of so many rooms, walls and panes, all of which go from the room 0 to the outside.
func flatWith(heats, stores, walls, panes int) impl.Flat {
	f := impl.Flat{Heat: make([]float32, heats), Store: make([]float32, stores), Walls: make([]impl.Wall, walls), Panes: make([]impl.Pane, panes)}
	for i := range f.Store {
		f.Store[i] = 10
	}
	for i := range f.Walls {
		f.Walls[i] = impl.Wall{B: -1, Lead: 1, Store: 10}
	}
	for i := range f.Panes {
		f.Panes[i] = impl.Pane{B: -1, Lead: 1}
	}
	return f
}

func withWallAt(f impl.Flat, wall int, a, b int64) impl.Flat {
	f.Walls = slices.Clone(f.Walls)
	f.Walls[wall].A, f.Walls[wall].B = a, b
	return f
}

func withPaneAt(f impl.Flat, pane int, a, b int64) impl.Flat {
	f.Panes = slices.Clone(f.Panes)
	f.Panes[pane].A, f.Panes[pane].B = a, b
	return f
}

func goodFlats() map[string]impl.Flat {
	flats := map[string]impl.Flat{
		"example": exampleFlat(), "two": twoRooms(), "three": threeRooms(), "no wall or pane": flatWith(1, 1, 0, 0),
		"most": flatWith(5, 5, 10, 8), "one room with most": flatWith(1, 1, 10, 8), "only walls": flatWith(2, 2, 10, 0), "only panes": flatWith(2, 2, 0, 8),
	}
	for _, field := range flatFields() {
		for _, a := range field.good {
			f := twoRooms()
			*field.at(&f) = a
			flats[field.name+" "+impl.NumberText(a)] = f
		}
	}
	for _, ends := range [][2]int64{{0, 1}, {1, 0}, {0, -1}, {1, -1}} {
		for i := range 2 {
			flats[fmt.Sprint("wall ", i, ends)] = withWallAt(twoRooms(), i, ends[0], ends[1])
			flats[fmt.Sprint("pane ", i, ends)] = withPaneAt(twoRooms(), i, ends[0], ends[1])
		}
	}
	return flats
}

// badEnds are no A and B of two rooms.
func badEnds() [][2]int64 {
	ends := [][2]int64{{-1, 0}, {-1, 1}, {-1, -1}, {0, 0}, {1, 1}}
	for _, side := range badSides {
		ends = append(ends, [2]int64{side, 0}, [2]int64{side, -1}, [2]int64{side, side}, [2]int64{0, side}, [2]int64{1, side})
	}
	return ends
}

func badFlats() map[string]impl.Flat {
	flats := map[string]impl.Flat{
		"none": {}, "no room": flatWith(0, 0, 0, 0), "only a pane": {Panes: []impl.Pane{{A: 0, B: -1}}}, "zeros": flatWith(1, 0, 0, 0),
		"six rooms": flatWith(6, 6, 0, 0), "fewer stores": flatWith(2, 1, 0, 0), "no store": flatWith(2, 0, 1, 1), "no heat": flatWith(0, 1, 0, 0),
		"more stores": flatWith(2, 3, 0, 0), "many stores": flatWith(1, 200000, 0, 0), "many rooms": flatWith(200000, 200000, 0, 0),
		"eleven walls": flatWith(1, 1, 11, 0), "nine panes": flatWith(1, 1, 0, 9), "many walls": flatWith(1, 1, 50000, 0), "many panes": flatWith(1, 1, 0, 90000),
		"a wall of zeros": {Heat: []float32{1}, Store: []float32{1}, Walls: make([]impl.Wall, 1)},
		"a pane of zeros": {Heat: []float32{1}, Store: []float32{1}, Panes: make([]impl.Pane, 1)},
	}
	for _, field := range flatFields() {
		for _, a := range field.bad {
			f := twoRooms()
			*field.at(&f) = a
			flats[field.name+" "+impl.NumberText(a)+fmt.Sprint(len(flats))] = f
		}
	}
	for _, ends := range badEnds() {
		for i := range 2 {
			flats[fmt.Sprint("wall ", i, ends)] = withWallAt(twoRooms(), i, ends[0], ends[1])
			flats[fmt.Sprint("pane ", i, ends)] = withPaneAt(twoRooms(), i, ends[0], ends[1])
		}
	}
	return flats
}

func TestP1ValidFlat(t *testing.T) {
	for name, f := range goodFlats() {
		if !impl.ValidFlat(f) {
			t.Errorf("%s: the flat is valid", name)
		}
	}
	for name, f := range badFlats() {
		if impl.ValidFlat(f) {
			t.Errorf("%s: the flat is not valid", name)
		}
	}
	d := dice(81)
	for range 2000 {
		if f := d.flat(); !impl.ValidFlat(f) {
			t.Errorf("%v is valid", f)
		}
	}
}

// None of these is the same as another one, though some are equal by ==.
func differentFlats() []impl.Flat {
	list := []impl.Flat{
		{}, {Heat: []float32{1}}, {Store: []float32{1}}, {Walls: make([]impl.Wall, 1)}, {Panes: make([]impl.Pane, 1)}, {Walls: make([]impl.Wall, 2)},
		{Heat: []float32{1, 1}}, {Heat: []float32{1}, Store: []float32{1}}, {Panes: make([]impl.Pane, 2)}, twoRooms(), exampleFlat(),
	}
	for _, field := range flatFields() {
		for _, a := range []float32{negZero, 0, tiny, above(1), inf, -inf, nan} {
			f := twoRooms()
			*field.at(&f) = a
			list = append(list, f)
		}
	}
	for i := range 2 {
		for _, side := range badSides {
			list = append(list, withWallAt(twoRooms(), i, side, 1), withWallAt(twoRooms(), i, 0, side))
			list = append(list, withPaneAt(twoRooms(), i, side, 1), withPaneAt(twoRooms(), i, 0, side))
		}
	}
	return list
}

func TestP1SameFlat(t *testing.T) {
	again := differentFlats()
	for i, f := range differentFlats() {
		for k, g := range again {
			if got := impl.SameFlat(f, g); got != (i == k) {
				t.Errorf("SameFlat(%v, %v): got %v", f, g, got)
			}
		}
	}
	empty := impl.Flat{Heat: []float32{}, Store: []float32{}, Walls: []impl.Wall{}, Panes: []impl.Pane{}}
	if !impl.SameFlat(impl.Flat{}, empty) || !impl.SameFlat(empty, impl.Flat{}) {
		t.Error("a nil slice and an empty one are equivalent")
	}
	for _, field := range flatFields() {
		f, g := twoRooms(), twoRooms()
		*field.at(&f), *field.at(&g) = nan, otherNaN
		if !impl.SameFlat(f, g) {
			t.Errorf("%s: each NaN is the same", field.name)
		}
	}
	long, other := flatWith(1, 1, 60000, 60000), flatWith(1, 1, 60000, 60000)
	if !impl.SameFlat(long, other) {
		t.Error("long lists are the same as well")
	}
	other.Panes[59999].Sun = negZero
	if impl.SameFlat(long, other) {
		t.Error("their last panes count")
	}
}

// flatTold is all that a function of chapter 4 returns beside its code.
type flatTold struct {
	flat    impl.Flat
	numbers []float32
	number  float32
	index   int64
}

func sameFlatTold(a, b flatTold) bool {
	return sameFlats(a.flat, b.flat) && sameNumbers(a.numbers, b.numbers) && sameBits(a.number, b.number) && a.index == b.index
}

// flatArguments are what a function of chapter 4 takes beside a flat.
type flatArguments struct {
	outside, sun, time, lead float32
	gains, wants             []float32
	steps, a, b, room, pane  int64
}

// easyFlatFor fits each valid flat with a pane that may have errors of state only.
func easyFlatFor(f impl.Flat) flatArguments {
	count := min(len(f.Heat), 10)
	return flatArguments{5, 0.5, 0.0625, 0.5, make([]float32, count), make([]float32, count), 3, 0, -1, 0, 0}
}

type flatCall struct {
	name string
	do   func(f impl.Flat, g flatArguments) (flatTold, int64)
}

// numberCalls are the functions that take a flat, and return a number or an index.
func numberCalls() []flatCall {
	return []flatCall{
		{"EnergyOf", func(f impl.Flat, g flatArguments) (flatTold, int64) {
			a, code := impl.EnergyOf(f)
			return flatTold{number: a}, code
		}},
		{"LossOf", func(f impl.Flat, g flatArguments) (flatTold, int64) {
			a, code := impl.LossOf(f, g.outside)
			return flatTold{number: a}, code
		}},
		{"LongestTime", func(f impl.Flat, g flatArguments) (flatTold, int64) {
			a, code := impl.LongestTime(f)
			return flatTold{number: a}, code
		}},
		{"LeadBetween", func(f impl.Flat, g flatArguments) (flatTold, int64) {
			a, code := impl.LeadBetween(f, g.a, g.b)
			return flatTold{number: a}, code
		}},
		{"ColdestRoom", func(f impl.Flat, g flatArguments) (flatTold, int64) {
			room, code := impl.ColdestRoom(f)
			return flatTold{index: room}, code
		}},
	}
}

// flatCalls are all functions that take a flat, and may return an error.
func flatCalls() []flatCall {
	return append(numberCalls(), []flatCall{
		{"RoomFlows", func(f impl.Flat, g flatArguments) (flatTold, int64) {
			l, code := impl.RoomFlows(f, g.outside, g.sun)
			return flatTold{numbers: l}, code
		}},
		{"StepFlat", func(f impl.Flat, g flatArguments) (flatTold, int64) {
			h, a, code := impl.StepFlat(f, g.outside, g.sun, g.gains, g.time)
			return flatTold{flat: h, number: a}, code
		}},
		{"StepsFlat", func(f impl.Flat, g flatArguments) (flatTold, int64) {
			h, a, code := impl.StepsFlat(f, g.outside, g.sun, g.gains, g.time, g.steps)
			return flatTold{flat: h, number: a}, code
		}},
		{"StillFlat", func(f impl.Flat, g flatArguments) (flatTold, int64) {
			h, code := impl.StillFlat(f, g.outside, g.sun, g.gains)
			return flatTold{flat: h}, code
		}},
		{"GainsFor", func(f impl.Flat, g flatArguments) (flatTold, int64) {
			l, code := impl.GainsFor(f, g.outside, g.sun, g.wants)
			return flatTold{numbers: l}, code
		}},
		{"SetPane", func(f impl.Flat, g flatArguments) (flatTold, int64) {
			h, code := impl.SetPane(f, g.pane, g.lead)
			return flatTold{flat: h}, code
		}},
		{"SwapRooms", func(f impl.Flat, g flatArguments) (flatTold, int64) {
			h, code := impl.SwapRooms(f, g.a, g.room)
			return flatTold{flat: h}, code
		}},
	}...)
}

// flatsAreRefused checks that the named functions have the code, and zero values in all other results, and that others are OK.
func flatsAreRefused(t *testing.T, why, names string, f impl.Flat, g flatArguments, want int64) {
	t.Helper()
	for _, call := range flatCalls() {
		got, code := call.do(f, g)
		if named := slices.Contains(strings.Fields(names), call.name); named && (code != want || !sameFlatTold(got, flatTold{})) {
			t.Errorf("%s: %s: got %v and the code %d, want %d", why, call.name, got, code, want)
		} else if !named && code != impl.OK {
			t.Errorf("%s: %s: got the code %d", why, call.name, code)
		}
	}
}

// worstFor has an error for each function that takes more than a flat.
func worstFor() flatArguments {
	return flatArguments{61, 11, 2, -1, []float32{nan}, []float32{inf, 0, 0}, -1, -2, 7, 7, -1}
}

func TestP1InvalidFlatsAreToldFirst(t *testing.T) {
	for name, f := range badFlats() {
		for _, g := range []flatArguments{easyFlatFor(f), worstFor(), {}} {
			for _, call := range flatCalls() {
				if got, code := call.do(f, g); code != impl.ErrInvalid || !sameFlatTold(got, flatTold{}) {
					t.Errorf("%s: %s: got %v and the code %d", name, call.name, got, code)
				}
			}
		}
		if text := impl.FlatText(f); text != "" {
			t.Errorf("%s: got the text %q", name, text)
		}
	}
}

func TestP1ValidFlatsAreTaken(t *testing.T) {
	for name, f := range goodFlats() {
		for _, call := range flatCalls() {
			g := easyFlatFor(f)
			if _, code := call.do(f, g); code == impl.ErrInvalid || code == impl.ErrRange && !(call.name == "SetPane" && len(f.Panes) == 0) {
				t.Errorf("%s: %s: got the code %d", name, call.name, code)
			}
		}
	}
}

const (
	withOutsideAir = "LossOf RoomFlows StepFlat StepsFlat StillFlat GainsFor"
	withSun        = "RoomFlows StepFlat StepsFlat StillFlat GainsFor"
	withGains      = "StepFlat StepsFlat StillFlat"
)

// flatChecker lets one of the arguments be another one; all others stay easy, and no function has another error.
func flatChecker(t *testing.T, why string, want int64) func(names string, how func(g *flatArguments)) {
	return func(names string, how func(g *flatArguments)) {
		t.Helper()
		g := easyFlatFor(threeRooms())
		how(&g)
		flatsAreRefused(t, why, names, threeRooms(), g, want)
	}
}

func TestP1RangesOfFlatsAreTold(t *testing.T) {
	check := flatChecker(t, "range", impl.ErrRange)
	for _, bad := range append([]float32{below(-60), -61, above(60), 61}, noNumbers...) {
		check(withOutsideAir, func(g *flatArguments) { g.outside = bad })
	}
	for _, bad := range badSuns {
		check(withSun, func(g *flatArguments) { g.sun = bad })
	}
	for _, bad := range append([]float32{negZero, -tiny, -1, above(1), 2}, noNumbers...) {
		check("StepFlat StepsFlat", func(g *flatArguments) { g.time = bad })
	}
	for _, bad := range badLeads {
		check("SetPane", func(g *flatArguments) { g.lead = bad })
	}
	for _, bad := range []int64{-1, impl.MaxRoomSteps + 1, 1 << 32, math.MinInt64, math.MaxInt64} {
		check("StepsFlat", func(g *flatArguments) { g.steps = bad })
	}
}

func TestP1RangesOfRoomsAreTold(t *testing.T) {
	check := flatChecker(t, "range", impl.ErrRange)
	for _, bad := range []int64{-2, 3, 4, 1 << 32, math.MinInt64, math.MaxInt64} {
		check("LeadBetween SwapRooms", func(g *flatArguments) { g.a = bad })
		check("LeadBetween", func(g *flatArguments) { g.b = bad })
		check("LeadBetween SwapRooms", func(g *flatArguments) { g.a, g.b = bad, bad })
		check("SwapRooms", func(g *flatArguments) { g.room = bad })
	}
	for _, same := range []int64{0, 1, 2} {
		check("LeadBetween", func(g *flatArguments) { g.a, g.b = same, same })
	}
	check("LeadBetween SwapRooms", func(g *flatArguments) { g.a, g.b = -1, -1 })
	check("SwapRooms", func(g *flatArguments) { g.a, g.b = -1, 0 })
	check("SwapRooms", func(g *flatArguments) { g.room = -1 })
	for _, bad := range []int64{-1, 4, 8, 1 << 32, math.MinInt64, math.MaxInt64} {
		check("SetPane", func(g *flatArguments) { g.pane = bad })
	}
	got, code := impl.SetPane(flatWith(2, 2, 2, 0), 0, 1)
	isFlat(t, "no pane", got, impl.Flat{}, code, impl.ErrRange)
}

func TestP1RangesOfGainsAreTold(t *testing.T) {
	check := flatChecker(t, "range", impl.ErrRange)
	for _, count := range []int{0, 1, 2, 4, 5, 200000} {
		check(withGains, func(g *flatArguments) { g.gains = make([]float32, count) })
		check("GainsFor", func(g *flatArguments) { g.wants = make([]float32, count) })
	}
	check(withGains, func(g *flatArguments) { g.gains = nil })
	check("GainsFor", func(g *flatArguments) { g.wants = nil })
	for i := range 3 {
		for _, bad := range append([]float32{below(-100000), -100001, above(100000), 100001}, noNumbers...) {
			check(withGains, func(g *flatArguments) { g.gains[i] = bad })
		}
		for _, bad := range badFlatHeats {
			check("GainsFor", func(g *flatArguments) { g.wants[i] = bad })
		}
	}
}

func TestP1ArgumentsOfFlatsMayReachTheirBounds(t *testing.T) {
	check := flatChecker(t, "at a bound", impl.OK)
	for _, edge := range []float32{-60, above(-60), negZero, 0, tiny, -tiny, below(60), 60} {
		check("", func(g *flatArguments) { g.outside = edge })
	}
	for _, edge := range goodSuns {
		check("", func(g *flatArguments) { g.sun = edge })
	}
	for _, edge := range goodLeads {
		check("", func(g *flatArguments) { g.lead = edge })
	}
	for _, edge := range []float32{0, tiny, 0.25, below(1), 1} {
		check("", func(g *flatArguments) { g.time, g.steps = edge, 1 })
	}
	for _, edge := range []int64{0, 1, impl.MaxRoomSteps} {
		check("", func(g *flatArguments) { g.steps = edge })
	}
	for i := range 3 {
		for _, edge := range goodFlatHeats {
			check("", func(g *flatArguments) { g.wants[i], g.gains[i] = edge, edge/2 })
		}
	}
	for _, ends := range [][2]int64{{0, 1}, {1, 0}, {2, 0}, {2, -1}, {1, -1}} {
		check("", func(g *flatArguments) { g.a, g.b, g.room, g.pane = ends[0], ends[1], 2, 3 })
	}
}

// Gains may be so great only where there is nearly no time, and where the leads are great enough.
func TestP1GainsMayReachTheirBounds(t *testing.T) {
	for _, gain := range []float32{-100000, above(-100000), negZero, tiny, below(100000), 100000} {
		f := flatWith(1, 1, 0, 8)
		for i := range f.Panes {
			f.Panes[i].Lead = 100
		}
		want, _, wantCode := modelStepFlat(f, 0, 0, []float32{gain}, 0.001)
		got, _, code := impl.StepFlat(f, 0, 0, []float32{gain}, 0.001)
		isFlat(t, "StepFlat", got, want, code, wantCode)
		got, _, code = impl.StepsFlat(f, 0, 0, []float32{gain}, 0.001, 1)
		isFlat(t, "StepsFlat", got, want, code, impl.OK)
		_, code = impl.StillFlat(f, 0, 0, []float32{gain})
		isCode(t, "StillFlat", code, map[bool]int64{true: impl.OK, false: impl.ErrState}[gain > -48000 && gain < 160000])
	}
}

func TestP1LaterErrorsOfFlatsComeBehindRanges(t *testing.T) {
	hot := flatWith(1, 1, 1, 1)
	hot.Heat[0], hot.Store[0], hot.Panes[0].Lead, hot.Walls[0].Store = 200, 1, 100, 1
	g := easyFlatFor(hot)
	g.time, g.gains[0] = 1, 100000
	flatsAreRefused(t, "state", "StepFlat StepsFlat StillFlat", hot, g, impl.ErrState)
	for _, how := range []func(*flatArguments){
		func(g *flatArguments) { g.outside = 61 }, func(g *flatArguments) { g.sun = negZero }, func(g *flatArguments) { g.gains[0] = above(100000) },
	} {
		bad := g
		bad.gains = slices.Clone(g.gains)
		how(&bad)
		for _, call := range flatCalls() {
			if got, code := call.do(hot, bad); slices.Contains(strings.Fields(withGains), call.name) && (code != impl.ErrRange || !sameFlatTold(got, flatTold{})) {
				t.Errorf("%s: got %v and the code %d", call.name, got, code)
			}
		}
	}
	bad := g
	bad.time = above(1)
	flatsAreRefused(t, "time", "StepFlat StepsFlat", hot, flatArguments{bad.outside, bad.sun, bad.time, 0.5, []float32{0}, bad.wants, 3, 0, -1, 0, 0}, impl.ErrRange)
	bad = g
	bad.steps = 401
	_, _, code := impl.StepsFlat(hot, bad.outside, bad.sun, bad.gains, bad.time, bad.steps)
	isCode(t, "steps", code, impl.ErrRange)
	hot.Walls[0].Lead = below(1.0 / 64)
	flatsAreRefused(t, "invalid", "EnergyOf LossOf LongestTime LeadBetween ColdestRoom RoomFlows StepFlat StepsFlat StillFlat GainsFor SetPane SwapRooms",
		hot, bad, impl.ErrInvalid)
}

func roomyFlat(f impl.Flat) impl.Flat {
	return impl.Flat{Heat: roomyList(f.Heat, 70), Store: roomyList(f.Store, 71), Walls: roomyList(f.Walls, impl.Wall{A: 72}), Panes: roomyList(f.Panes, impl.Pane{A: 73})}
}

// allOf are a flat's lists with the room behind their ends, if it was made by roomyFlat.
func allOf(f impl.Flat) impl.Flat {
	return impl.Flat{Heat: f.Heat[:len(f.Heat)+3], Store: f.Store[:len(f.Store)+3], Walls: f.Walls[:len(f.Walls)+3], Panes: f.Panes[:len(f.Panes)+3]}
}

func fillFlat(f impl.Flat) {
	fill(f.Heat, 9)
	fill(f.Store, 8)
	fill(f.Walls, impl.Wall{A: 7, Heat: [4]float32{1, 2, 3, 4}})
	fill(f.Panes, impl.Pane{A: 6})
}

// isUntouched tells whether what was made by roomyFlat and roomyGains is as it was made.
func isUntouched(f, was impl.Flat, g, old flatArguments) bool {
	return sameFlats(allOf(f), allOf(roomyFlat(was))) &&
		sameNumbers(g.gains[:len(g.gains)+3], append(slices.Clone(old.gains), 74, 74, 74)) &&
		sameNumbers(g.wants[:len(g.wants)+3], append(slices.Clone(old.wants), 75, 75, 75))
}

func roomyGains(g flatArguments) flatArguments {
	g.gains, g.wants = roomyList(g.gains, 74), roomyList(g.wants, 75)
	return g
}

// flatsToTry are such that each function has no error for some of them.
func flatsToTry() []impl.Flat {
	list := []impl.Flat{exampleFlat(), twoRooms(), threeRooms(), flatWith(5, 5, 10, 8), flatWith(1, 1, 0, 0), flatWith(2, 3, 1, 1), {}}
	d := dice(82)
	for range 30 {
		list = append(list, d.calmFlat(), d.flat())
	}
	return list
}

func TestP1FlatsModifyNothingAndShareNothing(t *testing.T) {
	d := dice(83)
	codes := map[string]int{}
	for _, f := range flatsToTry() {
		for _, steps := range []int64{0, 2} {
			g := easyFlatFor(f)
			g.gains, g.wants, g.steps = d.gainsFor(f, 50), slices.Clone(f.Heat), steps
			for _, call := range flatCalls() {
				roomy, args := roomyFlat(f), roomyGains(g)
				one, code := call.do(roomy, args)
				two, also := call.do(roomy, args)
				if !isUntouched(roomy, f, args, g) {
					t.Errorf("%s modifies its arguments: %v", call.name, f)
				}
				if code != also || !sameFlatTold(one, two) {
					t.Errorf("%s has other results the second time: %v", call.name, f)
				}
				kept := flatTold{copyFlat(two.flat), slices.Clone(two.numbers), two.number, two.index}
				fillFlat(one.flat)
				fill(one.numbers, 9)
				if !isUntouched(roomy, f, args, g) || !sameFlatTold(two, kept) {
					t.Errorf("%s: a result shares memory: %v", call.name, f)
				}
				fillFlat(roomy)
				fill(args.gains, 8)
				fill(args.wants, 8)
				if !sameFlatTold(two, kept) {
					t.Errorf("%s keeps its arguments: %v", call.name, f)
				}
				codes[call.name+" "+impl.CodeName(code)]++
			}
		}
	}
	for _, call := range flatCalls() {
		if codes[call.name+" ok"] < 20 {
			t.Errorf("%s: too few without an error: %v", call.name, codes)
		}
	}
}

// The lists of one flat must not be parts of one another.
func TestP1ListsOfOneResultShareNoMemory(t *testing.T) {
	g := easyFlatFor(threeRooms())
	for _, call := range flatCalls() {
		got, _ := call.do(threeRooms(), g)
		store := slices.Clone(got.flat.Store)
		fill(got.flat.Heat, 5)
		if !sameNumbers(got.flat.Store, store) {
			t.Errorf("%s: Store shares memory with Heat", call.name)
		}
		heat := slices.Clone(got.flat.Heat)
		fill(got.flat.Store, 6)
		if !sameNumbers(got.flat.Heat, heat) {
			t.Errorf("%s: Heat shares memory with Store", call.name)
		}
	}
}

// One list may be several arguments at once.
func TestP1ArgumentsMayShareMemory(t *testing.T) {
	list := []float32{20, 30, 10}
	alone := impl.Flat{Heat: slices.Clone(list), Store: slices.Clone(list), Walls: threeRooms().Walls, Panes: threeRooms().Panes}
	shared := impl.Flat{Heat: list, Store: list, Walls: alone.Walls, Panes: alone.Panes}
	g, h := easyFlatFor(alone), easyFlatFor(alone)
	g.gains, g.wants = slices.Clone(list), slices.Clone(list)
	h.gains, h.wants = list, list
	for _, call := range flatCalls() {
		want, wantCode := call.do(alone, g)
		if got, code := call.do(shared, h); code != wantCode || !sameFlatTold(got, want) {
			t.Errorf("%s: got %v and the code %d, want %v and %d", call.name, got, code, want, wantCode)
		}
	}
	if !sameNumbers(list, []float32{20, 30, 10}) {
		t.Errorf("the list is modified: %v", list)
	}
}

func TestP1WhatIsReadOfFlatsSharesNoMemory(t *testing.T) {
	text := impl.FlatText(threeRooms())
	one, _ := impl.ReadFlat(text)
	two, _ := impl.ReadFlat(text)
	fillFlat(one)
	if !sameFlats(two, threeRooms()) {
		t.Error("what is read shares memory")
	}
}

func TestP1EveryFunctionOfFlatsReturns(t *testing.T) {
	odd := []float32{0, negZero, tiny, -tiny, 1, above(1), -60, 60, 200, 100000, big, -big, inf, -inf, nan, otherNaN}
	counts := []int64{math.MinInt64, -2, -1, 0, 1, 2, 5, 400, math.MaxInt64}
	d := dice(84)
	for range 3000 {
		f := d.flat()
		if d.roll(4) == 0 {
			f = twoRooms()
			*flatFields()[d.roll(20)].at(&f) = d.pick(odd...)
			f = withWallAt(withPaneAt(f, d.roll(2), counts[d.roll(9)], counts[d.roll(9)]), d.roll(2), counts[d.roll(9)], counts[d.roll(9)])
		}
		g := flatArguments{
			d.pick(odd...), d.pick(odd...), d.pick(odd...), d.pick(odd...), d.gainsFor(f, 1000), slices.Clone(f.Heat),
			counts[d.roll(9)], counts[d.roll(9)], counts[d.roll(9)], counts[d.roll(9)], counts[d.roll(9)],
		}
		g.gains[d.roll(len(f.Heat))], g.wants[d.roll(len(f.Heat))] = d.pick(odd...), d.pick(odd...)
		for _, call := range flatCalls() {
			got, code := call.do(f, g)
			if impl.CodeName(code) == "" || code != impl.OK && !sameFlatTold(got, flatTold{}) {
				t.Fatalf("%s(%v, %v): got %v, %d", call.name, f, g, got, code)
			}
			if len(got.flat.Heat) > 0 && !impl.ValidFlat(got.flat) || !isGood(got.number) || !isGood(sumOf(0, got.numbers...)) {
				t.Fatalf("%s(%v, %v): got %v", call.name, f, g, got)
			}
		}
	}
}

// squareOf are so many rows of so many numbers.
func squareOf(count, wide int) [][]float32 {
	rows := make([][]float32, count)
	for i := range rows {
		rows[i] = make([]float32, wide)
		if i < wide {
			rows[i][i] = 1
		}
	}
	return rows
}

func TestP1RangesOfEquationsAreTold(t *testing.T) {
	refuse := func(name string, rows [][]float32, right []float32) {
		t.Helper()
		got, code := impl.SolveHeats(rows, right)
		areNumbers(t, name, got, nil, code, impl.ErrRange)
	}
	refuse("nothing", nil, nil)
	refuse("no row", [][]float32{}, []float32{})
	refuse("no row", nil, []float32{1})
	refuse("nine rows", squareOf(9, 9), make([]float32, 9))
	refuse("many rows", squareOf(900, 900), make([]float32, 900))
	refuse("a million", squareOf(1, 999999), make([]float32, 1))
	for count := 1; count <= 8; count++ {
		for _, wide := range []int{0, count - 1, count + 1, 9, 100000} {
			refuse("rows of another length", squareOf(count, wide), make([]float32, count))
			refuse("right of another length", squareOf(count, count), make([]float32, wide))
			for i := range count {
				rows := squareOf(count, count)
				rows[i] = make([]float32, wide)
				refuse("a row of another length", rows, make([]float32, count))
			}
		}
		refuse("no right", squareOf(count, count), nil)
		for _, bad := range []float32{inf, -inf, nan, otherNaN} {
			for i := range count {
				right := make([]float32, count)
				right[i] = bad
				refuse("right", squareOf(count, count), right)
				rows := squareOf(count, count)
				rows[i][count-1-i] = bad
				refuse("a number", rows, make([]float32, count))
				for k := range rows {
					if k != i {
						clear(rows[k])
					}
				}
				refuse("a number, and a greatest one that is 0", rows, make([]float32, count))
			}
		}
	}
}

func TestP1EquationsMayReachTheirBounds(t *testing.T) {
	for count := 1; count <= 8; count++ {
		got, code := impl.SolveHeats(squareOf(count, count), make([]float32, count))
		areNumbers(t, "zeros", got, make([]float32, count), code, impl.OK)
		rows := squareOf(count, count)
		for i := range rows {
			rows[i][i] = big
		}
		right := make([]float32, count)
		right[count-1] = -big
		want := make([]float32, count)
		want[count-1] = -1
		got, code = impl.SolveHeats(rows, right)
		areNumbers(t, "the greatest numbers", got, want, code, impl.OK)
	}
}

func TestP1SolvingModifiesNothingAndSharesNothing(t *testing.T) {
	d := dice(85)
	for range 300 {
		count := 1 + d.roll(8)
		was, old := make([][]float32, count), make([]float32, count)
		for i := range was {
			was[i], old[i] = make([]float32, count), d.share()
			for k := range was[i] {
				was[i][k] = d.pick(0, d.share(), -d.share())
			}
		}
		rows, right := [][]float32{}, roomyList(old, 7)
		for _, row := range was {
			rows = append(rows, roomyList(row, 6))
		}
		rows = roomyList(rows, []float32{5})
		first := slices.Clone(rows[:cap(rows)])
		one, code := impl.SolveHeats(rows, right)
		two, also := impl.SolveHeats(rows, right)
		areNumbers(t, "the second time", two, one, also, code)
		kept := slices.Clone(two)
		fill(one, 9)
		for i, row := range rows {
			if !sameNumbers(row[:count+3], append(slices.Clone(was[i]), 6, 6, 6)) || &row[0] != &first[i][0] {
				t.Errorf("the row %d is modified", i)
			}
			fill(row, 4)
		}
		if !sameNumbers(right[:count+3], append(slices.Clone(old), 7, 7, 7)) || len(rows[:count+1][count]) != 1 || first[count][0] != 5 {
			t.Error("the right sides or the list of the rows are modified")
		}
		fill(right, 4)
		if !sameNumbers(two, kept) {
			t.Error("the answers share memory")
		}
	}
}

// A row may be the right sides as well, and rows may be one and the same, or parts of one list.
func TestP1EquationsMayShareMemory(t *testing.T) {
	list := []float32{1, 2, 3, 5, 7}
	got, code := impl.SolveHeats([][]float32{list[:3], list[1:4], list[2:5]}, list[2:5])
	want, _ := modelSolve([][]float32{{1, 2, 3}, {2, 3, 5}, {3, 5, 7}}, []float32{3, 5, 7})
	areNumbers(t, "parts of one list", got, want, code, impl.OK)
	got, code = impl.SolveHeats([][]float32{list[:2], list[:2]}, list[:2])
	areNumbers(t, "the same row twice", got, nil, code, impl.ErrState)
	got, code = impl.SolveHeats([][]float32{list[2:3]}, list[2:3])
	areNumbers(t, "a row that is the right side", got, []float32{1}, code, impl.OK)
	if !sameNumbers(list, []float32{1, 2, 3, 5, 7}) {
		t.Errorf("the list is modified: %v", list)
	}
}

func TestP1LongTextsOfFlats(t *testing.T) {
	room := "room 41a00000 41200000\n"
	for _, text := range []string{
		strings.Repeat("0", 1000000), strings.Repeat(" ", 1000000), strings.Repeat("\n", 1000000), strings.Repeat("room\n", 200000),
		strings.Repeat(room, 40000), room + strings.Repeat("pane 0 - 00000000 00000000\n", 37000), room + "pane 0 " + strings.Repeat("9", 900000) + " 00000000 00000000\n",
		room + "wall" + strings.Repeat(" 0", 450000) + "\n", "room" + strings.Repeat(" 41a00000", 110000) + "\n",
	} {
		f, code := impl.ReadFlat(text)
		isFlat(t, text[:20], f, impl.Flat{}, code, impl.ErrSyntax)
	}
}
