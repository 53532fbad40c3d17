package tests

import (
	"fmt"
	"math"
	"slices"
	"strings"
	"sync"
	"testing"

	"loop.example/g01229/impl"
)

// Promise 1 of chapter 7: every function returns for all arguments, modifies no argument, and returns equal results
// for equal arguments.

func TestP1SeasonConstants(t *testing.T) {
	limits := []int{impl.MaxSlots, impl.MaxNeed, impl.MaxPrice, impl.MaxFire, impl.MaxStore, impl.MaxYield, impl.NoWay}
	if !slices.Equal(limits, []int{24, 200, 1000, 20, 60, 40, -1}) {
		t.Errorf("got the limits %v", limits)
	}
}

// namedSeason is a season with what is told of it.
type namedSeason struct {
	name   string
	season impl.Season
}

// seasonField is a number of the example, with those that it may be, and those that it may not.
type seasonField struct {
	name      string
	at        func(s *impl.Season) *int64
	good, bad []int64
}

func seasonFields() []seasonField {
	fields := []seasonField{
		{"Most", func(s *impl.Season) *int64 { return &s.Most }, []int64{0, 1, 19, 20}, []int64{-1, 21}},
		{"Yield", func(s *impl.Season) *int64 { return &s.Yield }, []int64{1, 2, 39, 40}, []int64{0, -1, 41}},
		{"Store", func(s *impl.Season) *int64 { return &s.Store }, []int64{0, 1, 59, 60}, []int64{-1, 61}},
		// The Store of the example is 20.
		{"First", func(s *impl.Season) *int64 { return &s.First }, []int64{0, 1, 19, 20}, []int64{-1, 21, 60, 61}},
		{"Loss", func(s *impl.Season) *int64 { return &s.Loss }, []int64{0, 1, 50, 99, 100}, []int64{-1, 101}},
	}
	for slot := range 3 {
		fields = append(fields,
			seasonField{fmt.Sprint("Need ", slot), func(s *impl.Season) *int64 { return &s.Need[slot] }, []int64{0, 1, 199, 200}, []int64{-1, 201}},
			seasonField{fmt.Sprint("Price ", slot), func(s *impl.Season) *int64 { return &s.Price[slot] }, []int64{0, 1, 999, 1000}, []int64{-1, 1001}})
	}
	return fields
}

// withSlots has so many of Need and of Price.
func withSlots(needs, prices int) impl.Season {
	return changedSeason(exampleSeason(0), func(s *impl.Season) {
		s.Need, s.Price = slices.Repeat([]int64{10}, needs), slices.Repeat([]int64{10}, prices)
	})
}

func goodSeasons() []namedSeason {
	list := []namedSeason{
		{"example", exampleSeason(0)}, {"full", fullSeason()}, {"one slot", withSlots(1, 1)}, {"two slots", withSlots(2, 2)}, {"23 slots", withSlots(23, 23)}, {"24 slots", withSlots(24, 24)},
		{"nothing", impl.Season{Need: []int64{0}, Price: []int64{0}, Yield: 1}},
		{"a full first store", changedSeason(exampleSeason(0), func(s *impl.Season) { s.Store, s.First = 60, 60 })},
	}
	for _, field := range seasonFields() {
		for _, number := range field.good {
			list = append(list, namedSeason{fmt.Sprint(field.name, " ", number), changedSeason(exampleSeason(0), func(s *impl.Season) { *field.at(s) = number })})
		}
	}
	return list
}

func badSeasons() []namedSeason {
	list := []namedSeason{
		{"none", impl.Season{}}, {"no slot", withSlots(0, 0)}, {"no lists", changedSeason(exampleSeason(0), func(s *impl.Season) { s.Need, s.Price = nil, nil })}, {"25 slots", withSlots(25, 25)}, {"many slots", withSlots(400000, 400000)},
		{"a need more", withSlots(4, 3)}, {"a price more", withSlots(3, 4)}, {"no price", withSlots(1, 0)}, {"no need", withSlots(0, 1)}, {"no prices", withSlots(24, 0)}, {"one need too many", withSlots(25, 24)}, {"one price too many", withSlots(24, 25)}, {"many needs", withSlots(900000, 3)}, {"many prices", withSlots(3, 900000)},
		{"a first store of more", changedSeason(exampleSeason(0), func(s *impl.Season) { s.Store, s.First = 5, 6 })}, {"a first store, and nothing to keep", changedSeason(exampleSeason(0), func(s *impl.Season) { s.Store, s.First = 0, 1 })}, {"a first store of more than any", changedSeason(exampleSeason(0), func(s *impl.Season) { s.Store, s.First = 60, 61 })},
		{"both stores too great", changedSeason(exampleSeason(0), func(s *impl.Season) { s.Store, s.First = 61, 61 })}, {"both stores too small", changedSeason(exampleSeason(0), func(s *impl.Season) { s.Store, s.First = -1, -1 })},
	}
	for _, field := range seasonFields() {
		for _, number := range append(oddWholes(), field.bad...) {
			list = append(list, namedSeason{fmt.Sprint(field.name, " ", number), changedSeason(exampleSeason(0), func(s *impl.Season) { *field.at(s) = number })})
		}
	}
	return list
}

func TestP1ValidSeason(t *testing.T) {
	for _, c := range goodSeasons() {
		if !impl.ValidSeason(c.season) {
			t.Errorf("%s: the season is valid", c.name)
		}
	}
	for _, c := range badSeasons() {
		if impl.ValidSeason(c.season) {
			t.Errorf("%s: the season is not valid", c.name)
		}
	}
	d := dice(721)
	for range 500 {
		if s := d.season(24, 20); !impl.ValidSeason(s) {
			t.Errorf("a season that is valid: %v", s)
		}
	}
}

// None of these is the same as another one.
func differentSeasons() []impl.Season {
	list := []impl.Season{
		{}, exampleSeason(0), fullSeason(), {Need: []int64{0}}, {Price: []int64{0}}, {Need: []int64{0}, Price: []int64{0}}, {Need: []int64{0, 0}}, {Need: []int64{0, 0}, Price: []int64{0}},
		{Most: 1}, {Yield: 1}, {Store: 1}, {First: 1}, {Loss: 1}, withSlots(4, 3), withSlots(3, 4), withSlots(2, 2),
		changedSeason(exampleSeason(0), func(s *impl.Season) { s.Need, s.Price = s.Price, s.Need }), changedSeason(exampleSeason(0), func(s *impl.Season) { s.Price[0], s.Price[2] = s.Price[2], s.Price[0] }),
	}
	for _, field := range seasonFields() {
		for _, number := range append(oddWholes(), -1, 7) {
			list = append(list, changedSeason(exampleSeason(0), func(s *impl.Season) { *field.at(s) = number }))
		}
	}
	return list
}

func TestP1SameSeason(t *testing.T) {
	again := differentSeasons()
	for i, s := range differentSeasons() {
		for k, r := range again {
			if got := impl.SameSeason(s, r); got != (i == k) {
				t.Errorf("SameSeason(%v, %v): got %v", s, r, got)
			}
		}
	}
	empty := impl.Season{Need: []int64{}, Price: []int64{}}
	if !impl.SameSeason(impl.Season{}, empty) || !impl.SameSeason(empty, impl.Season{}) {
		t.Error("a nil slice and an empty one are equivalent")
	}
	long, other := withSlots(400000, 400000), withSlots(400000, 400000)
	if !impl.SameSeason(long, other) {
		t.Error("long seasons are the same as well")
	}
	other.Price[399999]++
	if impl.SameSeason(long, other) {
		t.Error("their last slots count")
	}
}

// seasonTold is all that a function of chapter 7 returns beside its code.
type seasonTold struct {
	list    []int64
	table   [][]int64
	numbers [3]int64
	yes     bool
}

func sameSeasonTold(a, b seasonTold) bool {
	return slices.Equal(a.list, b.list) && sameTables(a.table, b.table) && a.numbers == b.numbers && a.yes == b.yes
}

// seasonArguments are what a function of chapter 7 takes beside a season.
type seasonArguments struct {
	slot, store, logs int64
	plan              []int64
	table             [][]int64
}

// easySeasonArguments have no error for the example.
func easySeasonArguments() seasonArguments {
	table := exampleTable()
	table[1][0] = 99
	return seasonArguments{2, 20, 3, []int64{2, 0, 1}, table}
}

// worstSeasonArguments have an error for each function that may have one.
func worstSeasonArguments() seasonArguments {
	return seasonArguments{-1, math.MinInt64, math.MaxInt64, []int64{-1, math.MaxInt64}, [][]int64{{math.MinInt64}}}
}

type seasonCall struct {
	name string
	do   func(s impl.Season, g seasonArguments) (seasonTold, int64)
}

// plainSeasonCalls take nothing beside a season.
func plainSeasonCalls() []seasonCall {
	return []seasonCall{
		{"GreedyPlan", func(s impl.Season, g seasonArguments) (seasonTold, int64) {
			plan, code := impl.GreedyPlan(s)
			return seasonTold{list: plan}, code
		}},
		{"ValuesOf", func(s impl.Season, g seasonArguments) (seasonTold, int64) {
			table, code := impl.ValuesOf(s)
			return seasonTold{table: table}, code
		}},
		{"BestPlan", func(s impl.Season, g seasonArguments) (seasonTold, int64) {
			plan, cost, code := impl.BestPlan(s)
			return seasonTold{list: plan, numbers: [3]int64{cost}}, code
		}},
		{"CountBest", func(s impl.Season, g seasonArguments) (seasonTold, int64) {
			count, code := impl.CountBest(s)
			return seasonTold{numbers: [3]int64{count}}, code
		}},
		{"LeastStore", func(s impl.Season, g seasonArguments) (seasonTold, int64) {
			store, code := impl.LeastStore(s)
			return seasonTold{numbers: [3]int64{store}}, code
		}},
	}
}

func seasonCalls() []seasonCall {
	return append(plainSeasonCalls(), []seasonCall{
		{"StoreAfter", func(s impl.Season, g seasonArguments) (seasonTold, int64) {
			store, code := impl.StoreAfter(s, g.slot, g.store, g.logs)
			return seasonTold{numbers: [3]int64{store}}, code
		}},
		{"StoresOf", func(s impl.Season, g seasonArguments) (seasonTold, int64) {
			stores, code := impl.StoresOf(s, g.plan)
			return seasonTold{list: stores}, code
		}},
		{"CostOf", func(s impl.Season, g seasonArguments) (seasonTold, int64) {
			cost, code := impl.CostOf(s, g.plan)
			return seasonTold{numbers: [3]int64{cost}}, code
		}},
		{"RepairPlan", func(s impl.Season, g seasonArguments) (seasonTold, int64) {
			plan, changes, code := impl.RepairPlan(s, g.plan)
			return seasonTold{list: plan, numbers: [3]int64{changes}}, code
		}},
		{"RegretOf", func(s impl.Season, g seasonArguments) (seasonTold, int64) {
			regret, code := impl.RegretOf(s, g.plan)
			return seasonTold{numbers: [3]int64{regret}}, code
		}},
		{"FirstFlaw", func(s impl.Season, g seasonArguments) (seasonTold, int64) {
			slot, store, logs, code := impl.FirstFlaw(s, g.table)
			return seasonTold{numbers: [3]int64{slot, store, logs}}, code
		}},
		{"IsCertificate", func(s impl.Season, g seasonArguments) (seasonTold, int64) {
			yes, code := impl.IsCertificate(s, g.plan, g.table)
			return seasonTold{yes: yes}, code
		}},
		{"MarginOf", func(s impl.Season, g seasonArguments) (seasonTold, int64) {
			margin, code := impl.MarginOf(s, g.slot)
			return seasonTold{numbers: [3]int64{margin}}, code
		}},
	}...)
}

// seasonsAreRefused checks that the named functions have the code, and zero values in all other results, and that
// others are OK.
func seasonsAreRefused(t *testing.T, why, names string, s impl.Season, g seasonArguments, want int64) {
	t.Helper()
	for _, call := range seasonCalls() {
		got, code := call.do(s, g)
		if named := slices.Contains(strings.Fields(names), call.name); named && (code != want || !sameSeasonTold(got, seasonTold{})) {
			t.Errorf("%s: %s: got %v and the code %d, want %d", why, call.name, got, code, want)
		} else if !named && code != impl.OK {
			t.Errorf("%s: %s: got the code %d", why, call.name, code)
		}
	}
}

const (
	allOfSeasons = "GreedyPlan ValuesOf BestPlan CountBest LeastStore StoreAfter StoresOf CostOf RepairPlan RegretOf FirstFlaw IsCertificate MarginOf"
	withPlans    = "StoresOf CostOf RepairPlan RegretOf IsCertificate"
)

func TestP1InvalidSeasonsAreToldFirst(t *testing.T) {
	for _, c := range badSeasons() {
		for _, g := range []seasonArguments{easySeasonArguments(), worstSeasonArguments(), {}} {
			seasonsAreRefused(t, c.name, allOfSeasons, c.season, g, impl.ErrInvalid)
		}
		if text := impl.SeasonText(c.season); text != "" {
			t.Errorf("%s: got the text %q", c.name, text)
		}
	}
}

func TestP1ValidSeasonsAreTaken(t *testing.T) {
	seasonsAreRefused(t, "the example", "", exampleSeason(0), easySeasonArguments(), impl.OK)
	for _, c := range goodSeasons() {
		for _, call := range seasonCalls() {
			for _, g := range []seasonArguments{easySeasonArguments(), worstSeasonArguments(), {}} {
				if _, code := call.do(c.season, g); code == impl.ErrInvalid {
					t.Errorf("%s: %s: got the code %d", c.name, call.name, code)
				}
			}
		}
		if impl.SeasonText(c.season) == "" {
			t.Errorf("%s: there is no text", c.name)
		}
	}
}

func TestP1ArgumentsOfSeasonsAreTold(t *testing.T) {
	check := func(names string, how func(g *seasonArguments)) {
		t.Helper()
		g := easySeasonArguments()
		how(&g)
		seasonsAreRefused(t, "range", names, exampleSeason(0), g, impl.ErrRange)
	}
	for _, bad := range append(oddWholes(), -1) {
		check("StoreAfter MarginOf", func(g *seasonArguments) { g.slot = bad })
		check("StoreAfter", func(g *seasonArguments) { g.store = bad })
		check("StoreAfter", func(g *seasonArguments) { g.logs = bad })
	}
	check("StoreAfter MarginOf", func(g *seasonArguments) { g.slot = 3 })
	check("StoreAfter", func(g *seasonArguments) { g.store = 21 })
	check("StoreAfter", func(g *seasonArguments) { g.logs = 4 })
	for _, plan := range wrongPlans() {
		check(withPlans, func(g *seasonArguments) { g.plan = plan })
	}
	for _, table := range tablesOfWrongForm() {
		check("FirstFlaw", func(g *seasonArguments) { g.table = table })
	}
}

func TestP1ArgumentsOfSeasonsMayReachTheirBounds(t *testing.T) {
	check := func(how func(g *seasonArguments)) {
		t.Helper()
		g := easySeasonArguments()
		how(&g)
		seasonsAreRefused(t, "at a bound", "", exampleSeason(0), g, impl.OK)
	}
	for slot := range int64(3) {
		check(func(g *seasonArguments) { g.slot = slot })
	}
	check(func(g *seasonArguments) { g.store = 0 })
	check(func(g *seasonArguments) { g.logs = 0 })
	check(func(g *seasonArguments) { g.store, g.logs = 0, 1 })
	check(func(g *seasonArguments) { g.plan = []int64{3, 0, 0} })
	check(func(g *seasonArguments) { g.plan = []int64{3, 3, 3} })
	check(func(g *seasonArguments) { g.table[0][0] = math.MaxInt64 })
	check(func(g *seasonArguments) { g.table[0][0] = impl.NoWay })
}

// Errors are told in the order in which the document lists them.
func TestP1ErrorsOfSeasonsComeInOrder(t *testing.T) {
	s := exampleSeason(0)
	late := []int64{0, 0, 4}
	seasonsAreRefused(t, "a wrong number, ahead of one that does not", withPlans, s, seasonArguments{2, 20, 3, late, easySeasonArguments().table}, impl.ErrRange)
	got, code := impl.StoreAfter(s, 1, 0, 4)
	isCount(t, "too many logs", got, 0, code, impl.ErrRange)
	got, code = impl.StoreAfter(s, 3, 0, 0)
	isCount(t, "no such slot, and nothing that does", got, 0, code, impl.ErrRange)
	none := changedSeason(s, func(s *impl.Season) { s.Need = []int64{31, 200, 10} })
	plan, changes, code := impl.RepairPlan(none, late)
	isPlan(t, "a wrong number, ahead of none that does", plan, nil, changes, 0, code, impl.ErrRange)
	got, code = impl.MarginOf(none, 1)
	isCount(t, "all is needed, ahead of no plan", got, 0, code, impl.ErrRange)
	got, code = impl.MarginOf(none, 3)
	isCount(t, "no such slot, ahead of no plan", got, 0, code, impl.ErrRange)
	got, code = impl.MarginOf(none, 0)
	isCount(t, "no plan now, ahead of none then", got, 0, code, impl.ErrNotFound)
	table := exampleTable()
	table[0][0], table[3][20] = 99, 1
	isFlaw(t, "another last row, ahead of a flaw", s, table, 0, 0, 0, impl.ErrRange)
	table = exampleTable()
	table[0][0], table[2][20] = 99, -2
	isFlaw(t, "a number below, ahead of a flaw", s, table, 0, 0, 0, impl.ErrRange)
	// What a table has wrong is no error of IsCertificate; what a plan has wrong is one, whatever the table is.
	for _, any := range [][][]int64{nil, table, exampleTable(), tableOf(s, 99)} {
		yes, code := impl.IsCertificate(s, []int64{3, 0, 0}, any)
		isAnswer(t, "a right plan", yes, sameTables(any, exampleTable()), code, impl.OK)
		yes, code = impl.IsCertificate(s, late, any)
		isAnswer(t, "a wrong number", yes, false, code, impl.ErrRange)
		yes, code = impl.IsCertificate(s, []int64{0, 0, 0}, any)
		isAnswer(t, "logs that do not", yes, false, code, impl.ErrState)
	}
}

func roomySeason(s impl.Season) impl.Season {
	s.Need, s.Price = roomyList(s.Need, 77), roomyList(s.Price, 78)
	return s
}

// wholeSeason has the room behind the ends as well, if it was made by roomySeason.
func wholeSeason(s impl.Season) impl.Season {
	s.Need, s.Price = s.Need[:len(s.Need)+3], s.Price[:len(s.Price)+3]
	return s
}

func roomySeasonArguments(g seasonArguments) seasonArguments {
	g.plan, g.table = roomyList(g.plan, 79), roomyList(g.table, []int64{80})
	for i, row := range g.table {
		g.table[i] = roomyList(row, 81)
	}
	return g
}

func wholeSeasonArguments(g seasonArguments) seasonArguments {
	g.plan, g.table = g.plan[:len(g.plan)+3], slices.Clone(g.table[:len(g.table)+3])
	for i, row := range g.table[:len(g.table)-3] {
		g.table[i] = row[:len(row)+3]
	}
	return g
}

func sameSeasonArguments(a, b seasonArguments) bool {
	return slices.Equal(a.plan, b.plan) && sameTables(a.table, b.table)
}

func (told seasonTold) scribble() {
	fill(told.list, 82)
	for _, row := range told.table {
		fill(row, 83)
	}
	fill(told.table, []int64{84})
}

func (told seasonTold) kept() seasonTold {
	told.list, told.table = slices.Clone(told.list), copyTable(told.table)
	return told
}

// seasonsToTry are valid ones, and some that are not.
func seasonsToTry() []impl.Season {
	list := []impl.Season{{}, exampleSeason(0), exampleSeason(50), narrowSeason(), fullSeason(), withSlots(25, 25), withSlots(2, 3), evenSeason(24, 200, 1, 20, 9)}
	d := dice(722)
	for range 60 {
		list = append(list, d.season(24, 20))
	}
	return list
}

func TestP1SeasonsModifyNothingAndShareNothing(t *testing.T) {
	d := dice(723)
	for _, s := range seasonsToTry() {
		g := seasonArguments{slot: int64(d.roll(len(s.Need) + 1)), store: s.First, logs: s.Most, plan: d.plan(changedSeason(s, func(s *impl.Season) { s.Most = max(s.Most, 0) }))}
		if impl.ValidSeason(s) {
			g.table = modelTable(s)
		}
		roomy, wide := roomySeason(s), roomySeasonArguments(g)
		isUntouched := func() bool {
			return sameSeasons(wholeSeason(roomy), wholeSeason(roomySeason(s))) &&
				sameSeasonArguments(wholeSeasonArguments(wide), wholeSeasonArguments(roomySeasonArguments(g)))
		}
		for _, call := range seasonCalls() {
			one, code := call.do(roomy, wide)
			two, also := call.do(roomy, wide)
			if !isUntouched() {
				t.Errorf("%s modifies its arguments", call.name)
			}
			if code != also || !sameSeasonTold(one, two) {
				t.Errorf("%s has other results the second time", call.name)
			}
			kept := two.kept()
			one.scribble()
			if !sameSeasonTold(two, kept) || !isUntouched() {
				t.Errorf("%s: a result shares memory", call.name)
			}
		}
		valid, same, text := impl.ValidSeason(roomy), impl.SameSeason(roomy, s), impl.SeasonText(roomy)
		if valid != impl.ValidSeason(s) || !same || text != impl.SeasonText(s) || !isUntouched() {
			t.Errorf("got %v, %v and %q", valid, same, text)
		}
	}
}

// Rows have no memory in common, nor has what may be added to them.
func TestP1RowsShareNothing(t *testing.T) {
	for _, s := range []impl.Season{exampleSeason(0), narrowSeason(), fullSeason(), evenSeasonKeeping(0, 10, 7), evenSeason(1, 10, 1, 5, 5)} {
		want := modelTable(s)
		for slot := range want {
			table, code := impl.ValuesOf(s)
			fill(table[slot], 77)
			_ = append(table[slot], 78, 79, 80)
			if len(table[slot]) != len(want[slot]) {
				t.Errorf("row %d has %d numbers", slot, len(table[slot]))
			}
			table[slot] = want[slot]
			isTable(t, fmt.Sprint("row ", slot), table, want, code, impl.OK)
		}
		table, _ := impl.ValuesOf(s)
		var parts []string
		for _, row := range table {
			parts = append(parts, fmt.Sprintf("%p", row))
		}
		slices.Sort(parts)
		if len(slices.Compact(parts)) != len(want) {
			t.Error("two rows are the same memory")
		}
	}
}

func TestP1ListsOfASeasonShareNothing(t *testing.T) {
	text := modelSeasonText(evenSeason(7, 5, 5, 5, 5))
	one, _ := impl.ReadSeason(text)
	two, code := impl.ReadSeason(text)
	fill(one.Need, 77)
	if slices.Contains(one.Price, 77) {
		t.Error("both lists are the same memory")
	}
	fill(one.Price, 78)
	isSeason(t, "read twice", two, evenSeason(7, 5, 5, 5, 5), code, impl.OK)
}

// Lists that are given may be the same memory.
func TestP1ListsThatAreGivenMayBeTheSame(t *testing.T) {
	list := []int64{3, 1, 2}
	s := impl.Season{Need: list, Price: list, Most: 3, Yield: 2, Store: 2, First: 1}
	row := []int64{0, 0, 0}
	table := [][]int64{row, list, row, row}
	apart := impl.Season{Need: []int64{3, 1, 2}, Price: []int64{3, 1, 2}, Most: 3, Yield: 2, Store: 2, First: 1}
	tableApart := [][]int64{{0, 0, 0}, {3, 1, 2}, {0, 0, 0}, {0, 0, 0}}
	for slot := range int64(3) {
		for _, call := range seasonCalls() {
			got, code := call.do(s, seasonArguments{slot, 1, 2, list, table})
			want, wantCode := call.do(apart, seasonArguments{slot, 1, 2, []int64{3, 1, 2}, tableApart})
			if code != wantCode || !sameSeasonTold(got, want) {
				t.Errorf("%s: got %v and the code %d, want %v and %d", call.name, got, code, want, wantCode)
			}
			got.scribble()
			if !slices.Equal(list, []int64{3, 1, 2}) || !slices.Equal(row, []int64{0, 0, 0}) {
				t.Fatalf("%s: the lists became %v and %v", call.name, list, row)
			}
		}
	}
}

func TestP1EveryFunctionOfSeasonsReturns(t *testing.T) {
	d := dice(724)
	odd := append(oddWholes(), -2, -1, 0, 1, 2, 20, 21, 24, 60, 61, 100, 200, 1000)
	for range 1500 {
		s := d.season(26, 20)
		if fields := seasonFields()[:5]; d.roll(3) == 0 {
			*fields[d.roll(5)].at(&s) = d.whole(odd...)
		}
		if d.roll(6) == 0 {
			s.Need[d.roll(len(s.Need))] = d.whole(odd...)
			s.Price[d.roll(len(s.Price))] = d.whole(odd...)
		}
		g := seasonArguments{slot: d.whole(odd...), store: d.whole(odd...), logs: d.whole(odd...)}
		for range d.whole(int64(len(s.Need)), int64(len(s.Need)), 0, 30) {
			g.plan = append(g.plan, d.whole(0, 1, 2, 3, d.whole(odd...)))
		}
		for range d.whole(int64(len(s.Need)+1), int64(len(s.Need)+1), 0, 3) {
			g.table = append(g.table, slices.Repeat([]int64{d.whole(odd...)}, int(d.whole(min(max(s.Store+1, 0), 99), 3))))
		}
		for _, call := range seasonCalls() {
			got, code := call.do(s, g)
			if impl.CodeName(code) == "" || code != impl.OK && !sameSeasonTold(got, seasonTold{}) {
				t.Fatalf("%s(%v, %v): got %v, %d", call.name, s, g, got, code)
			}
		}
		valid := impl.ValidSeason(s)
		if text := impl.SeasonText(s); (text == "") == valid || !impl.SameSeason(s, s) {
			t.Errorf("%v: got the text %q", s, text)
		}
	}
}

// Results do not depend on what the goroutines of other calls do.
func TestP1SeasonsAreTheSameAtTheSameTime(t *testing.T) {
	g := easySeasonArguments()
	var group sync.WaitGroup
	for _, loss := range []int64{0, 1, 33, 50, 99, 100} {
		for range 4 {
			group.Go(func() {
				s := exampleSeason(loss)
				for _, call := range seasonCalls() {
					first, code := call.do(s, g)
					for range 40 {
						again, also := call.do(s, g)
						if code != also || !sameSeasonTold(first, again) {
							t.Errorf("%s has other results", call.name)
						}
					}
				}
			})
		}
	}
	group.Wait()
}

func TestP1AnyTextsOfSeasons(t *testing.T) {
	d := dice(725)
	odd := "season 0123456789-+\n\n\n   \x00\xff"
	for range 4000 {
		bytes := make([]byte, d.roll(40))
		for i := range bytes {
			bytes[i] = odd[d.roll(len(odd))]
		}
		got, code := impl.ReadSeason(string(bytes))
		isSeason(t, fmt.Sprintf("%q", bytes), got, impl.Season{}, code, impl.ErrSyntax)
	}
	for _, piece := range []string{"season", "season ", " ", "\n", "0", "1 ", "1\n", "1 1\n", "season 1 1 1 1 1\n", "-", "\x00", "é"} {
		for _, start := range []string{"", exampleSeasonText, "season "} {
			text := start + strings.Repeat(piece, 900000/len(piece))
			got, code := impl.ReadSeason(text)
			isSeason(t, piece, got, impl.Season{}, code, impl.ErrSyntax)
		}
	}
}
