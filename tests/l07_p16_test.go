package tests

import (
	"fmt"
	"math"
	"slices"
	"strings"
	"testing"

	"loop.example/g01229/impl"
)

// Promise 16: a plan with the table of values is a certificate just if it has no regret; margins and least stores are
// as told.

// rowOf has each number as often as is told behind it.
func rowOf(pairs ...int64) []int64 {
	var row []int64
	for i := 0; i < len(pairs); i += 2 {
		row = append(row, slices.Repeat(pairs[i:i+1], int(pairs[i+1]))...)
	}
	return row
}

// exampleTable was calculated by hand.
func exampleTable() [][]int64 {
	return [][]int64{rowOf(3, 10, 2, 10, 1, 1), rowOf(7, 10, 2, 10, 0, 1), rowOf(2, 10, 0, 11), rowOf(0, 21)}
}

// narrowSeason has no way from a store of less than 5.
func narrowSeason() impl.Season {
	return impl.Season{Need: []int64{10, 15}, Price: []int64{3, 3}, Most: 1, Yield: 10, Store: 10, First: 6}
}

func narrowTable() [][]int64 {
	return [][]int64{rowOf(-1, 5, 6, 6), rowOf(-1, 5, 3, 6), rowOf(0, 11)}
}

func TestP16TheExample(t *testing.T) {
	plain, lossy := exampleSeason(0), exampleSeason(50)
	plan, cost, code := impl.BestPlan(plain)
	isPlan(t, "the example", plan, []int64{3, 0, 0}, cost, 3, code, impl.OK)
	plan, cost, code = impl.BestPlan(lossy)
	isPlan(t, "the example with a loss", plan, []int64{3, 0, 1}, cost, 5, code, impl.OK)
	margin, code := impl.MarginOf(plain, 0)
	isCount(t, "the margin", margin, 2, code, impl.OK)
	regret, code := impl.RegretOf(plain, []int64{1, 1, 1})
	isCount(t, "the regret", regret, 5, code, impl.OK)
}

func TestP16KnownTables(t *testing.T) {
	for _, c := range []struct {
		name   string
		season impl.Season
		want   [][]int64
	}{
		{"the example", exampleSeason(0), exampleTable()},
		{"the example with another first store", changedSeason(exampleSeason(0), func(s *impl.Season) { s.First = 20 }), exampleTable()},
		{"narrow", narrowSeason(), narrowTable()},
		{"narrow, beginning where there is no way", changedSeason(narrowSeason(), func(s *impl.Season) { s.First = 4 }), narrowTable()},
		{"nothing to keep", evenSeasonKeeping(0, 10, 7), [][]int64{{14}, {7}, {0}}},
		{"nothing needed", evenSeasonKeeping(3, 0, 7), [][]int64{rowOf(0, 4), rowOf(0, 4), rowOf(0, 4)}},
		{"a price of 0", evenSeasonKeeping(3, 10, 0), [][]int64{rowOf(0, 4), rowOf(0, 4), rowOf(0, 4)}},
		{"too much needed", evenSeasonKeeping(2, 13, 7), [][]int64{rowOf(-1, 3), rowOf(-1, 3), rowOf(0, 3)}},
		{"as much as can be kept", evenSeasonKeeping(2, 2, 7), [][]int64{{7, 7, 7}, {7, 7, 0}, {0, 0, 0}}},
		{"one that can be kept", evenSeasonKeeping(1, 1, 7), [][]int64{{7, 7}, {7, 0}, {0, 0}}},
		{"one slot", evenSeason(1, 200, 1000, 20, 10), [][]int64{rowOf(20000, 10, 19000, 10, 18000, 10, 17000, 10, 16000, 10, 15000, 10, 14000, 1), rowOf(0, 61)}},
	} {
		got, code := impl.ValuesOf(c.season)
		isTable(t, c.name, got, c.want, code, impl.OK)
		isFlaw(t, c.name, c.season, got, 0, 0, 0, impl.ErrNotFound)
	}
}

// evenSeasonKeeping has two slots in which one log may be burnt.
func evenSeasonKeeping(store, need, price int64) impl.Season {
	s := evenSeason(2, need, price, 1, 10)
	s.Store = store
	return s
}

func TestP16TablesAreAsTold(t *testing.T) {
	d := dice(711)
	met := counted{}
	for range 1500 {
		s := d.season(8, 20)
		want := modelTable(s)
		got, code := impl.ValuesOf(s)
		isTable(t, fmt.Sprint(s), got, want, code, impl.OK)
		isFlaw(t, fmt.Sprint(s), s, got, 0, 0, 0, impl.ErrNotFound)
		met[fmt.Sprint("way ", want[0][s.First] >= 0)]++
	}
	met.enough(t, 100, "way true", "way false")
	full := fullSeason()
	got, code := impl.ValuesOf(full)
	isTable(t, "full", got, modelTable(full), code, impl.OK)
	// A number is the cost of the season that begins there.
	for _, slot := range []int{0, 1, 12, 23} {
		for _, store := range []int64{0, 1, 30, 59, 60} {
			rest := changedSeason(full, func(s *impl.Season) { s.Need, s.Price, s.First = s.Need[slot:], s.Price[slot:], store })
			plan, cost, code := impl.BestPlan(rest)
			best := modelBest(rest)
			isPlan(t, "the rest", plan, best.plan, cost, best.cost, code, impl.OK)
			if got[slot][store] != cost {
				t.Errorf("slot %d, store %d: got %d, want %d", slot, store, got[slot][store], cost)
			}
		}
	}
}

func TestP16KnownBestPlans(t *testing.T) {
	dear := changedSeason(exampleSeason(0), func(s *impl.Season) { s.Price = []int64{9, 9, 9} })
	for _, c := range []struct {
		name        string
		season      impl.Season
		want        []int64
		cost, count int64
	}{
		{"the example", exampleSeason(0), []int64{3, 0, 0}, 3, 1}, {"with a loss", exampleSeason(50), []int64{3, 0, 1}, 5, 1},
		{"a loss of all", exampleSeason(100), []int64{1, 1, 1}, 8, 1}, {"all prices alike", dear, []int64{1, 1, 1}, 27, 5},
		{"all prices 0", changedSeason(dear, func(s *impl.Season) { s.Price = make([]int64, 3) }), []int64{1, 1, 1}, 0, 42},
		// 10 are in the store at first, and two logs are to be burnt in any two slots, or in one.
		{"a first store", changedSeason(dear, func(s *impl.Season) { s.First = 10 }), []int64{0, 1, 1}, 18, 5},
		{"a full first store", changedSeason(dear, func(s *impl.Season) { s.First = 20 }), []int64{0, 0, 1}, 9, 3},
		{"little to keep", changedSeason(dear, func(s *impl.Season) { s.Store = 10 }), []int64{1, 1, 1}, 27, 4},
		{"nothing to keep", changedSeason(dear, func(s *impl.Season) { s.Store = 9 }), []int64{1, 1, 1}, 27, 1},
		{"dear at first", changedSeason(dear, func(s *impl.Season) { s.Price[0] = 10 }), []int64{1, 1, 1}, 28, 2},
		{"dear at last", changedSeason(dear, func(s *impl.Season) { s.Price[2] = 10 }), []int64{1, 2, 0}, 27, 3},
		{"dear in the middle", changedSeason(dear, func(s *impl.Season) { s.Price[1] = 10 }), []int64{2, 0, 1}, 27, 2},
		{"two dear ones", changedSeason(dear, func(s *impl.Season) { s.Price[1], s.Price[2] = 10, 10 }), []int64{3, 0, 0}, 27, 1},
		{"no price at first", changedSeason(dear, func(s *impl.Season) { s.Price[0] = 0 }), []int64{3, 0, 0}, 0, 1},
		{"no price at first, and nothing needed at last", changedSeason(dear, func(s *impl.Season) { s.Price[0], s.Need[2] = 0, 0 }), []int64{2, 0, 0}, 0, 2},
		{"no price, and nothing needed", evenSeason(2, 0, 0, 3, 1), []int64{0, 0}, 0, 16}, {"a price, and nothing needed", evenSeason(2, 0, 1, 3, 1), []int64{0, 0}, 0, 1},
		{"nothing to burn", evenSeason(24, 0, 5, 0, 1), make([]int64, 24), 0, 1}, {"one slot", evenSeason(1, 200, 1000, 20, 40), []int64{5}, 5000, 1}, {"one slot without a price", evenSeason(1, 200, 0, 20, 40), []int64{5}, 0, 16},
		{"as dear as can be", evenSeason(24, 200, 1000, 20, 10), slices.Repeat([]int64{20}, 24), 480000, 1}, {"narrow", narrowSeason(), []int64{1, 1}, 6, 1},
		// A smaller number ahead is worth more than a much smaller one behind.
		{"the first one differs", impl.Season{Need: []int64{0, 0, 30}, Price: []int64{2, 4, 4}, Most: 3, Yield: 10, Store: 20, Loss: 50}, []int64{0, 0, 3}, 12, 1},
		{"all at last or in between", impl.Season{Need: []int64{0, 0, 30}, Price: []int64{4, 2, 4}, Most: 3, Yield: 10, Store: 20, Loss: 50}, []int64{0, 0, 3}, 12, 2},
	} {
		plan, cost, code := impl.BestPlan(c.season)
		isPlan(t, c.name, plan, c.want, cost, c.cost, code, impl.OK)
		count, code := impl.CountBest(c.season)
		isCount(t, c.name, count, c.count, code, impl.OK)
		regret, code := impl.RegretOf(c.season, plan)
		isCount(t, c.name, regret, 0, code, impl.OK)
		table, _ := impl.ValuesOf(c.season)
		yes, code := impl.IsCertificate(c.season, plan, table)
		isAnswer(t, c.name, yes, true, code, impl.OK)
	}
}

// seasonsWithoutPlans have none, for one reason or another.
func seasonsWithoutPlans() []impl.Season {
	return []impl.Season{
		evenSeason(1, 1, 5, 0, 40), evenSeason(1, 200, 0, 19, 10), evenSeason(24, 200, 1, 20, 9), evenSeason(24, 41, 1, 1, 40), changedSeason(exampleSeason(0), func(s *impl.Season) { s.Need[2] = 51 }),
		changedSeason(exampleSeason(0), func(s *impl.Season) { s.Need[0] = 31 }), changedSeason(exampleSeason(100), func(s *impl.Season) { s.Need[1] = 31 }), changedSeason(exampleSeason(0), func(s *impl.Season) { s.Most = 0 }),
		changedSeason(narrowSeason(), func(s *impl.Season) { s.First = 4 }), changedSeason(exampleSeason(0), func(s *impl.Season) { s.Store, s.Need[2] = 0, 31 }),
	}
}

func TestP16SeasonsWithoutPlans(t *testing.T) {
	for _, s := range seasonsWithoutPlans() {
		name := fmt.Sprint(s)
		plan, cost, code := impl.BestPlan(s)
		isPlan(t, name, plan, nil, cost, 0, code, impl.ErrNotFound)
		count, code := impl.CountBest(s)
		isCount(t, name, count, 0, code, impl.OK)
		regret, code := impl.RegretOf(s, slices.Repeat([]int64{s.Most}, len(s.Need)))
		isCount(t, name, regret, 0, code, impl.ErrState)
		greedy, code := impl.GreedyPlan(s)
		isPlan(t, name, greedy, nil, 0, 0, code, impl.ErrNotFound)
		table, code := impl.ValuesOf(s)
		isTable(t, name, table, modelTable(s), code, impl.OK)
		if table[0][s.First] != impl.NoWay {
			t.Errorf("%s: got the least cost %d", name, table[0][s.First])
		}
	}
}

// All plans of a small season are tried.
func TestP16AllPlansAreTried(t *testing.T) {
	d := dice(712)
	met := counted{}
	for range 500 {
		s := d.smallSeason()
		var first []int64
		least, count := int64(math.MaxInt64), int64(0)
		for _, plan := range allPlans(s) {
			_, cost, code := modelFollow(s, plan)
			switch {
			case code != impl.OK || cost > least:
			case cost < least:
				first, least, count = plan, cost, 1
			default:
				count++
			}
		}
		wantCode := int64(impl.OK)
		if count == 0 {
			least, wantCode = 0, impl.ErrNotFound
		}
		plan, cost, code := impl.BestPlan(s)
		isPlan(t, fmt.Sprint(s), plan, first, cost, least, code, wantCode)
		number, code := impl.CountBest(s)
		isCount(t, fmt.Sprint(s), number, count, code, impl.OK)
		met[fmt.Sprint("best ", min(count, 2))]++
		certificatesAreTold(t, s, least, met)
	}
	met.enough(t, 50, "best 0", "best 1", "best 2")
	met.enough(t, 1000, "certificate", "regret", "does not")
}

// certificatesAreTold looks at all plans of a season, with the table of values.
func certificatesAreTold(t *testing.T, s impl.Season, least int64, met counted) {
	table, _ := impl.ValuesOf(s)
	for _, plan := range allPlans(s) {
		_, cost, wantCode := modelFollow(s, plan)
		want := wantCode == impl.OK && cost == least
		if wantCode != impl.OK {
			cost = least
		}
		yes, code := impl.IsCertificate(s, plan, table)
		regret, also := impl.RegretOf(s, plan)
		if yes != want || code != wantCode || regret != cost-least || also != wantCode {
			t.Fatalf("%v, %v: got %v and the code %d, the regret %d and the code %d", s, plan, yes, code, regret, also)
		}
		switch {
		case want:
			met["certificate"]++
		case wantCode == impl.OK:
			met["regret"]++
		default:
			met["does not"]++
		}
	}
}

func TestP16BestPlansOfLongSeasons(t *testing.T) {
	d := dice(713)
	met := counted{}
	seasons := []impl.Season{fullSeason(), exampleSeason(1), evenSeason(24, 20, 7, 20, 1)}
	for range 250 {
		seasons = append(seasons, d.season(24, 20))
	}
	for _, s := range seasons {
		best := modelBest(s)
		plan, cost, code := impl.BestPlan(s)
		count, also := impl.CountBest(s)
		if best.count == nil {
			isPlan(t, fmt.Sprint(s), plan, nil, cost, 0, code, impl.ErrNotFound)
			isCount(t, fmt.Sprint(s), count, 0, also, impl.OK)
			continue
		}
		isPlan(t, fmt.Sprint(s), plan, best.plan, cost, best.cost, code, impl.OK)
		wantCount := int64(1000000000)
		if best.count.IsInt64() {
			wantCount = min(best.count.Int64(), wantCount)
		}
		isCount(t, fmt.Sprint(s), count, wantCount, also, impl.OK)
		met[fmt.Sprint("several ", wantCount > 1)]++
		met[fmt.Sprint("most ", wantCount == 1000000000)]++
	}
	met.enough(t, 10, "several true", "several false", "most true", "most false")
}

func TestP16KnownCounts(t *testing.T) {
	oneMore := func(s impl.Season) impl.Season {
		s.Need[len(s.Need)-1]++
		return s
	}
	for _, c := range []struct {
		name   string
		season impl.Season
		want   int64
	}{
		{"1", evenSeason(1, 0, 0, 0, 1), 1}, {"21", evenSeason(1, 0, 0, 20, 1), 21}, {"441", evenSeason(2, 0, 0, 20, 1), 441}, {"2 to the power 24", evenSeason(24, 0, 0, 1, 1), 1 << 24}, {"3 to the power 18", evenSeason(18, 0, 0, 2, 1), 387420489},
		{"3 to the power 19 is more", evenSeason(19, 0, 0, 2, 1), 1000000000}, {"just as many", evenSeason(9, 0, 0, 9, 1), 1000000000}, {"one less", oneMore(evenSeason(9, 0, 0, 9, 1)), 999999999}, {"ten times as many", evenSeason(10, 0, 0, 9, 1), 1000000000},
		{"100 times as many", evenSeason(11, 0, 0, 9, 1), 1000000000}, {"one less than ten times as many", oneMore(evenSeason(10, 0, 0, 9, 1)), 1000000000}, {"21 to the power 24", evenSeason(24, 0, 0, 20, 1), 1000000000}, {"20 to the power 7", evenSeason(7, 0, 0, 19, 40), 1000000000}, {"31 times 2 to the power 24", evenSeason(24, 0, 0, 1, 40), 1 << 24},
		{"all of 20 to the power 6", evenSeason(6, 0, 0, 19, 40), 64000000}, {"many, and one cheapest one", evenSeason(24, 0, 1, 20, 1), 1}, {"one less than 2 to the power 24", oneMore(evenSeason(24, 0, 0, 1, 40)), 1<<24 - 1}, {"many in most slots", manyInMost(), 999999999}, {"all but those that do not at first", changedSeason(evenSeason(9, 0, 0, 9, 1), func(s *impl.Season) { s.Need[0] = 1 }), 900000000},
	} {
		got, code := impl.CountBest(c.season)
		isCount(t, c.name, got, c.want, code, impl.OK)
	}
}

// manyInMost has one slot more, in which logs have a price.
func manyInMost() impl.Season {
	s := evenSeason(10, 0, 0, 9, 1)
	s.Need[8], s.Price[9] = 1, 1
	return s
}

func TestP16RegretsAreAsTold(t *testing.T) {
	d := dice(714)
	met := counted{}
	for range 400 {
		s := d.season(10, 6)
		best := modelBest(s)
		table, _ := impl.ValuesOf(s)
		for range 8 {
			plan := d.plan(s)
			_, want, wantCode := modelFollow(s, plan)
			if wantCode == impl.OK {
				want -= best.cost
			}
			regret, code := impl.RegretOf(s, plan)
			isCount(t, fmt.Sprint(s, plan), regret, want, code, wantCode)
			yes, code := impl.IsCertificate(s, plan, table)
			isAnswer(t, fmt.Sprint(s, plan), yes, wantCode == impl.OK && want == 0, code, wantCode)
			met[fmt.Sprint(impl.CodeName(code), " ", yes)]++
		}
	}
	met.enough(t, 300, "ok true", "ok false", "state false")
}

func TestP16PlansThatAreNone(t *testing.T) {
	s, table := exampleSeason(0), exampleTable()
	for _, plan := range wrongPlans() {
		name := fmt.Sprint(plan[:min(len(plan), 24)])
		regret, code := impl.RegretOf(s, plan)
		isCount(t, name, regret, 0, code, impl.ErrRange)
		yes, code := impl.IsCertificate(s, plan, table)
		isAnswer(t, name, yes, false, code, impl.ErrRange)
		yes, code = impl.IsCertificate(s, plan, nil)
		isAnswer(t, name+" and no table", yes, false, code, impl.ErrRange)
	}
	for _, plan := range [][]int64{{0, 0, 0}, {0, 3, 3}, {1, 0, 3}, {2, 0, 0}} {
		regret, code := impl.RegretOf(s, plan)
		isCount(t, fmt.Sprint(plan), regret, 0, code, impl.ErrState)
		for _, any := range [][][]int64{table, nil, tableOf(s, 99)} {
			yes, code := impl.IsCertificate(s, plan, any)
			isAnswer(t, fmt.Sprint(plan), yes, false, code, impl.ErrState)
		}
	}
}

func TestP16KnownCertificates(t *testing.T) {
	s := exampleSeason(0)
	free := changedSeason(s, func(s *impl.Season) { s.Price = []int64{0, 5, 2} })
	low := exampleTable()
	low[0][0] = 2
	other := exampleTable()
	other[0][20], other[1][3], other[2][4] = 0, 1, 0
	high := exampleTable()
	high[0][20] = 2
	for _, c := range []struct {
		name   string
		season impl.Season
		plan   []int64
		table  [][]int64
		want   bool
	}{
		{"the cheapest plan", s, []int64{3, 0, 0}, exampleTable(), true}, {"a dear plan", s, []int64{1, 1, 1}, exampleTable(), false}, {"a plan that is one dearer", s, []int64{2, 0, 1}, exampleTable(), false},
		{"a number that is too low", s, []int64{3, 0, 0}, low, false}, {"other numbers that are too low", s, []int64{3, 0, 0}, other, false}, {"a table that is not sound", s, []int64{3, 0, 0}, high, false},
		{"no table", s, []int64{3, 0, 0}, nil, false}, {"a row too few", s, []int64{3, 0, 0}, exampleTable()[:3], false}, {"a row too many", s, []int64{3, 0, 0}, append(exampleTable(), rowOf(0, 21)), false},
		{"only 0", s, []int64{3, 0, 0}, tableOf(s, 0), false}, {"only 0, without a price", free, []int64{3, 0, 0}, tableOf(free, 0), true}, {"only 0, and a price behind", free, []int64{2, 0, 1}, tableOf(free, 0), false},
		{"only 3", s, []int64{3, 0, 0}, tableOf(s, 3), false}, {"the cost in a table that is not sound", s, []int64{1, 1, 1}, tableOf(s, 8), false}, {"only 3, where it is sound", s, []int64{3, 0, 0}, certifying(3), true},
	} {
		yes, code := impl.IsCertificate(c.season, c.plan, c.table)
		isAnswer(t, c.name, yes, c.want, code, impl.OK)
	}
}

// certifying has other numbers than the table of values, but the same one in the first place.
func certifying(first int64) [][]int64 {
	table := [][]int64{rowOf(0, 21), rowOf(6, 10, 1, 10, 0, 1), rowOf(1, 10, 0, 11), rowOf(0, 21)}
	table[0][0] = first
	return table
}

func TestP16KnownFlaws(t *testing.T) {
	s, n := exampleSeason(0), narrowSeason()
	for _, c := range []struct {
		name              string
		season            impl.Season
		how               func(table [][]int64)
		slot, store, logs int64
		code              int64
	}{
		{"sound", s, func(table [][]int64) {}, 0, 0, 0, impl.ErrNotFound}, {"narrow and sound", n, func(table [][]int64) {}, 0, 0, 0, impl.ErrNotFound},
		// The number of the store 5 may be 8 for one log, 4 for two and 3 for three.
		{"much too great", s, func(table [][]int64) { table[0][5] = 99 }, 0, 5, 1, impl.OK}, {"too great for the first logs", s, func(table [][]int64) { table[0][5] = 9 }, 0, 5, 1, impl.OK}, {"just not for the first logs", s, func(table [][]int64) { table[0][5] = 8 }, 0, 5, 2, impl.OK},
		{"too great for the second logs", s, func(table [][]int64) { table[0][5] = 5 }, 0, 5, 2, impl.OK}, {"just not for the second logs", s, func(table [][]int64) { table[0][5] = 4 }, 0, 5, 3, impl.OK}, {"not too great", s, func(table [][]int64) { table[0][5] = 2 }, 0, 0, 0, impl.ErrNotFound},
		{"without logs", s, func(table [][]int64) { table[0][20] = 3 }, 0, 20, 0, impl.OK}, {"with one log", s, func(table [][]int64) { table[0][20] = 2 }, 0, 20, 1, impl.OK}, {"another store of the same slot", s, func(table [][]int64) { table[0][9], table[0][5] = 99, 99 }, 0, 5, 1, impl.OK},
		{"two slots", s, func(table [][]int64) { table[2][0], table[1][19] = 99, 99 }, 1, 19, 0, impl.OK}, {"a later store of an earlier slot", s, func(table [][]int64) { table[1][0], table[0][20] = 99, 99 }, 0, 20, 0, impl.OK}, {"the last slot", s, func(table [][]int64) { table[2][20] = 1 }, 2, 20, 0, impl.OK}, {"the last slot, with logs", s, func(table [][]int64) { table[2][9] = 3 }, 2, 9, 1, impl.OK},
		{"the next number is too low", s, func(table [][]int64) { table[1][20] = -1 }, 1, 20, 0, impl.OK}, {"lower ahead of lower", s, func(table [][]int64) { table[2][10] = -1 }, 2, 10, 0, impl.OK}, {"the next number is lower", s, func(table [][]int64) { table[2][0] = 1 }, 1, 0, 1, impl.OK}, {"the next number is lower for other logs", s, func(table [][]int64) { table[1][10] = 0 }, 0, 0, 2, impl.OK},
		// No way in place of a number, and a number in place of no way.
		{"no way at first", s, func(table [][]int64) { table[0][0] = -1 }, 0, 0, 1, impl.OK}, {"no way with a store", s, func(table [][]int64) { table[0][10] = -1 }, 0, 10, 0, impl.OK}, {"no way to the next one", s, func(table [][]int64) { table[1][15] = -1 }, 1, 15, 0, impl.OK},
		{"a number from where all leads to no way", n, func(table [][]int64) { table[0][2] = 5 }, 0, 0, 0, impl.ErrNotFound}, {"a great number from where all leads to no way", n, func(table [][]int64) { table[0][2] = math.MaxInt64 }, 0, 0, 0, impl.ErrNotFound},
		{"a number from where nothing does", n, func(table [][]int64) { table[1][2] = 5 }, 0, 2, 1, impl.OK}, {"numbers from where nothing does", n, func(table [][]int64) { table[0][2], table[1][2] = 8, 5 }, 0, 0, 0, impl.ErrNotFound}, {"too great a number where nothing does behind", n, func(table [][]int64) { table[0][2], table[1][2] = 9, 5 }, 0, 2, 1, impl.OK},
		{"no way in place of a number", n, func(table [][]int64) { table[0][7] = -1 }, 0, 7, 1, impl.OK}, {"no way in place of a number, behind", n, func(table [][]int64) { table[1][7] = -1 }, 1, 7, 1, impl.OK}, {"no way in place of both", n, func(table [][]int64) { table[0][7], table[1][7] = -1, -1 }, 1, 7, 1, impl.OK},
		{"narrow and too great", n, func(table [][]int64) { table[0][7] = 7 }, 0, 7, 1, impl.OK}, {"narrow and lower", n, func(table [][]int64) { table[0][7] = 5 }, 0, 0, 0, impl.ErrNotFound}, {"narrow and lower behind", n, func(table [][]int64) { table[1][7] = 2 }, 0, 7, 1, impl.OK}, {"narrow and lower in both", n, func(table [][]int64) { table[0][7], table[1][7] = 5, 2 }, 0, 0, 0, impl.ErrNotFound},
		// Sums that are greater than the greatest number.
		{"the greatest number behind", s, func(table [][]int64) { copy(table[1], rowOf(math.MaxInt64, 21)) }, 1, 0, 1, impl.OK}, {"the greatest number", s, func(table [][]int64) { table[0][0] = math.MaxInt64 }, 0, 0, 1, impl.OK}, {"the greatest numbers where nothing does", n, func(table [][]int64) { table[0][2], table[1][2] = math.MaxInt64, math.MaxInt64 }, 0, 0, 0, impl.ErrNotFound},
		{"the greatest number and no way", n, func(table [][]int64) { table[1][2] = math.MaxInt64 }, 0, 2, 1, impl.OK}, {"the greatest number and one that is as much less as it may be", n, func(table [][]int64) { table[0][2], table[1][2] = math.MaxInt64, math.MaxInt64-3 }, 0, 0, 0, impl.ErrNotFound}, {"the greatest number and one that is too low", n, func(table [][]int64) { table[0][2], table[1][2] = math.MaxInt64, math.MaxInt64-4 }, 0, 2, 1, impl.OK},
	} {
		table := exampleTable()
		if sameSeasons(c.season, n) {
			table = narrowTable()
		}
		c.how(table)
		isFlaw(t, c.name, c.season, table, c.slot, c.store, c.logs, c.code)
	}
}

// Each number of a table is changed in each way that there is.
func TestP16EachNumberOfATable(t *testing.T) {
	met := counted{}
	for _, s := range []impl.Season{exampleSeason(0), exampleSeason(50), exampleSeason(99), narrowSeason(), evenSeasonKeeping(2, 13, 7), evenSeasonKeeping(0, 10, 7), evenSeasonKeeping(2, 0, 0)} {
		last := len(s.Need)
		for slot, row := range modelTable(s) {
			for store, was := range row {
				for _, number := range []int64{was - 1, was + 1, impl.NoWay, 0, 1, math.MaxInt64, math.MaxInt64 - 1, -2, math.MinInt64} {
					table := modelTable(s)
					table[slot][store] = number
					name := fmt.Sprint(s, " with ", number, " at ", slot, ", ", store)
					if number < -1 || slot == last && number != 0 {
						isFlaw(t, name, s, table, 0, 0, 0, impl.ErrRange)
						met["range"]++
						continue
					}
					isFlawAsTold(t, name, s, table, met)
				}
			}
		}
	}
	met.enough(t, 100, "range", "sound", "flaw")
}

// isFlawAsTold takes tables with the right form.
func isFlawAsTold(t *testing.T, name string, s impl.Season, table [][]int64, met counted) {
	t.Helper()
	want := modelFlaw(s, table)
	if want.sound {
		isFlaw(t, name, s, table, 0, 0, 0, impl.ErrNotFound)
		met["sound"]++
	} else {
		isFlaw(t, name, s, table, want.slot, want.store, want.logs, impl.OK)
		met["flaw"]++
	}
}

// lowered is a table that is often sound.
func (d *dice) lowered(table [][]int64) [][]int64 {
	by := d.upTo(3)
	for slot := range table[:len(table)-1] {
		for store, number := range table[slot] {
			if d.roll(3) == 0 && number > 0 {
				table[slot][store] = max(0, number-d.upTo(by))
			}
		}
	}
	if d.roll(2) == 0 {
		slot := d.roll(len(table) - 1)
		table[slot][d.roll(len(table[slot]))] = d.whole(-1, 0, 1, 5, 100, math.MaxInt64, math.MaxInt64-d.upTo(5000))
	}
	return table
}

func TestP16FlawsAreAsTold(t *testing.T) {
	d := dice(715)
	met := counted{}
	for range 3000 {
		s := d.season(6, 5)
		table := modelTable(s)
		if d.roll(10) == 0 {
			table = tableOf(s, d.whole(-1, 0, 1, 1000, math.MaxInt64))
		}
		table = d.lowered(table)
		isFlawAsTold(t, fmt.Sprint(s, table), s, table, met)
		plan, cost, code := impl.BestPlan(s)
		if code != impl.OK {
			continue
		}
		yes, code := impl.IsCertificate(s, plan, table)
		isAnswer(t, fmt.Sprint(s, table), yes, modelFlaw(s, table).sound && table[0][s.First] == cost, code, impl.OK)
		met[fmt.Sprint("certificate ", yes)]++
		// Whatever table there is, a plan with a regret has none.
		other := d.plan(s)
		if regret, code := impl.RegretOf(s, other); code == impl.OK && regret > 0 {
			yes, code := impl.IsCertificate(s, other, table)
			isAnswer(t, fmt.Sprint(s, other, table), yes, false, code, impl.OK)
			met["regret"]++
		}
	}
	met.enough(t, 400, "sound", "flaw", "certificate true", "certificate false", "regret")
}

// tablesOfWrongForm are none for the example.
func tablesOfWrongForm() [][][]int64 {
	zero := rowOf(0, 21)
	tables := [][][]int64{
		nil, {}, {nil}, {zero}, {zero, zero, zero}, {zero, zero, zero, zero, zero}, {nil, nil, nil, nil}, {zero, zero, zero, nil}, {nil, zero, zero, zero}, make([][]int64, 500000), {rowOf(0, 900000)}, {zero, zero, zero, rowOf(0, 900000)},
	}
	for slot := range 4 {
		for _, width := range []int64{0, 1, 20, 22, 61} {
			table := exampleTable()
			table[slot] = rowOf(0, width)
			tables = append(tables, table)
		}
		for _, store := range []int{0, 7, 20} {
			for _, bad := range []int64{-2, -3, -1 << 32, math.MinInt64, math.MinInt64 + 1} {
				table := exampleTable()
				table[slot][store] = bad
				tables = append(tables, table)
			}
		}
	}
	for _, store := range []int{0, 7, 20} {
		for _, bad := range []int64{-1, 1, 2, 1 << 32, math.MaxInt64} {
			table := exampleTable()
			table[3][store] = bad
			tables = append(tables, table)
		}
	}
	return tables
}

func TestP16TablesOfWrongForm(t *testing.T) {
	s := exampleSeason(0)
	for _, table := range tablesOfWrongForm() {
		name := fmt.Sprint(len(table), " rows")
		isFlaw(t, name, s, table, 0, 0, 0, impl.ErrRange)
		yes, code := impl.IsCertificate(s, []int64{3, 0, 0}, table)
		isAnswer(t, name, yes, false, code, impl.OK)
		// The form is told ahead of a flaw.
		if len(table) == 4 && len(table[0]) == 21 && table[0][0] == 3 {
			table[0][0] = 99
			isFlaw(t, name, s, table, 0, 0, 0, impl.ErrRange)
		}
	}
}

func TestP16KnownMargins(t *testing.T) {
	change := func(how func(s *impl.Season)) impl.Season { return changedSeason(exampleSeason(0), how) }
	for _, c := range []struct {
		name       string
		season     impl.Season
		slot       int64
		want, code int64
	}{
		{"the example", exampleSeason(0), 0, 2, impl.OK}, {"the middle slot", exampleSeason(0), 1, 2, impl.OK}, {"the last slot", exampleSeason(0), 2, 2, impl.OK}, {"slot -1", exampleSeason(0), -1, 0, impl.ErrRange}, {"one slot more", exampleSeason(0), 3, 0, impl.ErrRange},
		// What is left over is enough.
		{"nothing becomes dearer", evenSeason(1, 9, 5, 1, 10), 0, 0, impl.OK}, {"a log more", evenSeason(1, 10, 5, 2, 10), 0, 5, impl.OK}, {"no price", evenSeason(1, 10, 0, 2, 10), 0, 0, impl.OK}, {"a store left over", change(func(s *impl.Season) { s.First = 1 }), 0, 0, impl.OK}, {"nothing needed", evenSeason(2, 0, 1000, 1, 1), 1, 1000, impl.OK},
		{"a log from ahead", change(func(s *impl.Season) { s.Most, s.Store = 4, 30 }), 2, 1, impl.OK}, {"the first log of all", evenSeason(24, 0, 7, 20, 40), 23, 7, impl.OK}, {"a store of just as much", changedSeason(evenSeason(1, 59, 7, 0, 1), func(s *impl.Season) { s.First = 60 }), 0, 0, impl.OK},
		{"no plan now", evenSeason(1, 11, 5, 1, 10), 0, 0, impl.ErrNotFound}, {"no plan now, in another slot", change(func(s *impl.Season) { s.Need[2] = 51 }), 0, 0, impl.ErrNotFound}, {"none then", evenSeason(1, 10, 5, 1, 10), 0, 0, impl.ErrState}, {"none then, in a later slot", change(func(s *impl.Season) { s.Need[2] = 50 }), 2, 0, impl.ErrState}, {"none then, because of an earlier slot", change(func(s *impl.Season) { s.Need[1], s.Need[2] = 30, 50 }), 1, 0, impl.ErrState},
		{"more in an earlier slot, and a later one that needs all", change(func(s *impl.Season) { s.Need[2] = 50 }), 0, 5, impl.OK}, {"all is needed", evenSeason(24, 200, 1, 20, 10), 5, 0, impl.ErrRange}, {"nearly all is needed", evenSeason(24, 199, 1, 20, 10), 5, 0, impl.OK}, {"nearly all is needed, and a log more", changedSeason(evenSeason(1, 199, 3, 20, 40), func(s *impl.Season) { s.First = 39 }), 0, 3, impl.OK},
		{"all is needed, and no plan", evenSeason(2, 200, 1, 0, 10), 1, 0, impl.ErrRange}, {"all is needed in another slot", changedSeason(evenSeason(2, 200, 1, 20, 40), func(s *impl.Season) { s.Need[1] = 3 }), 1, 0, impl.OK}, {"a slot that is none, and no plan", evenSeason(2, 150, 1, 0, 10), 2, 0, impl.ErrRange}, {"nearly all, and none then", changedSeason(evenSeason(1, 199, 1, 1, 40), func(s *impl.Season) { s.First = 60 }), 0, 0, impl.ErrNotFound},
		{"one in the store for one needed", changedSeason(evenSeason(3, 0, 9, 0, 1), func(s *impl.Season) { s.First = 1 }), 2, 0, impl.OK}, {"nothing in the store for one needed", evenSeason(3, 0, 9, 0, 1), 2, 0, impl.ErrState}, {"the last of 24 slots", evenSeason(24, 0, 9, 1, 1), 23, 9, impl.OK}, {"behind the last of 24 slots", evenSeason(24, 0, 9, 1, 1), 24, 0, impl.ErrRange},
	} {
		got, code := impl.MarginOf(c.season, c.slot)
		isCount(t, c.name, got, c.want, code, c.code)
	}
	for _, slot := range oddWholes() {
		got, code := impl.MarginOf(exampleSeason(0), slot)
		isCount(t, fmt.Sprint("slot ", slot), got, 0, code, impl.ErrRange)
	}
}

func TestP16MarginsAreAsTold(t *testing.T) {
	d := dice(716)
	met := counted{}
	for range 700 {
		s := d.season(6, 6)
		for slot := range s.Need {
			want, wantCode := modelMargin(s, slot)
			if s.Need[slot] == 200 {
				want, wantCode = 0, impl.ErrRange
			}
			got, code := impl.MarginOf(s, int64(slot))
			isCount(t, fmt.Sprint(s, " slot ", slot), got, want, code, wantCode)
			met[fmt.Sprint(impl.CodeName(code), " ", min(got, 1))]++
		}
	}
	met.enough(t, 50, "ok 0", "ok 1", "notfound 0", "state 0")
}

func TestP16KnownLeastStores(t *testing.T) {
	saving := func(slots int, last, first, loss int64) impl.Season {
		s := evenSeason(slots, 0, 3, 1, 10)
		s.Need[slots-1], s.First, s.Loss = last, first, loss
		return s
	}
	for _, c := range []struct {
		name       string
		season     impl.Season
		want, code int64
	}{
		{"the example", exampleSeason(0), 0, impl.OK}, {"all of the first store", saving(2, 10, 0, 0), 0, impl.OK}, {"one in the store", saving(2, 11, 0, 0), 1, impl.OK}, {"10 in the store", saving(2, 20, 0, 0), 10, impl.OK}, {"11 in the store would be", saving(2, 21, 0, 0), 0, impl.ErrNotFound},
		{"just MaxStore", saving(7, 70, 0, 0), 60, impl.OK}, {"one less than MaxStore", saving(7, 69, 0, 0), 59, impl.OK}, {"one more than MaxStore", saving(8, 71, 0, 0), 0, impl.ErrNotFound}, {"too few slots", saving(6, 70, 0, 0), 0, impl.ErrNotFound}, {"24 slots", saving(24, 70, 0, 0), 60, impl.OK},
		{"the first store is more", saving(2, 20, 12, 0), 12, impl.OK}, {"the first store is just as much", saving(2, 20, 10, 0), 10, impl.OK}, {"the first store is one less", saving(2, 20, 9, 0), 10, impl.OK}, {"the first store is MaxStore", saving(2, 70, 60, 0), 60, impl.OK}, {"the first store is MaxStore, and too little", saving(2, 71, 60, 0), 0, impl.ErrNotFound}, {"the first store helps", saving(2, 65, 45, 0), 55, impl.OK},
		// Half of 10 is lost behind the first slot.
		{"a loss", saving(2, 15, 0, 50), 5, impl.OK}, {"a loss of too much", saving(2, 16, 0, 50), 0, impl.ErrNotFound}, {"a loss of all", saving(2, 10, 3, 100), 3, impl.OK}, {"a loss of all, and one too little", saving(2, 11, 3, 100), 0, impl.ErrNotFound}, {"a loss that is rounded down", saving(2, 18, 0, 29), 8, impl.OK},
		{"nothing to burn", evenSeason(3, 1, 1, 0, 40), 0, impl.ErrNotFound}, {"nothing to burn, and a first store", changedSeason(evenSeason(3, 1, 1, 0, 40), func(s *impl.Season) { s.First = 3 }), 3, impl.OK}, {"nothing to burn, and nothing needed", evenSeason(3, 0, 1, 0, 40), 0, impl.OK}, {"too much at first", evenSeason(1, 200, 1, 4, 40), 0, impl.ErrNotFound},
	} {
		for _, store := range []int64{c.season.First, (c.season.First + 60) / 2, 60} {
			c.season.Store = store
			got, code := impl.LeastStore(c.season)
			isCount(t, c.name, got, c.want, code, c.code)
		}
	}
}

// savingSeason may need more at last than can be burnt then.
func (d *dice) savingSeason() impl.Season {
	s := d.season(6, 4)
	s.First /= d.whole(1, 4, 10)
	last := len(s.Need) - 1
	s.Need[last] = min(200, s.Most*s.Yield+d.upTo(40))
	return s
}

func TestP16LeastStoresAreAsTold(t *testing.T) {
	d := dice(717)
	met := counted{}
	for range 1000 {
		s := d.savingSeason()
		want, wantCode := modelLeastStore(s)
		got, code := impl.LeastStore(s)
		isCount(t, fmt.Sprint(s), got, want, code, wantCode)
		if code != impl.OK {
			met["none"]++
			continue
		}
		met[fmt.Sprint("more than First ", got > s.First)]++
		s.Store = got
		_, _, code = impl.BestPlan(s)
		isCode(t, "with the least store", code, impl.OK)
		if got > s.First {
			s.Store = got - 1
			_, _, code = impl.BestPlan(s)
			isCode(t, "with one less", code, impl.ErrNotFound)
		}
	}
	met.enough(t, 50, "none", "more than First true", "more than First false")
}

const exampleSeasonText = "season 3 10 20 0 0\n10 1\n10 5\n10 2\n"

func isSeasonText(t *testing.T, s impl.Season, want string) {
	t.Helper()
	if got := impl.SeasonText(s); got != want {
		t.Errorf("%v: got the text %q, want %q", s, got, want)
	}
	got, code := impl.ReadSeason(want)
	isSeason(t, fmt.Sprintf("%q", want), got, s, code, impl.OK)
}

func TestP16TextsOfSeasons(t *testing.T) {
	isSeasonText(t, exampleSeason(0), exampleSeasonText)
	isSeasonText(t, exampleSeason(100), "season 3 10 20 0 100\n10 1\n10 5\n10 2\n")
	isSeasonText(t, impl.Season{Need: []int64{0}, Price: []int64{0}, Yield: 1}, "season 0 1 0 0 0\n0 0\n")
	isSeasonText(t, impl.Season{Need: []int64{200, 7}, Price: []int64{1000, 8}, Most: 20, Yield: 40, Store: 60, First: 59, Loss: 99}, "season 20 40 60 59 99\n200 1000\n7 8\n")
	isSeasonText(t, evenSeason(24, 3, 4, 5, 6), "season 5 6 60 0 0\n"+strings.Repeat("3 4\n", 24))
	isSeasonText(t, fullSeason(), modelSeasonText(fullSeason()))
	d := dice(718)
	for range 1000 {
		s := d.season(24, 20)
		isSeasonText(t, s, modelSeasonText(s))
	}
}

func textsOfNoSeasons() []string {
	texts := []string{
		"", "\n", "season", "season\n", "season \n", "10 1\n10 5\n10 2\n", "season 3 10 20 0 0", "season 3 10 20 0 0\n", exampleSeasonText[:len(exampleSeasonText)-1], exampleSeasonText + "\n", "\n" + exampleSeasonText, exampleSeasonText + " ", exampleSeasonText + "season", exampleSeasonText + exampleSeasonText, "season 3 10 20 0 0\n" + exampleSeasonText, "season " + exampleSeasonText, exampleSeasonText[7:], exampleSeasonText[6:], " " + exampleSeasonText,
		"season 5 6 60 0 0\n", "season 5 6 60 0 0\n" + strings.Repeat("3 4\n", 25), "season 5 6 60 0 0\n" + strings.Repeat("3 4\n", 200000), "season 0 0 0 0 0\n0 0\n", "season 21 10 20 0 0\n10 1\n", "season 3 41 20 0 0\n10 1\n", "season 3 10 61 0 0\n10 1\n", "season 3 10 20 21 0\n10 1\n", "season 3 10 20 0 101\n10 1\n",
		"season -1 10 20 0 0\n10 1\n", "season 3 -1 20 0 0\n10 1\n", "season 3 10 -1 0 0\n10 1\n", "season 3 10 20 -1 0\n10 1\n", "season 3 10 20 0 -1\n10 1\n", "season 3 10 20 0 0\n-1 1\n", "season 3 10 20 0 0\n10 -1\n", "season 3 10 20 0 0\n201 1\n", "season 3 10 20 0 0\n10 1001\n",
		"season 3 10 20 0 0\r\n10 1\r\n", "season 3 10 20 0 0\n10 1 10 5\n", "season 3 10 20 0 0 10 1\n10 5\n", "season 3 10 20 0\n0 10 1\n", "season 3 10 20 0 0\n10\n1\n", "season 3 10 20 0 0\n10 1\n10\n", "season 3 10 20 0 0\n10 1\n5\n", "season 3 10 20 0 0\n\n10 1\n", "season 3 10 20 0 0\n10 1\n\n10 5\n",
	}
	for _, other := range []string{"Season 3", "seasons 3", "season03", "season3", "season  3", "season\t3", "season  ", "season x", "season 03", "season +3", "season -3", "season 3.0", "season 0x3", "season 3_", "season 1_0", "season ٣", "season 18446744073709551619", "season 4294967299", "season -0"} {
		texts = append(texts, strings.Replace(exampleSeasonText, "season 3", other, 1))
	}
	for _, other := range []string{"010 5", "10 05", "+10 5", "10 +5", "10  5", " 10 5", "10 5 ", "10 5 0", "10", "10 ", " 5", "", " ", "x 5", "10 x", "10\t5", "10 5x", "-0 5", "10 -0", "0x10 5", "1e1 5", "10,5", "10 5\r", "10 18446744073709551621", "10 4294967301", "99999999999999999999 5", "10 5\x00"} {
		texts = append(texts, strings.Replace(exampleSeasonText, "10 5", other, 1))
	}
	return texts
}

func TestP16TextsThatAreNoSeasons(t *testing.T) {
	for _, text := range textsOfNoSeasons() {
		got, code := impl.ReadSeason(text)
		isSeason(t, fmt.Sprintf("%.60q", text), got, impl.Season{}, code, impl.ErrSyntax)
	}
}

// Each word may be 0 if it is none, so that it matters that another text is refused.
func TestP16WordsThatMayBeZero(t *testing.T) {
	zeros := "season 0 1 0 0 0\n0 0\n0 0\n"
	words := strings.FieldsFunc(zeros, func(r rune) bool { return r == ' ' || r == '\n' })
	for at := range words {
		for _, other := range []string{"", "x", "00", "-0", "+0", "0x0", "0 0", "0\n0", "-", "99999999999999999999", "-99999999999999999999"} {
			var text strings.Builder
			for i, word := range words {
				if i == at {
					word = other
				}
				text.WriteString(word)
				text.WriteString(map[bool]string{true: "\n", false: " "}[i == 5 || i == 7 || i == 9])
			}
			got, code := impl.ReadSeason(text.String())
			isSeason(t, fmt.Sprintf("%q", text.String()), got, impl.Season{}, code, impl.ErrSyntax)
		}
	}
}

func TestP16SpoiledTextsOfSeasons(t *testing.T) {
	d := dice(719)
	met := counted{}
	for range 8000 {
		text := d.spoiled(modelSeasonText(d.smallSeason()))
		if d.roll(3) == 0 {
			text = d.spoiled(text)
		}
		got, code := impl.ReadSeason(text)
		met[impl.CodeName(code)]++
		if code == impl.OK {
			if modelSeasonText(got) != text || !impl.ValidSeason(got) {
				t.Errorf("%q: got %v", text, got)
			}
			continue
		}
		isSeason(t, fmt.Sprintf("%q", text), got, impl.Season{}, code, impl.ErrSyntax)
	}
	met.enough(t, 400, "ok", "syntax")
}
