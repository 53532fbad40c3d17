package tests

import (
	"fmt"
	"math"
	bignum "math/big"
	"slices"
	"testing"

	"loop.example/g01229/impl"
)

// The model does chapter 7 again: it rounds up what stays where the document rounds down what is lost, goes forward
// from store to store where the cheapest plans are looked for, makes tables smaller until nothing changes, and adds
// numbers of tables as big ones.

func modelAfter(s impl.Season, slot int, store, logs int64) (int64, bool) {
	left := store + s.Yield*logs - s.Need[slot]
	if left < 0 {
		return 0, false
	}
	stays := (left*(100-s.Loss) + 99) / 100
	if stays > s.Store {
		stays = s.Store
	}
	return stays, true
}

// modelFollow returns the stores behind all slots, and the cost.
func modelFollow(s impl.Season, plan []int64) ([]int64, int64, int64) {
	var stores []int64
	store, cost := s.First, int64(0)
	for slot, logs := range plan {
		after, do := modelAfter(s, slot, store, logs)
		if !do {
			return nil, 0, impl.ErrState
		}
		store = after
		stores = append(stores, store)
		cost += logs * s.Price[slot]
	}
	return stores, cost, impl.OK
}

// modelFewest returns -1 if no number of logs does.
func modelFewest(s impl.Season, slot int, store int64) int64 {
	for logs := int64(0); logs <= s.Most; logs++ {
		if store+logs*s.Yield >= s.Need[slot] {
			return logs
		}
	}
	return -1
}

// modelRepair repairs the plan, and makes the greedy one of nil.
func modelRepair(s impl.Season, plan []int64) ([]int64, int64, int64) {
	var repaired []int64
	store, changes := s.First, int64(0)
	for slot := range s.Need {
		logs := modelFewest(s, slot, store)
		if logs < 0 {
			return nil, 0, impl.ErrNotFound
		}
		if plan != nil {
			if _, do := modelAfter(s, slot, store, plan[slot]); do {
				logs = plan[slot]
			} else {
				changes++
			}
		}
		repaired = append(repaired, logs)
		store, _ = modelAfter(s, slot, store, logs)
	}
	return repaired, changes, impl.OK
}

// modelWay tells of all that leads to a store behind some slots what it costs at least, the first one of the cheapest
// plans, and how many these are.
type modelWay struct {
	cost  int64
	plan  []int64
	count *bignum.Int
}

func (m modelWay) with(logs, cost int64) modelWay {
	return modelWay{m.cost + cost, append(slices.Clone(m.plan), logs), new(bignum.Int).Set(m.count)}
}

// joined keeps what is cheaper, or both.
func (m modelWay) joined(other modelWay) modelWay {
	switch {
	case m.count == nil || other.cost < m.cost:
		return other
	case other.cost > m.cost:
		return m
	}
	if slices.Compare(other.plan, m.plan) < 0 {
		m.plan = other.plan
	}
	m.count.Add(m.count, other.count)
	return m
}

// modelBest has no count if there is no plan.
func modelBest(s impl.Season) modelWay {
	leads := map[int64]modelWay{s.First: {count: bignum.NewInt(1)}}
	for slot := range s.Need {
		behind := map[int64]modelWay{}
		for store, lead := range leads {
			for logs := int64(0); logs <= s.Most; logs++ {
				if after, do := modelAfter(s, slot, store, logs); do {
					behind[after] = behind[after].joined(lead.with(logs, logs*s.Price[slot]))
				}
			}
		}
		leads = behind
	}
	var best modelWay
	for _, lead := range leads {
		best = best.joined(lead)
	}
	return best
}

// modelTable makes numbers smaller as long as there is a reason to.
func modelTable(s impl.Season) [][]int64 {
	table := tableOf(s, impl.NoWay)
	table[len(s.Need)] = make([]int64, s.Store+1)
	for changed := true; changed; {
		changed = false
		for slot := range s.Need {
			for store := range table[slot] {
				for logs := int64(0); logs <= s.Most; logs++ {
					after, do := modelAfter(s, slot, int64(store), logs)
					if !do || table[slot+1][after] < 0 {
						continue
					}
					cost := table[slot+1][after] + logs*s.Price[slot]
					if here := &table[slot][store]; *here < 0 || cost < *here {
						*here, changed = cost, true
					}
				}
			}
		}
	}
	return table
}

// flawAt is where a table is not sound.
type flawAt struct {
	slot, store, logs int64
	sound             bool
}

func modelFlaw(s impl.Season, table [][]int64) flawAt {
	for slot := range s.Need {
		for store := range s.Store + 1 {
			for logs := int64(0); logs <= s.Most; logs++ {
				after, do := modelAfter(s, slot, store, logs)
				if !do || table[slot+1][after] == -1 {
					continue
				}
				most := new(bignum.Int).Add(bignum.NewInt(logs*s.Price[slot]), bignum.NewInt(table[slot+1][after]))
				if number := table[slot][store]; number == -1 || bignum.NewInt(number).Cmp(most) > 0 {
					return flawAt{int64(slot), store, logs, false}
				}
			}
		}
	}
	return flawAt{sound: true}
}

// modelMargin does the season again with one more.
func modelMargin(s impl.Season, slot int) (int64, int64) {
	now := modelBest(s)
	if now.count == nil {
		return 0, impl.ErrNotFound
	}
	then := modelBest(changedSeason(s, func(s *impl.Season) { s.Need[slot]++ }))
	if then.count == nil {
		return 0, impl.ErrState
	}
	return then.cost - now.cost, impl.OK
}

func modelLeastStore(s impl.Season) (int64, int64) {
	for s.Store = s.First; s.Store <= 60; s.Store++ {
		if modelBest(s).count != nil {
			return s.Store, impl.OK
		}
	}
	return 0, impl.ErrNotFound
}

func modelSeasonText(s impl.Season) string {
	text := fmt.Sprintf("season %d %d %d %d %d\n", s.Most, s.Yield, s.Store, s.First, s.Loss)
	for slot := range s.Need {
		text += fmt.Sprintf("%d %d\n", s.Need[slot], s.Price[slot])
	}
	return text
}

// allPlans are all lists of numbers of logs, in their order.
func allPlans(s impl.Season) [][]int64 {
	plans := [][]int64{nil}
	for range s.Need {
		var longer [][]int64
		for _, plan := range plans {
			for logs := range s.Most + 1 {
				longer = append(longer, append(slices.Clone(plan), logs))
			}
		}
		plans = longer
	}
	return plans
}

// tableOf has the form of ValuesOf, and the same number in each place but for the last row.
func tableOf(s impl.Season, number int64) [][]int64 {
	var table [][]int64
	for range s.Need {
		table = append(table, slices.Repeat([]int64{number}, int(s.Store)+1))
	}
	return append(table, make([]int64, s.Store+1))
}

func copyTable(table [][]int64) [][]int64 {
	var other [][]int64
	for _, row := range table {
		other = append(other, slices.Clone(row))
	}
	return other
}

func sameTables(a, b [][]int64) bool { return slices.EqualFunc(a, b, slices.Equal[[]int64]) }

func copySeason(s impl.Season) impl.Season {
	s.Need, s.Price = slices.Clone(s.Need), slices.Clone(s.Price)
	return s
}

// changedSeason is another season but for what is changed.
func changedSeason(s impl.Season, how func(s *impl.Season)) impl.Season {
	s = copySeason(s)
	how(&s)
	return s
}

func sameSeasons(s, r impl.Season) bool {
	return slices.Equal(s.Need, r.Need) && slices.Equal(s.Price, r.Price) &&
		[5]int64{s.Most, s.Yield, s.Store, s.First, s.Loss} == [5]int64{r.Most, r.Yield, r.Store, r.First, r.Loss}
}

func isSeason(t *testing.T, name string, got, want impl.Season, code, wantCode int64) {
	t.Helper()
	if !sameSeasons(got, want) || code != wantCode {
		t.Errorf("%s: got the season %v and the code %d, want %v and %d", name, got, code, want, wantCode)
	}
}

func isTable(t *testing.T, name string, got, want [][]int64, code, wantCode int64) {
	t.Helper()
	if !sameTables(got, want) || code != wantCode {
		t.Errorf("%s: got the table %v and the code %d, want %v and %d", name, got, code, want, wantCode)
	}
}

// isPlan checks a plan and the number that is returned with it.
func isPlan(t *testing.T, name string, got, want []int64, number, wantNumber, code, wantCode int64) {
	t.Helper()
	if !slices.Equal(got, want) || number != wantNumber || code != wantCode {
		t.Errorf("%s: got the plan %v with %d and the code %d, want %v with %d and %d", name, got, number, code, want, wantNumber, wantCode)
	}
}

func isFlaw(t *testing.T, name string, s impl.Season, table [][]int64, slot, store, logs, wantCode int64) {
	t.Helper()
	k, i, n, code := impl.FirstFlaw(s, table)
	if [4]int64{k, i, n, code} != [4]int64{slot, store, logs, wantCode} {
		t.Errorf("%s: got the flaw %d, %d, %d and the code %d, want %d, %d, %d and %d", name, k, i, n, code, slot, store, logs, wantCode)
	}
}

func isAnswer(t *testing.T, name string, got, want bool, code, wantCode int64) {
	t.Helper()
	if got != want || code != wantCode {
		t.Errorf("%s: got %v and the code %d, want %v and %d", name, got, code, want, wantCode)
	}
}

// exampleSeason is that of the document.
func exampleSeason(loss int64) impl.Season {
	return impl.Season{Need: []int64{10, 10, 10}, Price: []int64{1, 5, 2}, Most: 3, Yield: 10, Store: 20, Loss: loss}
}

// fullSeason has as many slots, and as much in them, as there may be.
func fullSeason() impl.Season {
	s := impl.Season{Most: 20, Yield: 40, Store: 60, First: 60, Loss: 7}
	for slot := range int64(24) {
		s.Need = append(s.Need, 200-slot*37%101)
		s.Price = append(s.Price, 1000-slot*613%997)
	}
	return s
}

// evenSeason has the same need and the same price in each slot.
func evenSeason(slots int, need, price, most, yield int64) impl.Season {
	return impl.Season{
		Need: slices.Repeat([]int64{need}, slots), Price: slices.Repeat([]int64{price}, slots), Most: most, Yield: yield, Store: 60,
	}
}

// oddWholes are far outside of all bounds, some of them such that a part of their bits is within.
func oddWholes() []int64 {
	return []int64{1 << 32, 1<<32 + 1, -1 << 32, 1 << 31, 1<<63 - 1<<32, math.MinInt64 + 1, math.MinInt64, math.MaxInt64}
}

func (d *dice) whole(list ...int64) int64 { return list[d.roll(len(list))] }

// upTo is a number from 0 to the most.
func (d *dice) upTo(most int64) int64 { return int64(d.roll(int(most) + 1)) }

// season often has a plan, and often several cheapest ones.
func (d *dice) season(slots int, most int64) impl.Season {
	s := impl.Season{
		Most: d.upTo(most), Yield: d.whole(1, 2, 3, 5, 7, 10, 10, 40), Store: d.whole(0, 1, 5, 10, 13, 20, 20, 60),
		Loss: d.whole(0, 0, 0, 1, 10, 33, 50, 67, 99, 100),
	}
	s.First = d.whole(0, s.Store, d.upTo(s.Store), d.upTo(s.Store))
	price, all, saved := d.whole(0, 1, 2, 10, 1000), s.Most*s.Yield, d.whole(0, 0, 0, 15, 30)
	for range 1 + d.roll(slots) {
		s.Need = append(s.Need, min(200, d.whole(0, s.Yield, all, d.upTo(all), d.upTo(all), d.upTo(all), d.upTo(all+s.Store/2), d.upTo(all+saved))))
		s.Price = append(s.Price, d.whole(0, 1, price, d.upTo(price), d.upTo(price)))
	}
	return s
}

// smallSeason has few plans.
func (d *dice) smallSeason() impl.Season { return d.season(5, 3) }

// plan has right numbers; they often do.
func (d *dice) plan(s impl.Season) []int64 {
	plan, store := []int64{}, s.First
	often := d.roll(4)
	for slot := range s.Need {
		logs := d.upTo(s.Most)
		if fewest := modelFewest(s, slot, store); fewest >= 0 && d.roll(4) < often+1 {
			logs = d.whole(fewest, fewest, min(fewest+1, s.Most), max(fewest, logs), max(fewest-d.whole(0, 0, 0, 1), 0))
		}
		plan = append(plan, logs)
		store, _ = modelAfter(s, slot, store, logs)
	}
	return plan
}

// counted counts how often something is met, to tell whether tests have met enough of it.
type counted map[string]int

func (c counted) enough(t *testing.T, least int, names ...string) {
	t.Helper()
	for _, name := range names {
		if c[name] < least {
			t.Errorf("%s: only %d, want %d at least", name, c[name], least)
		}
	}
}
