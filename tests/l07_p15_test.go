package tests

import (
	"fmt"
	"math"
	"slices"
	"testing"

	"loop.example/g01229/impl"
)

// Promise 15: greedy and repaired plans do in each slot.

func TestP15KnownStores(t *testing.T) {
	for _, c := range []struct {
		need, yield, most, loss, store, logs int64
		want, code                           int64
	}{
		// Without a loss: exactly used up, one short, one left.
		{10, 10, 3, 0, 0, 1, 0, impl.OK}, {11, 10, 3, 0, 0, 1, 0, impl.ErrState}, {9, 10, 3, 0, 0, 1, 1, impl.OK}, {10, 10, 3, 0, 0, 0, 0, impl.ErrState}, {10, 10, 3, 0, 10, 0, 0, impl.OK},
		{10, 10, 3, 0, 9, 0, 0, impl.ErrState}, {0, 10, 3, 0, 0, 0, 0, impl.OK}, {1, 10, 3, 0, 0, 0, 0, impl.ErrState}, {1, 1, 1, 0, 0, 1, 0, impl.OK}, {200, 10, 20, 0, 0, 20, 0, impl.OK}, {200, 10, 20, 0, 0, 19, 0, impl.ErrState}, {200, 10, 20, 0, 10, 19, 0, impl.OK},
		{200, 10, 20, 0, 9, 19, 0, impl.ErrState}, {25, 10, 3, 0, 5, 2, 0, impl.OK}, {26, 10, 3, 0, 5, 2, 0, impl.ErrState},
		// Just what can be kept, and one more or less.
		{10, 10, 3, 0, 0, 3, 20, impl.OK}, {9, 10, 3, 0, 0, 3, 20, impl.OK}, {11, 10, 3, 0, 0, 3, 19, impl.OK}, {0, 10, 3, 0, 20, 3, 20, impl.OK}, {0, 10, 3, 0, 20, 0, 20, impl.OK}, {0, 40, 20, 0, 20, 20, 20, impl.OK}, {0, 1, 20, 0, 20, 1, 20, impl.OK}, {0, 1, 20, 0, 19, 1, 20, impl.OK}, {0, 1, 20, 0, 18, 1, 19, impl.OK},
		// The loss is rounded down, and taken before anything runs over.
		{0, 1, 20, 50, 0, 0, 0, impl.OK}, {0, 1, 20, 50, 0, 1, 1, impl.OK}, {0, 1, 20, 50, 0, 2, 1, impl.OK}, {0, 1, 20, 50, 0, 3, 2, impl.OK}, {0, 1, 20, 50, 0, 4, 2, impl.OK}, {0, 1, 20, 50, 0, 5, 3, impl.OK},
		{0, 10, 20, 50, 0, 4, 20, impl.OK}, {1, 10, 20, 50, 0, 4, 20, impl.OK}, {2, 10, 20, 50, 0, 4, 19, impl.OK}, {0, 10, 20, 50, 1, 4, 20, impl.OK}, {0, 10, 20, 50, 0, 5, 20, impl.OK},
		{0, 1, 20, 99, 0, 1, 1, impl.OK}, {0, 1, 20, 99, 0, 2, 1, impl.OK}, {0, 10, 20, 99, 0, 10, 1, impl.OK}, {0, 10, 20, 99, 1, 10, 2, impl.OK}, {0, 10, 20, 99, 0, 20, 2, impl.OK}, {0, 10, 20, 99, 0, 0, 0, impl.OK}, {0, 40, 20, 99, 20, 20, 9, impl.OK},
		{0, 1, 20, 1, 0, 1, 1, impl.OK}, {0, 1, 20, 1, 0, 20, 20, impl.OK}, {79, 10, 10, 1, 0, 10, 20, impl.OK}, {80, 10, 10, 1, 0, 10, 20, impl.OK}, {81, 10, 10, 1, 0, 10, 19, impl.OK},
		{0, 1, 20, 33, 0, 3, 3, impl.OK}, {0, 1, 20, 33, 0, 4, 3, impl.OK}, {0, 1, 20, 33, 0, 10, 7, impl.OK}, {0, 1, 20, 34, 0, 3, 2, impl.OK}, {0, 1, 20, 10, 0, 9, 9, impl.OK}, {0, 1, 20, 10, 0, 10, 9, impl.OK}, {0, 1, 20, 10, 0, 11, 10, impl.OK},
		{0, 1, 20, 100, 0, 0, 0, impl.OK}, {0, 1, 20, 100, 0, 1, 0, impl.OK}, {0, 40, 20, 100, 20, 20, 0, impl.OK}, {20, 40, 20, 100, 20, 0, 0, impl.OK}, {21, 40, 20, 100, 20, 0, 0, impl.ErrState},
	} {
		s := impl.Season{Need: []int64{200, c.need, 0}, Price: []int64{0, 1000, 7}, Most: c.most, Yield: c.yield, Store: 20, First: 3, Loss: c.loss}
		got, code := impl.StoreAfter(s, 1, c.store, c.logs)
		isCount(t, fmt.Sprintf("%v", c), got, c.want, code, c.code)
	}
}

func TestP15EachSlotHasItsOwnNeed(t *testing.T) {
	s := impl.Season{Need: []int64{1, 2, 4}, Price: []int64{0, 0, 0}, Most: 20, Yield: 1, Store: 60, First: 60, Loss: 0}
	for slot, want := range []int64{19, 18, 16} {
		got, code := impl.StoreAfter(s, int64(slot), 10, 10)
		isCount(t, fmt.Sprint("slot ", slot), got, want, code, impl.OK)
	}
	for _, bad := range append(oddWholes(), -1, 3) {
		got, code := impl.StoreAfter(s, bad, 10, 10)
		isCount(t, fmt.Sprint("slot ", bad), got, 0, code, impl.ErrRange)
	}
	full := fullSeason()
	got, code := impl.StoreAfter(full, 23, 60, 20)
	want, _ := modelAfter(full, 23, 60, 20)
	isCount(t, "the last slot of a full season", got, want, code, impl.OK)
	got, code = impl.StoreAfter(full, 24, 60, 20)
	isCount(t, "behind the last slot of a full season", got, 0, code, impl.ErrRange)
}

func TestP15StoresAndLogsAtTheirBounds(t *testing.T) {
	s := exampleSeason(0)
	for _, c := range []struct{ store, logs, want, code int64 }{
		{0, 3, 20, impl.OK}, {20, 0, 10, impl.OK}, {20, 3, 20, impl.OK}, {20, 4, 0, impl.ErrRange}, {21, 3, 0, impl.ErrRange}, {21, 4, 0, impl.ErrRange}, {-1, 3, 0, impl.ErrRange}, {20, -1, 0, impl.ErrRange}, {0, 0, 0, impl.ErrState},
		// What does not is told behind what is out of range.
		{0, -1, 0, impl.ErrRange}, {-1, 0, 0, impl.ErrRange},
	} {
		got, code := impl.StoreAfter(s, 1, c.store, c.logs)
		isCount(t, fmt.Sprint(c), got, c.want, code, c.code)
	}
	for _, bad := range oddWholes() {
		got, code := impl.StoreAfter(s, 1, bad, 3)
		isCount(t, fmt.Sprint("store ", bad), got, 0, code, impl.ErrRange)
		got, code = impl.StoreAfter(s, 1, 5, bad)
		isCount(t, fmt.Sprint("logs ", bad), got, 0, code, impl.ErrRange)
	}
	none := changedSeason(s, func(s *impl.Season) { s.Most, s.Store = 0, 0 })
	got, code := impl.StoreAfter(none, 0, 0, 0)
	isCount(t, "nothing to burn, nothing to keep", got, 0, code, impl.ErrState)
	none.Need[0] = 0
	got, code = impl.StoreAfter(none, 0, 0, 0)
	isCount(t, "nothing to burn, nothing needed", got, 0, code, impl.OK)
}

func TestP15StoresAreAsTold(t *testing.T) {
	d := dice(701)
	for range 60 {
		s := d.season(6, 20)
		for slot := range s.Need {
			for store := range s.Store + 1 {
				for logs := range s.Most + 1 {
					want, do := modelAfter(s, slot, store, logs)
					wantCode := int64(impl.OK)
					if !do {
						wantCode = impl.ErrState
					}
					got, code := impl.StoreAfter(s, int64(slot), store, logs)
					if got != want || code != wantCode {
						t.Fatalf("%v, slot %d, store %d, %d logs: got %d and the code %d, want %d and %d", s, slot, store, logs, got, code, want, wantCode)
					}
				}
			}
		}
	}
}

// Each loss and each heat that there may be.
func TestP15EachLoss(t *testing.T) {
	for loss := range int64(101) {
		for heat := range int64(161) {
			s := impl.Season{Need: []int64{160 - heat}, Price: []int64{1}, Most: 10, Yield: 10, Store: 60, First: 0, Loss: loss}
			got, code := impl.StoreAfter(s, 0, 60, 10)
			want := int64(math.Ceil(float64(heat*(100-loss))/100 - 1e-9))
			isCount(t, fmt.Sprint("loss ", loss, " of ", heat), got, min(want, 60), code, impl.OK)
		}
	}
}

func TestP15TheExample(t *testing.T) {
	for _, loss := range []int64{0, 50} {
		plan, code := impl.GreedyPlan(exampleSeason(loss))
		isPlan(t, "the example", plan, []int64{1, 1, 1}, 0, 0, code, impl.OK)
		cost, code := impl.CostOf(exampleSeason(loss), plan)
		isCount(t, "the example", cost, 8, code, impl.OK)
	}
}

func TestP15KnownPlans(t *testing.T) {
	short := changedSeason(exampleSeason(0), func(s *impl.Season) { s.First = 5 })
	for _, c := range []struct {
		season impl.Season
		plan   []int64
		stores []int64
		cost   int64
		code   int64
	}{
		{exampleSeason(0), []int64{3, 0, 0}, []int64{20, 10, 0}, 3, impl.OK}, {exampleSeason(0), []int64{1, 1, 1}, []int64{0, 0, 0}, 8, impl.OK}, {exampleSeason(0), []int64{3, 3, 3}, []int64{20, 20, 20}, 24, impl.OK},
		{exampleSeason(0), []int64{0, 3, 3}, nil, 0, impl.ErrState}, {exampleSeason(0), []int64{1, 0, 3}, nil, 0, impl.ErrState}, {exampleSeason(0), []int64{2, 0, 0}, nil, 0, impl.ErrState}, {exampleSeason(0), []int64{1, 2, 0}, []int64{0, 10, 0}, 11, impl.OK},
		{exampleSeason(50), []int64{3, 0, 0}, nil, 0, impl.ErrState}, {exampleSeason(50), []int64{3, 0, 1}, []int64{10, 0, 0}, 5, impl.OK}, {exampleSeason(50), []int64{2, 1, 1}, []int64{5, 3, 2}, 9, impl.OK}, {exampleSeason(100), []int64{3, 0, 3}, nil, 0, impl.ErrState},
		{exampleSeason(100), []int64{3, 1, 1}, []int64{0, 0, 0}, 10, impl.OK}, {exampleSeason(1), []int64{3, 0, 1}, []int64{20, 10, 10}, 5, impl.OK}, {exampleSeason(99), []int64{3, 1, 1}, []int64{1, 1, 1}, 10, impl.OK},
		{short, []int64{3, 0, 0}, []int64{20, 10, 0}, 3, impl.OK}, {short, []int64{2, 0, 1}, []int64{15, 5, 5}, 4, impl.OK}, {short, []int64{1, 1, 1}, []int64{5, 5, 5}, 8, impl.OK}, {short, []int64{0, 1, 1}, nil, 0, impl.ErrState},
		{evenSeason(1, 0, 0, 0, 1), []int64{0}, []int64{0}, 0, impl.OK}, {evenSeason(1, 1, 0, 0, 1), []int64{0}, nil, 0, impl.ErrState}, {evenSeason(1, 20, 1000, 20, 1), []int64{20}, []int64{0}, 20000, impl.OK},
		{evenSeason(24, 20, 1000, 20, 1), slices.Repeat([]int64{20}, 24), make([]int64, 24), 480000, impl.OK}, {evenSeason(24, 0, 1000, 0, 40), make([]int64, 24), make([]int64, 24), 0, impl.OK}, {evenSeason(2, 0, 7, 20, 40), []int64{1, 1}, []int64{40, 60}, 14, impl.OK},
	} {
		name := fmt.Sprint(c.season, c.plan)
		stores, code := impl.StoresOf(c.season, c.plan)
		isPlan(t, name, stores, c.stores, 0, 0, code, c.code)
		cost, code := impl.CostOf(c.season, c.plan)
		isCount(t, name, cost, c.cost, code, c.code)
	}
}

func TestP15PlansAreFollowedAsTold(t *testing.T) {
	d := dice(702)
	met := counted{}
	for range 4000 {
		s := d.season(24, 20)
		plan := d.plan(s)
		wantStores, wantCost, wantCode := modelFollow(s, plan)
		name := fmt.Sprint(s, plan)
		stores, code := impl.StoresOf(s, plan)
		isPlan(t, name, stores, wantStores, 0, 0, code, wantCode)
		cost, code := impl.CostOf(s, plan)
		isCount(t, name, cost, wantCost, code, wantCode)
		met[impl.CodeName(code)]++
		store := s.First
		for slot, after := range stores {
			one, code := impl.StoreAfter(s, int64(slot), store, plan[slot])
			isCount(t, name, one, after, code, impl.OK)
			store = after
		}
	}
	met.enough(t, 700, "ok", "state")
}

func TestP15KnownGreedyPlans(t *testing.T) {
	uneven := impl.Season{Need: []int64{25, 0, 9, 30}, Price: []int64{1000, 0, 1, 2}, Most: 3, Yield: 10, Store: 60}
	for _, c := range []struct {
		name   string
		season impl.Season
		want   []int64
		code   int64
	}{
		{"uneven", uneven, []int64{3, 0, 1, 3}, impl.OK},
		{"with a store", changedSeason(uneven, func(s *impl.Season) { s.First = 60 }), []int64{0, 0, 0, 1}, impl.OK},
		{"with a store that is just used up", changedSeason(uneven, func(s *impl.Season) { s.First = 34 }), []int64{0, 0, 0, 3}, impl.OK},
		{"with a store that is one short", changedSeason(uneven, func(s *impl.Season) { s.First = 33 }), []int64{0, 0, 1, 3}, impl.OK},
		{"with 24", changedSeason(uneven, func(s *impl.Season) { s.First = 24 }), []int64{1, 0, 0, 3}, impl.OK},
		{"with 25", changedSeason(uneven, func(s *impl.Season) { s.First = 25 }), []int64{0, 0, 1, 3}, impl.OK},
		{"with a loss of all", changedSeason(uneven, func(s *impl.Season) { s.Loss = 100 }), []int64{3, 0, 1, 3}, impl.OK},
		// 3 is left behind the first slot, then 2, and 2 again.
		{"with a loss of half", changedSeason(uneven, func(s *impl.Season) { s.Loss, s.Need[3] = 50, 32 }), []int64{3, 0, 1, 3}, impl.OK},
		{"with a loss of half, and one too little", changedSeason(uneven, func(s *impl.Season) { s.Loss, s.Need[3] = 50, 33 }), nil, impl.ErrNotFound},
		{"too little at first", changedSeason(uneven, func(s *impl.Season) { s.Need[0] = 31 }), nil, impl.ErrNotFound},
		{"all at first", changedSeason(uneven, func(s *impl.Season) { s.Need[0] = 30 }), []int64{3, 0, 1, 3}, impl.OK},
		{"too little at last", changedSeason(uneven, func(s *impl.Season) { s.Need[3] = 37 }), nil, impl.ErrNotFound},
		{"all at last", changedSeason(uneven, func(s *impl.Season) { s.Need[3] = 36 }), []int64{3, 0, 1, 3}, impl.OK},
		// There would be a plan, but not one that burns as little as does.
		{"greedy where it should not be", evenSeason(2, 0, 1, 1, 10), []int64{0, 0}, impl.OK},
		{"too greedy", changedSeason(evenSeason(2, 0, 1, 1, 10), func(s *impl.Season) { s.Need[1] = 20 }), nil, impl.ErrNotFound},
		{"nothing to burn", evenSeason(3, 0, 5, 0, 10), []int64{0, 0, 0}, impl.OK},
		{"nothing to burn, and a need", evenSeason(3, 1, 5, 0, 10), nil, impl.ErrNotFound},
		{"nothing to burn, and a store", changedSeason(evenSeason(3, 20, 5, 0, 10), func(s *impl.Season) { s.First = 60 }), []int64{0, 0, 0}, impl.OK},
		{"nothing to burn, and too little in the store", changedSeason(evenSeason(3, 20, 5, 0, 10), func(s *impl.Season) { s.First = 59 }), nil, impl.ErrNotFound},
		{"as much as there may be", evenSeason(24, 200, 1000, 20, 10), slices.Repeat([]int64{20}, 24), impl.OK},
		{"more than there may be", changedSeason(evenSeason(24, 200, 1000, 20, 10), func(s *impl.Season) { s.Yield = 9 }), nil, impl.ErrNotFound},
		{"one slot", evenSeason(1, 200, 0, 20, 40), []int64{5}, impl.OK},
	} {
		got, code := impl.GreedyPlan(c.season)
		isPlan(t, c.name, got, c.want, 0, 0, code, c.code)
	}
}

func TestP15GreedyPlansDoInEachSlot(t *testing.T) {
	d := dice(703)
	met := counted{}
	for range 6000 {
		s := d.season(24, 20)
		plan, code := impl.GreedyPlan(s)
		want, _, wantCode := modelRepair(s, nil)
		isPlan(t, fmt.Sprint(s), plan, want, 0, 0, code, wantCode)
		met[impl.CodeName(code)]++
		store := s.First
		for slot, logs := range plan {
			after, code := impl.StoreAfter(s, int64(slot), store, logs)
			isCode(t, "the logs do", code, impl.OK)
			if logs > 0 {
				_, code = impl.StoreAfter(s, int64(slot), store, logs-1)
				isCode(t, "fewer logs do not", code, impl.ErrState)
				met["burns"]++
			}
			store = after
		}
	}
	met.enough(t, 1000, "ok", "notfound", "burns")
}

func TestP15KnownRepairs(t *testing.T) {
	hard := changedSeason(exampleSeason(0), func(s *impl.Season) { s.Need[2] = 35 })
	for _, c := range []struct {
		name          string
		season        impl.Season
		plan, want    []int64
		changes, code int64
	}{
		{"no change", exampleSeason(0), []int64{3, 0, 0}, []int64{3, 0, 0}, 0, impl.OK}, {"no change of what is dear", exampleSeason(0), []int64{3, 3, 3}, []int64{3, 3, 3}, 0, impl.OK}, {"no change of the greedy plan", exampleSeason(0), []int64{1, 1, 1}, []int64{1, 1, 1}, 0, impl.OK},
		{"the first slot", exampleSeason(0), []int64{0, 2, 0}, []int64{1, 2, 0}, 1, impl.OK}, {"a middle slot", exampleSeason(0), []int64{1, 0, 1}, []int64{1, 1, 1}, 1, impl.OK}, {"the last slot", exampleSeason(0), []int64{2, 0, 0}, []int64{2, 0, 1}, 1, impl.OK}, {"the last two", exampleSeason(0), []int64{1, 0, 0}, []int64{1, 1, 1}, 2, impl.OK},
		{"each slot", exampleSeason(0), []int64{0, 0, 0}, []int64{1, 1, 1}, 3, impl.OK}, {"the first and the last one", exampleSeason(0), []int64{0, 1, 0}, []int64{1, 1, 1}, 2, impl.OK}, {"with a loss", exampleSeason(50), []int64{3, 0, 0}, []int64{3, 0, 1}, 1, impl.OK}, {"with a loss of all", exampleSeason(100), []int64{3, 0, 0}, []int64{3, 1, 1}, 2, impl.OK},
		{"with another first store", changedSeason(exampleSeason(0), func(s *impl.Season) { s.First = 10 }), []int64{0, 0, 3}, []int64{0, 1, 3}, 1, impl.OK},
		{"none does in the last slot", hard, []int64{0, 0, 0}, nil, 0, impl.ErrNotFound}, {"what is saved does", hard, []int64{1, 2, 0}, []int64{1, 2, 3}, 1, impl.OK}, {"too little is saved", hard, []int64{0, 1, 3}, nil, 0, impl.ErrNotFound}, {"all is as it should be", hard, []int64{1, 2, 3}, []int64{1, 2, 3}, 0, impl.OK},
		{"just as much", changedSeason(hard, func(s *impl.Season) { s.Need[2] = 40 }), []int64{2, 1, 0}, []int64{2, 1, 3}, 1, impl.OK}, {"one too little", changedSeason(hard, func(s *impl.Season) { s.Need[2] = 41 }), []int64{2, 1, 0}, nil, 0, impl.ErrNotFound},
		{"none does in the first slot", changedSeason(hard, func(s *impl.Season) { s.Need[0] = 31 }), []int64{3, 3, 3}, nil, 0, impl.ErrNotFound}, {"nothing to burn", evenSeason(2, 0, 1, 0, 1), []int64{0, 0}, []int64{0, 0}, 0, impl.OK}, {"nothing to burn, and a need", evenSeason(2, 1, 1, 0, 1), []int64{0, 0}, nil, 0, impl.ErrNotFound},
		{"24 slots", evenSeason(24, 200, 1, 20, 10), make([]int64, 24), slices.Repeat([]int64{20}, 24), 24, impl.OK}, {"one slot", evenSeason(1, 200, 1, 20, 10), []int64{19}, []int64{20}, 1, impl.OK},
	} {
		got, changes, code := impl.RepairPlan(c.season, c.plan)
		isPlan(t, c.name, got, c.want, changes, c.changes, code, c.code)
	}
}

func TestP15RepairedPlansDoInEachSlot(t *testing.T) {
	d := dice(704)
	met := counted{}
	for range 6000 {
		s := d.season(24, 20)
		plan := d.plan(s)
		got, changes, code := impl.RepairPlan(s, plan)
		want, wantChanges, wantCode := modelRepair(s, plan)
		isPlan(t, fmt.Sprint(s, plan), got, want, changes, wantChanges, code, wantCode)
		met[impl.CodeName(code)]++
		if code != impl.OK {
			continue
		}
		_, code = impl.StoresOf(s, got)
		isCode(t, "the repaired plan does", code, impl.OK)
		again, none, code := impl.RepairPlan(s, got)
		isPlan(t, "repaired again", again, got, none, 0, code, impl.OK)
		if _, code = impl.StoresOf(s, plan); (code == impl.OK) != (changes == 0) {
			t.Errorf("%v: %d changes of a plan with the code %d", s, changes, code)
		}
		met[fmt.Sprint("changes ", min(changes, 2))]++
		greedy, code := impl.GreedyPlan(s)
		nothing, _, noCode := impl.RepairPlan(s, make([]int64, len(plan)))
		isPlan(t, "the plan of nothing becomes the greedy one", nothing, greedy, 0, 0, noCode, code)
	}
	met.enough(t, 300, "ok", "notfound", "changes 0", "changes 1", "changes 2")
}

// wrongPlans are none for the example.
func wrongPlans() [][]int64 {
	plans := [][]int64{nil, {}, {3}, {3, 0}, {3, 0, 0, 0}, make([]int64, 24), make([]int64, 1000000)}
	for slot := range 3 {
		for _, bad := range append(oddWholes(), -1, 4) {
			for _, others := range []int64{3, 0} {
				plan := slices.Repeat([]int64{others}, 3)
				plan[slot] = bad
				plans = append(plans, plan)
			}
		}
	}
	return plans
}

func TestP15WrongPlansAreTold(t *testing.T) {
	s := exampleSeason(0)
	for _, plan := range wrongPlans() {
		name := fmt.Sprint(plan[:min(len(plan), 24)])
		stores, code := impl.StoresOf(s, plan)
		isPlan(t, name, stores, nil, 0, 0, code, impl.ErrRange)
		cost, code := impl.CostOf(s, plan)
		isCount(t, name, cost, 0, code, impl.ErrRange)
		repaired, changes, code := impl.RepairPlan(s, plan)
		isPlan(t, name, repaired, nil, changes, 0, code, impl.ErrRange)
	}
}
