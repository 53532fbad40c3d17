package tests

import (
	"fmt"
	"slices"
	"testing"

	"loop.example/g01229/impl"
)

// Promise 17, of all chapters: journals are replayed to the same house; answers lie in proved spans, as long as no
// number on the stack is NaN; the cheapest plan is certified.

// isReplayed checks that a journal leads to a house, at once, in parts, and from texts.
func isReplayed(t *testing.T, name string, h impl.House, journal []impl.Entry, want impl.House) {
	t.Helper()
	count := int64(len(journal))
	got, done, code := impl.ReplayJournal(h, journal)
	isHouseAt(t, name, got, want, done, count, code, impl.OK)
	for i, e := range journal {
		if !e.Mark {
			continue
		}
		upTo, done, code := impl.ReplayJournal(h, journal[:i+1])
		isCode(t, name, code, impl.OK)
		check, _ := impl.CheckOf(upTo)
		isCount(t, name+": the mark", int64(check), int64(e.Check), done, int64(i+1))
		behind, _, code := impl.ReplayJournal(upTo, journal[i+1:])
		isHouse(t, name+": behind the mark", behind, want, code, impl.OK)
	}
	read, code := impl.ReadHouse(impl.HouseText(h))
	isCode(t, name, code, impl.OK)
	lines, code := impl.ReadJournal(impl.JournalText(journal))
	isJournal(t, name, lines, journal, code, impl.OK)
	got, done, code = impl.ReplayJournal(read, lines)
	isHouseAt(t, name+": from texts", got, withEndedSources(want), done, count, code, impl.OK)
}

func TestP17JournalsAreReplayed(t *testing.T) {
	d := dice(731)
	entries := 0
	for range 120 {
		h := d.house()
		acts, want := d.doableActs(h, d.roll(14))
		journal, after, code := impl.KeepJournal(h, acts, 1+d.upTo(6))
		isHouse(t, "kept", after, want, code, impl.OK)
		isReplayed(t, fmt.Sprint(acts), h, journal, after)
		done, _, code := impl.DoActs(h, acts)
		isHouse(t, "done", done, after, code, impl.OK)
		entries += len(journal)
	}
	if entries < 500 {
		t.Errorf("only %d entries", entries)
	}
}

func TestP17OtherHousesAndMarksAreRefused(t *testing.T) {
	d := dice(732)
	refused := 0
	for range 60 {
		h := d.house()
		h.Tick %= 1000
		acts, _ := d.doableActs(h, 1+d.roll(6))
		journal, _, code := impl.KeepJournal(h, acts, 2)
		isCode(t, "kept", code, impl.OK)
		first := int64(slices.IndexFunc(journal, func(e impl.Entry) bool { return e.Mark }))
		other := copyHouse(h)
		other.Tick++
		isReplayedTo(t, "another house", other, journal, first, impl.ErrProof)
		last, _ := impl.LastMark(journal)
		journal[last].Check++
		isReplayedTo(t, "another mark", h, journal, last, impl.ErrProof)
		refused++
	}
	if refused < 60 {
		t.Errorf("only %d were refused", refused)
	}
}

// seenSpans are what a brain may see in a winter.
func seenSpans() [4]impl.Span {
	return [4]impl.Span{{Low: -60, High: 200}, {Low: -60, High: 1500}, {Low: -60, High: 60}, {Low: 0, High: 95}}
}

func TestP17AnswersLieInProvedSpans(t *testing.T) {
	d := dice(733)
	met := counted{}
	for range 2500 {
		p := programOf(t, d.goodSource())
		inputs := seenSpans()
		for i := range inputs {
			switch d.roll(6) {
			case 0, 1:
				inputs[i] = d.smallSpan()
			case 2:
				inputs[i] = d.finiteSpan()
			}
		}
		spans, code := impl.ProveProgram(p, inputs)
		isCode(t, "proved", code, impl.OK)
		for range 10 {
			var given [4]float32
			for i, s := range inputs {
				given[i] = d.inside(s)
			}
			values, code := impl.RunProgram(p, given)
			isCode(t, "run", code, impl.OK)
			if _, isNaN := modelRun(p, given); isNaN {
				met["NaN"]++
				continue
			}
			for i, a := range values {
				proved, code := impl.IsProved(p, inputs, p.Names[i], spans[i])
				isAnswer(t, "within its own span", proved, true, code, impl.OK)
				if met["values"]++; !impl.InSpan(spans[i], a) {
					t.Fatalf("%q with %v: the value %v of %s does not lie in %v", impl.ProgramText(p), given, a, p.Names[i], spans[i])
				}
			}
		}
	}
	met.enough(t, 15000, "values")
	met.enough(t, 1, "NaN")
}

// What the brains of a house want, from tick to tick, lies in what is proved of their programs.
func TestP17BrainsLieInProvedSpans(t *testing.T) {
	d := dice(734)
	met := counted{}
	for range 150 {
		h := d.house()
		for range 6 {
			for i, e := range h.Hearths {
				if e.Brain < 0 {
					continue
				}
				p := programOf(t, h.Sources[e.Brain])
				damper, flue, code := impl.BrainOf(h, int64(i))
				isCode(t, "a brain", code, impl.OK)
				wantIsProved(t, p, "damper", damper, e.Stove.Damper, met)
				wantIsProved(t, p, "flue", flue, h.Chimney[e.Flue].Damper, met)
			}
			after, code := impl.TickHouse(h)
			if code != impl.OK {
				break
			}
			h = after
		}
	}
	met.enough(t, 150, "damper", "flue")
}

// wantIsProved checks what a brain wants by what is proved of a name of its program.
func wantIsProved(t *testing.T, p impl.Program, name string, want, asItIs float32, met counted) {
	t.Helper()
	at := slices.Index(p.Names, name)
	if at < 0 {
		isNumber(t, name, want, asItIs)
		return
	}
	spans, code := impl.ProveProgram(p, seenSpans())
	isCode(t, "proved", code, impl.OK)
	low, high := min(max(spans[at].Low, 0), 1), min(max(spans[at].High, 0), 1)
	if (want < low || want > high) && !sameBits(want, asItIs) {
		t.Errorf("%q wants %v of %s, which does not lie in %v", impl.ProgramText(p), want, name, spans[at])
	}
	met[name]++
}

// isCertified checks that the cheapest plan of a season has a certificate, and returns the plan.
func isCertified(t *testing.T, s impl.Season) []int64 {
	t.Helper()
	name := fmt.Sprint(s)
	plan, cost, code := impl.BestPlan(s)
	isCode(t, name, code, impl.OK)
	table, code := impl.ValuesOf(s)
	isCode(t, name, code, impl.OK)
	isFlaw(t, name, s, table, 0, 0, 0, impl.ErrNotFound)
	yes, code := impl.IsCertificate(s, plan, table)
	isAnswer(t, name, yes, true, code, impl.OK)
	same, code := impl.CostOf(s, plan)
	isCount(t, name, same, cost, code, impl.OK)
	regret, code := impl.RegretOf(s, plan)
	isCount(t, name, regret, 0, code, impl.OK)
	return plan
}

func TestP17TheCheapestPlanIsCertified(t *testing.T) {
	d := dice(735)
	met := counted{}
	isCertified(t, fullSeason())
	for range 2000 {
		s := d.season(24, 20)
		greedy, noPlan := impl.GreedyPlan(s)
		if _, _, code := impl.BestPlan(s); code != impl.OK {
			isPlan(t, "no plan", greedy, nil, 0, 0, noPlan, impl.ErrNotFound)
			met["none"]++
			continue
		}
		best := isCertified(t, s)
		read, code := impl.ReadSeason(impl.SeasonText(s))
		isSeason(t, "read", read, s, code, impl.OK)
		if again := isCertified(t, read); !slices.Equal(again, best) {
			t.Errorf("%v: got the plans %v and %v", s, best, again)
		}
		table, _ := impl.ValuesOf(s)
		for _, plan := range [][]int64{greedy, d.plan(s), slices.Repeat([]int64{s.Most}, len(s.Need))} {
			regret, code := impl.RegretOf(s, plan)
			yes, _ := impl.IsCertificate(s, plan, table)
			if code == impl.OK && (regret < 0 || yes != (regret == 0)) {
				t.Errorf("%v: the plan %v has the regret %d, and a certificate: %v", s, plan, regret, yes)
			}
			met[fmt.Sprint(impl.CodeName(code), " ", yes)]++
		}
	}
	met.enough(t, 200, "none", "ok true", "ok false", "state false")
}

// winterOf is a season that has a slot for each hour of a house; colder hours need more, and later ones cost more.
func winterOf(h impl.House) impl.Season {
	s := impl.Season{Most: 2, Yield: 20, Store: 40, First: 10, Loss: 10}
	for i, hour := range h.Hours {
		s.Need = append(s.Need, int64(max(0, min(20-hour.Outside, 35))))
		s.Price = append(s.Price, int64(i+1)*7%10)
	}
	return s
}

// firesFor are acts that burn what a plan tells, as far as they can be done.
func firesFor(h impl.House, plan []int64) []impl.Act {
	var acts []impl.Act
	for _, logs := range plan {
		slot := slices.Repeat([]impl.Act{{Kind: impl.AcLoad, B: 1}}, int(logs))
		slot = append(slot, impl.Act{Kind: impl.AcKindle}, impl.Act{Kind: impl.AcWait, A: 9}, impl.Act{Kind: impl.AcClean})
		for _, a := range slot {
			if after, code := impl.DoAct(h, a); code == impl.OK {
				acts, h = append(acts, a), after
			}
		}
	}
	return acts
}

// A winter is planned, the plan is certified, and the house is heated with it: its controller keeps to what is proved,
// and its journal leads to the same house.
func TestP17AWinter(t *testing.T) {
	h := thinking(exampleHouse(), "damper = max(0, min(1, (30 - in0) * 1/16))\n")
	h.Hours = nil
	for i := range 12 {
		h.Hours = append(h.Hours, impl.Hour{Outside: float32(i*5%13) - 8, Wind: float32(i%3) - 1})
	}
	s := winterOf(h)
	plan := isCertified(t, s)
	best := modelBest(s)
	isPlan(t, "the plan", plan, best.plan, 0, 0, impl.OK, impl.OK)
	acts := firesFor(h, plan)
	journal, after, code := impl.KeepJournal(h, acts, 3)
	isCode(t, "kept", code, impl.OK)
	want, _, _ := modelActs(h, acts)
	isHouse(t, "the winter", after, want, code, impl.OK)
	isReplayed(t, "the winter", h, journal, after)
	if after.Sums.Burnt < 0.25 || after.Tick < 100 {
		t.Errorf("%v has burnt in %d ticks", after.Sums.Burnt, after.Tick)
	}
	p := programOf(t, h.Sources[0])
	yes, code := impl.IsProved(p, seenSpans(), "damper", impl.Span{Low: 0, High: 1})
	isAnswer(t, "the damper", yes, true, code, impl.OK)
}
