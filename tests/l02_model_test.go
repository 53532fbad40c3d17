package tests

import (
	"testing"

	"loop.example/g01229/impl"
)

// The model does chapter 2 again, on that of chapter 1.

func modelAir(s impl.Stove, draft float32) float32 {
	air := times(s.Damper, draft)
	if air > 1 {
		air = 1
	}
	return times(air, []float32{0, 0.5, 1, 0.25}[s.State])
}

func modelBurns(w impl.Wood) bool {
	for i := range 6 {
		if w.Heat[i] > 250 && w.Wet[i] < 0.125 && w.Fuel[i] > 0 {
			return true
		}
	}
	return false
}

func modelAnyBurns(s impl.Stove) bool {
	for _, w := range s.Logs {
		if modelBurns(w) {
			return true
		}
	}
	return false
}

func modelNext(state int8, box float32, burning bool) int8 {
	switch {
	case state == 1 && box > 200:
		return 2
	case state == 1 && !burning && box < 50:
		return 0
	case state == 2 && !burning:
		return 3
	case state == 3 && burning && box > 250:
		return 2
	case state == 3 && box < 40:
		return 0
	}
	return state
}

// modelFire may return a stove with too much ash.
func modelFire(s impl.Stove, draft, room, time float32) (impl.Stove, impl.Given) {
	air := modelAir(s, draft)
	var logs []impl.Wood
	var w, steam, fuel float32
	for _, log := range s.Logs {
		after, heat, water, gone := modelStep(log, s.Box, air, time)
		logs = append(logs, after)
		w, steam, fuel = plus(w, heat), plus(steam, water), plus(fuel, gone)
	}
	r := times(times(2, minus(s.Box, room)), time)
	u := times(times(times(0.5, minus(s.Box, room)), air), time)
	s.Logs = logs
	s.Box = plus(s.Box, over(minus(minus(w, r), u), 20))
	if s.Box < -60 {
		s.Box = -60
	} else if s.Box > 1500 {
		s.Box = 1500
	}
	s.Dust = plus(s.Dust, times(20, fuel))
	for limit := float32(512); limit >= 1; limit /= 2 {
		for s.Dust >= limit {
			s.Dust, s.Ash = minus(s.Dust, limit), s.Ash+int64(limit)
		}
	}
	s.State = modelNext(s.State, s.Box, modelAnyBurns(s))
	return s, impl.Given{Room: r, Up: u, Steam: steam, Fuel: fuel}
}

// modelFires counts the steps until there would be too much ash as well.
func modelFires(s impl.Stove, draft, room, time float32, steps int64) (impl.Stove, impl.Given, int64) {
	var all impl.Given
	for range steps {
		after, g := modelFire(s, draft, room, time)
		if after.Ash > 1000000 {
			return impl.Stove{}, impl.Given{}, impl.ErrState
		}
		all = sumGiven(all, g)
		s = after
	}
	return s, all, impl.OK
}

func sumGiven(a, b impl.Given) impl.Given {
	return impl.Given{Room: plus(a.Room, b.Room), Up: plus(a.Up, b.Up), Steam: plus(a.Steam, b.Steam), Fuel: plus(a.Fuel, b.Fuel)}
}

// Below are what the tests of chapter 2 share.

func sameStoves(s, r impl.Stove) bool {
	if len(s.Logs) != len(r.Logs) {
		return false
	}
	for i := range s.Logs {
		if !sameLog(s.Logs[i], r.Logs[i]) {
			return false
		}
	}
	return sameBits(s.Box, r.Box) && sameBits(s.Damper, r.Damper) && sameBits(s.Dust, r.Dust) && s.State == r.State && s.Ash == r.Ash
}

func sameGiven(a, b impl.Given) bool {
	return sameBits(a.Room, b.Room) && sameBits(a.Up, b.Up) && sameBits(a.Steam, b.Steam) && sameBits(a.Fuel, b.Fuel)
}

func isStove(t *testing.T, name string, got, want impl.Stove, code, wantCode int64) {
	t.Helper()
	if !sameStoves(got, want) || code != wantCode {
		t.Errorf("%s: got the stove %v and the code %d, want %v and %d", name, got, code, want, wantCode)
	}
}

func isGiven(t *testing.T, name string, got, want impl.Given) {
	t.Helper()
	if !sameGiven(got, want) {
		t.Errorf("%s: given is %v, want %v", name, got, want)
	}
}

func isCount(t *testing.T, name string, got, want, code, wantCode int64) {
	t.Helper()
	if got != want || code != wantCode {
		t.Errorf("%s: got %d and the code %d, want %d and %d", name, got, code, want, wantCode)
	}
}

// roomyCopy has the same stove in other memory, with room for more logs behind the last one.
func roomyCopy(s impl.Stove) impl.Stove {
	logs := make([]impl.Wood, len(s.Logs), len(s.Logs)+3)
	copy(logs, s.Logs)
	spare := logs[:cap(logs)]
	for i := len(logs); i < cap(logs); i++ {
		spare[i] = logOf(7, 77, 7)
	}
	s.Logs = logs
	return s
}

// burningStove has two logs, one that dries and one that burns.
func burningStove() impl.Stove {
	return impl.Stove{Logs: []impl.Wood{grownLog(), dryLog()}, Box: 412.3, Damper: 0.8, State: impl.StBurning, Ash: 7, Dust: 0.3}
}

// plainStove is cold, and has as many logs, each of them with another fuel.
func plainStove(count int) impl.Stove {
	s := impl.Stove{Box: 20, Damper: 1}
	for i := range count {
		s.Logs = append(s.Logs, logOf(0.5, 20, float32(i+1)))
	}
	return s
}

func inState(s impl.Stove, state int8) impl.Stove {
	s.State = state
	return s
}

// dryish is a log that often burns.
func (d *dice) dryish() impl.Wood {
	w := d.log()
	for i := range 6 {
		w.Wet[i] = d.pick(w.Wet[i], 0, d.share()/8)
		w.Fuel[i] = d.pick(w.Fuel[i], d.share()*3)
	}
	return w
}

func (d *dice) stove() impl.Stove {
	s := impl.Stove{
		Box:    d.heat(),
		Damper: d.shareOrEdge(),
		State:  int8(d.roll(4)),
		Ash:    []int64{0, 0, 7, int64(d.roll(1000)), 999999, 1000000}[d.roll(6)],
		Dust:   d.pick(0, 0, tiny, below(1), d.share()*0.999, d.share()*0.999),
	}
	for range d.roll(impl.MaxLogs + 1) {
		s.Logs = append(s.Logs, d.dryish())
	}
	return s
}

func (d *dice) draft() float32 {
	return d.pick(0, tiny, 1, above(1), 3, big, d.share(), d.share(), d.share()*2)
}

func (d *dice) room() float32 {
	return d.pick(-60, negZero, 0, 20, 100, d.share()*160-60, d.share()*160-60)
}
