package tests

import (
	"fmt"
	"math"
	"slices"
	"testing"

	"loop.example/g01229/impl"
)

// The model does chapter 4 again, room by room, in wide numbers that are rounded after each operation.

func modelEnergy(f impl.Flat) float32 {
	var products []float32
	for i := range f.Heat {
		products = append(products, times(f.Heat[i], f.Store[i]))
	}
	for _, w := range f.Walls {
		for k := range 4 {
			products = append(products, times(w.Heat[k], w.Store))
		}
	}
	return sumOf(products[0], products[1:]...)
}

func modelHeatAt(heats []float32, side int64, outside float32) float32 {
	if side == -1 {
		return outside
	}
	return heats[side]
}

func modelRoomFlows(f impl.Flat, outside, sun float32) []float32 {
	var flows []float32
	for i, heat := range f.Heat {
		var terms []float32
		for _, w := range f.Walls {
			if int(w.A) == i {
				terms = append(terms, times(times(2, w.Lead), minus(w.Heat[0], heat)))
			} else if int(w.B) == i {
				terms = append(terms, times(times(2, w.Lead), minus(w.Heat[3], heat)))
			}
		}
		for _, p := range f.Panes {
			if int(p.A) == i {
				terms = append(terms, times(p.Lead, minus(modelHeatAt(f.Heat, p.B, outside), heat)), times(p.Sun, sun))
			} else if int(p.B) == i {
				terms = append(terms, times(p.Lead, minus(f.Heat[p.A], heat)))
			}
		}
		flows = append(flows, sumOf(0, terms...))
	}
	return flows
}

func modelLoss(f impl.Flat, outside float32) float32 {
	var terms []float32
	for _, w := range f.Walls {
		if w.B == -1 {
			terms = append(terms, times(times(2, w.Lead), minus(w.Heat[3], outside)))
		}
	}
	for _, p := range f.Panes {
		if p.B == -1 {
			terms = append(terms, times(p.Lead, minus(f.Heat[p.A], outside)))
		}
	}
	return sumOf(0, terms...)
}

// modelAt returns the sum of what all that stands at a room has for it.
func modelAt(f impl.Flat, room int64, wall float32) float32 {
	var terms []float32
	for _, w := range f.Walls {
		if w.A == room || w.B == room {
			terms = append(terms, times(wall, w.Lead))
		}
	}
	for _, p := range f.Panes {
		if p.A == room || p.B == room {
			terms = append(terms, p.Lead)
		}
	}
	return sumOf(0, terms...)
}

func modelLongest(f impl.Flat) (float32, int64) {
	var list []float32
	for i, store := range f.Store {
		if lead := modelAt(f, int64(i), 2); lead != 0 {
			list = append(list, over(store, lead))
		}
	}
	for _, w := range f.Walls {
		for _, count := range []float32{3, 2, 2, 3} {
			list = append(list, over(w.Store, times(count, w.Lead)))
		}
	}
	if len(list) == 0 {
		return 0, impl.ErrNotFound
	}
	slices.Sort(list)
	if list[0] > big {
		return 0, impl.ErrState
	}
	return list[0], impl.OK
}

func modelWarms(heats ...float32) bool {
	for _, heat := range heats {
		if !(heat >= -60 && heat <= 200) {
			return false
		}
	}
	return true
}

func modelStepFlat(f impl.Flat, outside, sun float32, gains []float32, time float32) (impl.Flat, float32, int64) {
	after := copyFlat(f)
	warm := true
	for i, flow := range modelRoomFlows(f, outside, sun) {
		after.Heat[i] = plus(f.Heat[i], over(times(plus(flow, gains[i]), time), f.Store[i]))
		warm = warm && modelWarms(after.Heat[i])
	}
	for i, w := range f.Walls {
		flows := []float32{times(times(2, w.Lead), minus(f.Heat[w.A], w.Heat[0]))}
		for k := range 3 {
			flows = append(flows, times(w.Lead, minus(w.Heat[k], w.Heat[k+1])))
		}
		flows = append(flows, times(times(2, w.Lead), minus(w.Heat[3], modelHeatAt(f.Heat, w.B, outside))))
		for k := range 4 {
			after.Walls[i].Heat[k] = plus(w.Heat[k], over(times(minus(flows[k], flows[k+1]), time), w.Store))
			warm = warm && modelWarms(after.Walls[i].Heat[k])
		}
	}
	if !warm {
		return impl.Flat{}, 0, impl.ErrState
	}
	return after, times(modelLoss(f, outside), time), impl.OK
}

func modelStepsFlat(f impl.Flat, outside, sun float32, gains []float32, time float32, steps int64) (impl.Flat, float32, int64) {
	all := float32(0)
	for range steps {
		after, gone, code := modelStepFlat(f, outside, sun, gains, time)
		if code != impl.OK {
			return impl.Flat{}, 0, code
		}
		f, all = after, plus(all, gone)
	}
	return f, all, impl.OK
}

func modelLead(f impl.Flat, a, b int64) float32 {
	var terms []float32
	for _, w := range f.Walls {
		if w.A == a && w.B == b || w.A == b && w.B == a {
			terms = append(terms, times(0.25, w.Lead))
		}
	}
	for _, p := range f.Panes {
		if p.A == a && p.B == b || p.A == b && p.B == a {
			terms = append(terms, p.Lead)
		}
	}
	return sumOf(0, terms...)
}

func sizeOf(a float32) float32 { return math.Float32frombits(math.Float32bits(a) &^ (1 << 31)) }

// modelSolve keeps the rows where they are, and remembers their order instead.
func modelSolve(rows [][]float32, right []float32) ([]float32, int64) {
	var order []int
	var own [][]float32
	for i, row := range rows {
		order = append(order, i)
		own = append(own, append(slices.Clone(row), right[i]))
	}
	for k := range rows {
		best := k
		for i := range rows {
			if i > k && sizeOf(own[order[i]][k]) > sizeOf(own[order[best]][k]) {
				best = i
			}
		}
		order[k], order[best] = order[best], order[k]
		pivot := own[order[k]]
		if pivot[k] == 0 {
			return nil, impl.ErrState
		}
		for i := range rows {
			row := own[order[i]]
			q := over(row[k], pivot[k])
			for c := k; i != k && c <= len(rows); c++ {
				row[c] = minus(row[c], times(q, pivot[c]))
			}
		}
	}
	var answers []float32
	for k := range rows {
		answer := over(own[order[k]][len(rows)], own[order[k]][k])
		if !isGood(answer) {
			return nil, impl.ErrState
		}
		answers = append(answers, answer)
	}
	return answers, impl.OK
}

func modelStill(f impl.Flat, outside, sun float32, gains []float32) (impl.Flat, int64) {
	var rows [][]float32
	var right []float32
	for i := range f.Heat {
		row, room := make([]float32, len(f.Heat)), int64(i)
		for k := range row {
			if lead := modelLead(f, room, int64(k)); lead > 0 {
				row[k] = -lead
			}
		}
		row[i] = modelAt(f, room, 0.25)
		terms := []float32{times(modelLead(f, room, -1), outside)}
		for _, p := range f.Panes {
			if p.A == room {
				terms = append(terms, times(p.Sun, sun))
			}
		}
		rows, right = append(rows, row), append(right, sumOf(gains[i], terms...))
	}
	heats, code := modelSolve(rows, right)
	if code != impl.OK {
		return impl.Flat{}, code
	}
	still := copyFlat(f)
	still.Heat = heats
	warm := modelWarms(heats...)
	for i, w := range f.Walls {
		a, b := modelHeatAt(heats, w.A, outside), modelHeatAt(heats, w.B, outside)
		for k, part := range []float32{0.125, 0.375, 0.625, 0.875} {
			still.Walls[i].Heat[k] = plus(a, times(minus(b, a), part))
			warm = warm && modelWarms(still.Walls[i].Heat[k])
		}
	}
	if !warm {
		return impl.Flat{}, impl.ErrState
	}
	return still, impl.OK
}

func modelGains(f impl.Flat, outside, sun float32, wants []float32) []float32 {
	var gains []float32
	for i, want := range wants {
		gain := float32(0)
		for _, w := range f.Walls {
			if int(w.A) == i {
				gain = plus(gain, times(times(0.25, w.Lead), minus(want, modelHeatAt(wants, w.B, outside))))
			} else if int(w.B) == i {
				gain = plus(gain, times(times(0.25, w.Lead), minus(want, wants[w.A])))
			}
		}
		for _, p := range f.Panes {
			if int(p.A) == i {
				gain = plus(gain, times(p.Lead, minus(want, modelHeatAt(wants, p.B, outside))))
				gain = minus(gain, times(p.Sun, sun))
			} else if int(p.B) == i {
				gain = plus(gain, times(p.Lead, minus(want, wants[p.A])))
			}
		}
		gains = append(gains, gain)
	}
	return gains
}

func modelFlatText(f impl.Flat) string {
	side := func(b int64) string {
		if b == -1 {
			return "-"
		}
		return fmt.Sprint(b)
	}
	text := ""
	for i := range f.Heat {
		text += fmt.Sprintf("room %08x %08x\n", bitsOf(f.Heat[i]), bitsOf(f.Store[i]))
	}
	for _, w := range f.Walls {
		text += fmt.Sprintf("wall %d %s %08x %08x", w.A, side(w.B), bitsOf(w.Lead), bitsOf(w.Store))
		for _, heat := range w.Heat {
			text += fmt.Sprintf(" %08x", bitsOf(heat))
		}
		text += "\n"
	}
	for _, p := range f.Panes {
		text += fmt.Sprintf("pane %d %s %08x %08x\n", p.A, side(p.B), bitsOf(p.Lead), bitsOf(p.Sun))
	}
	return text
}

// Below are what the tests of chapter 4 share.

func copyFlat(f impl.Flat) impl.Flat {
	return impl.Flat{Heat: slices.Clone(f.Heat), Store: slices.Clone(f.Store), Walls: slices.Clone(f.Walls), Panes: slices.Clone(f.Panes)}
}

func sameWalls(w, v impl.Wall) bool {
	return w.A == v.A && w.B == v.B && sameBits(w.Lead, v.Lead) && sameBits(w.Store, v.Store) && sameNumbers(w.Heat[:], v.Heat[:])
}

func samePanes(p, q impl.Pane) bool {
	return p.A == q.A && p.B == q.B && sameBits(p.Lead, q.Lead) && sameBits(p.Sun, q.Sun)
}

func sameFlats(f, g impl.Flat) bool {
	return sameNumbers(f.Heat, g.Heat) && sameNumbers(f.Store, g.Store) &&
		slices.EqualFunc(f.Walls, g.Walls, sameWalls) && slices.EqualFunc(f.Panes, g.Panes, samePanes)
}

func isFlat(t *testing.T, name string, got, want impl.Flat, code, wantCode int64) {
	t.Helper()
	if !sameFlats(got, want) || code != wantCode {
		t.Errorf("%s: got the flat %v and the code %d, want %v and %d", name, got, code, want, wantCode)
	}
}

// exampleFlat is the flat of the document's example.
func exampleFlat() impl.Flat {
	return impl.Flat{Heat: []float32{20}, Store: []float32{10}, Panes: []impl.Pane{{A: 0, B: -1, Lead: 1}}}
}

// threeRooms are joined to each other and to the outside by walls and panes in both directions.
func threeRooms() impl.Flat {
	return impl.Flat{
		Heat:  []float32{20.3, 17.9, -4.7},
		Store: []float32{12.5, 33.3, 210.7},
		Walls: []impl.Wall{
			{A: 0, B: 1, Lead: 3.7, Store: 5.1, Heat: [4]float32{20.1, 19.4, 18.8, 18.2}},
			{A: 1, B: -1, Lead: 0.83, Store: 44.4, Heat: [4]float32{15.5, 9.1, 3.3, -2.2}},
			{A: 2, B: 0, Lead: 1.9, Store: 17.7, Heat: [4]float32{-3.1, 2.9, 8.8, 14.6}},
		},
		Panes: []impl.Pane{
			{A: 0, B: -1, Lead: 1.3, Sun: 0.77}, {A: 1, B: 0, Lead: 0.45}, {A: 2, B: -1, Lead: 2.2, Sun: 3.1}, {A: 1, B: 2, Lead: 0.09, Sun: 0.5},
		},
	}
}

// withHeatsOf is the flat with other heats: those of the rooms, and then those of the parts of the walls.
func withHeatsOf(f impl.Flat, heats ...float32) impl.Flat {
	f = copyFlat(f)
	heats = heats[copy(f.Heat, heats):]
	for i := range f.Walls {
		heats = heats[copy(f.Walls[i].Heat[:], heats):]
	}
	return f
}

// allHeatsOf are those of the rooms, and then those of the parts of the walls.
func allHeatsOf(f impl.Flat) []float32 {
	heats := slices.Clone(f.Heat)
	for _, w := range f.Walls {
		heats = append(heats, w.Heat[:]...)
	}
	return heats
}

func (d *dice) flatHeat() float32 {
	return d.pick(-60, 200, 0, negZero, d.share()*260-60, d.share()*40, d.share()*30)
}

func (d *dice) store() float32 {
	return d.pick(1, 10000, d.share()*9999+1, d.share()*99+1, d.share()*9+1)
}

func (d *dice) sun() float32 { return d.pick(0, 10, tiny, d.share()*10, d.share()) }

// sides are a room, and another one or the outside.
func (d *dice) sides(rooms int) (int64, int64) {
	a, b := int64(d.roll(rooms)), int64(d.roll(rooms+1))-1
	if a == b {
		b = -1
	}
	return a, b
}

func (d *dice) wall(rooms int) impl.Wall {
	a, b := d.sides(rooms)
	w := impl.Wall{A: a, B: b, Lead: d.pick(1.0/64, 100, d.share()*99+0.5, d.share()*3+0.1, d.share()+0.1), Store: d.store()}
	for k := range w.Heat {
		w.Heat[k] = d.flatHeat()
	}
	return w
}

func (d *dice) pane(rooms int) impl.Pane {
	a, b := d.sides(rooms)
	return impl.Pane{A: a, B: b, Lead: d.pick(0, 100, tiny, d.share()*100, d.share()*3, d.share()), Sun: d.sun()}
}

// flat has anything that a flat may have.
func (d *dice) flat() impl.Flat {
	var f impl.Flat
	for range 1 + d.roll(5) {
		f.Heat, f.Store = append(f.Heat, d.flatHeat()), append(f.Store, d.store())
	}
	for range d.roll(11) {
		f.Walls = append(f.Walls, d.wall(len(f.Heat)))
	}
	for range d.roll(9) {
		f.Panes = append(f.Panes, d.pane(len(f.Heat)))
	}
	return f
}

// calmFlat is joined to the outside, and has no edges; a time of 1/16 is calm for it.
func (d *dice) calmFlat() impl.Flat {
	f := d.flat()
	for i := range f.Heat {
		f.Heat[i], f.Store[i] = d.share()*30, d.share()*90+20
	}
	for i := range f.Walls {
		w := &f.Walls[i]
		w.Lead, w.Store = d.share()*4+0.1, d.share()*90+2
		for k := range w.Heat {
			w.Heat[k] = d.share() * 30
		}
	}
	f.Panes = f.Panes[:min(len(f.Panes), 3)]
	for i := range f.Heat {
		f.Panes = append(f.Panes, impl.Pane{A: int64(i), B: -1})
	}
	for i := range f.Panes {
		f.Panes[i].Lead, f.Panes[i].Sun = d.share()*9+0.2, d.share()
	}
	return f
}

func (d *dice) gainsFor(f impl.Flat, most float32) []float32 {
	var gains []float32
	for range f.Heat {
		gains = append(gains, d.pick(0, negZero, most, -most, tiny, (d.share()*2-1)*most, d.share()*most))
	}
	return gains
}
