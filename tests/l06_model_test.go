package tests

import (
	"fmt"
	"math"
	"slices"
	"strings"
	"testing"

	"loop.example/g01229/impl"
)

// The model does chapter 6 again, on the models of the chapters ahead of it: programs are expressions that are trees,
// all of a tick is made from what was there before it, and checks are wide numbers of which the rest is taken.

func modelTenths(heat float32) int16 {
	x := float64(times(10, heat))
	switch {
	case x != x:
		return 0
	case x >= 32767:
		return 32767
	case x <= -32768:
		return -32768
	}
	whole := math.Floor(x)
	if part := x - whole; part > 0.5 || part == 0.5 && int(whole)%2 != 0 {
		whole++
	}
	return int16(whole)
}

func modelSeen(heat float32) float32 { return over(float32(modelTenths(heat)), 10) }

func modelHour(h impl.House) impl.Hour {
	count := int64(len(h.Hours))
	return h.Hours[h.Tick-h.Tick/count*count]
}

// modelShare returns what an expression of a source wants.
func modelShare(source, name string, inputs [4]float32, asItIs float32) float32 {
	p, trees, _, _ := modelCompile(source)
	var values []float32
	for _, tree := range trees {
		values = append(values, tree.value(inputs, values))
	}
	for i := range p.Names {
		if p.Names[i] == name && values[i] == values[i] {
			return float32(math.Max(0, math.Min(1, float64(values[i]))))
		}
	}
	return asItIs
}

func modelWants(h impl.House, hearth int) (float32, float32) {
	e := h.Hearths[hearth]
	damper, flue := e.Stove.Damper, h.Chimney[e.Flue].Damper
	if e.Brain < 0 {
		return damper, flue
	}
	inputs := [4]float32{
		modelSeen(h.Flat.Heat[e.Room]), modelSeen(e.Stove.Box), modelSeen(modelHour(h).Outside), float32(h.Tick - h.Tick/96*96),
	}
	source := h.Sources[e.Brain]
	return modelShare(source, "damper", inputs, damper), modelShare(source, "flue", inputs, flue)
}

// modelObeyed has the dampers that are wanted of the house before.
func modelObeyed(h impl.House) impl.House {
	after := copyHouse(h)
	for i, e := range h.Hearths {
		after.Hearths[i].Stove.Damper, after.Chimney[e.Flue].Damper = modelWants(h, i)
	}
	return after
}

func modelSmokeOf(h impl.House) []float32 {
	var smoke []float32
	for i := range h.Chimney {
		heat := modelHour(h).Outside
		for _, e := range h.Hearths {
			if int(e.Flue) == i {
				heat = e.Stove.Box
			}
		}
		smoke = append(smoke, heat)
	}
	return smoke
}

// modelFiresIn lets all stoves of a house burn, and returns what they have given to each room.
func modelFiresIn(h impl.House, flows []float32) (impl.House, []float32, int64) {
	after := copyHouse(h)
	gains := make([]float32, len(h.Flat.Heat))
	for i, e := range h.Hearths {
		flow, room := flows[e.Flue], h.Flat.Heat[e.Room]
		draft := flow
		if !(flow > 0) {
			draft = 0
		}
		stove, given := modelFire(e.Stove, draft, room, 0.125)
		if room > 100 || stove.Ash > 1000000 {
			return impl.House{}, nil, impl.ErrState
		}
		after.Hearths[i].Stove = stove
		s := &after.Sums
		s.Burnt, s.Steam, s.Up = plus(s.Burnt, given.Fuel), plus(s.Steam, given.Steam), plus(s.Up, given.Up)
		if flow < 0 {
			s.Smoky++
		}
		gains[e.Room] = plus(gains[e.Room], over(given.Room, 0.125))
	}
	return after, gains, impl.OK
}

func modelTick(h impl.House) (impl.House, int64) {
	hour := modelHour(h)
	h = modelObeyed(h)
	flows := modelFlows(h.Chimney, hour.Outside, hour.Wind)
	chimney := modelWarmFlues(h.Chimney, modelSmokeOf(h), hour.Outside, hour.Wind, 0.125)
	after, gains, code := modelFiresIn(h, flows)
	if code != impl.OK {
		return impl.House{}, code
	}
	after.Chimney = chimney
	flat, gone, code := modelStepFlat(h.Flat, hour.Outside, hour.Sun, gains, 0.125)
	after.Flat = flat
	after.Sums.Lost = plus(after.Sums.Lost, gone)
	after.Tick++
	if code != impl.OK || after.Tick > 1000000000 || after.Sums.Smoky > 1000000000 {
		return impl.House{}, impl.ErrState
	}
	return after, impl.OK
}

func modelTicks(h impl.House, count int64) (impl.House, int64) {
	h = copyHouse(h)
	for range count {
		after, code := modelTick(h)
		if code != impl.OK {
			return impl.House{}, code
		}
		h = after
	}
	return h, impl.OK
}

var modelWords = []string{"", "load", "kindle", "rake", "clean", "pane", "brain", "mute", "damper", "wait"}

// modelHasTwo tells whether the text of a kind of acts has two numbers.
func modelHasTwo(kind int64) bool { return kind == 1 || kind == 5 || kind == 6 || kind == 8 }

func modelValidAct(a impl.Act) bool {
	return a.Kind > 0 && a.Kind < 10 && a.A >= 0 && a.A < 1000 && a.B >= 0 && a.B < 1000 && (modelHasTwo(a.Kind) || a.B == 0)
}

func modelActText(a impl.Act) string {
	if modelHasTwo(a.Kind) {
		return fmt.Sprintf("%s %d %d", modelWords[a.Kind], a.A, a.B)
	}
	return fmt.Sprintf("%s %d", modelWords[a.Kind], a.A)
}

// modelStoveAct does what an act does to a stove.
func modelStoveAct(s impl.Stove, kind, b int64) (impl.Stove, int64) {
	switch kind {
	case impl.AcLoad:
		if b > 64 {
			return impl.Stove{}, impl.ErrRange
		}
		return impl.PutLog(s, logOf(over(float32(b), 16), 20, 1))
	case impl.AcKindle:
		return impl.KindleStove(s)
	case impl.AcRake:
		if s.State != 0 {
			return impl.Stove{}, impl.ErrState
		}
		s.Ash = 0
	case impl.AcClean:
		s.Logs = slices.DeleteFunc(slices.Clone(s.Logs), func(w impl.Wood) bool { return modelRow(w.Fuel) < 1.0/64 })
	case impl.AcDamper:
		if b > 16 {
			return impl.Stove{}, impl.ErrRange
		}
		s.Damper = over(float32(b), 16)
	}
	return s, impl.OK
}

func modelAct(h impl.House, a impl.Act) (impl.House, int64) {
	after := copyHouse(h)
	switch a.Kind {
	case impl.AcWait:
		if a.A > 200 {
			return impl.House{}, impl.ErrRange
		}
		return modelTicks(h, a.A)
	case impl.AcPane:
		if int(a.A) >= len(h.Flat.Panes) || a.B > 400 {
			return impl.House{}, impl.ErrRange
		}
		after.Flat.Panes[a.A].Lead = over(float32(a.B), 4)
		return after, impl.OK
	}
	if int(a.A) >= len(h.Hearths) || a.Kind == impl.AcBrain && int(a.B) >= len(h.Sources) {
		return impl.House{}, impl.ErrRange
	}
	e := &after.Hearths[a.A]
	switch a.Kind {
	case impl.AcBrain:
		e.Brain = a.B
	case impl.AcMute:
		e.Brain = -1
	default:
		stove, code := modelStoveAct(e.Stove, a.Kind, a.B)
		if code != impl.OK {
			return impl.House{}, code
		}
		e.Stove = stove
	}
	return after, impl.OK
}

func modelActs(h impl.House, acts []impl.Act) (impl.House, int64, int64) {
	h = copyHouse(h)
	for i, a := range acts {
		after, code := modelAct(h, a)
		if code != impl.OK {
			return impl.House{}, int64(i), code
		}
		h = after
	}
	return h, int64(len(acts)), impl.OK
}

func modelStoveText(s impl.Stove) string {
	text := fmt.Sprintf("stove %08x %08x %08x %s %d\n", bitsOf(s.Box), bitsOf(s.Damper), bitsOf(s.Dust), []string{"cold", "kindled", "burning", "embers"}[s.State], s.Ash)
	for _, w := range s.Logs {
		text += "log"
		for i := range 6 {
			text += fmt.Sprintf(" %08x %08x %08x", bitsOf(w.Wet[i]), bitsOf(w.Heat[i]), bitsOf(w.Fuel[i]))
		}
		text += "\n"
	}
	return text
}

func modelHouseText(h impl.House) string {
	counted := func(lines string) string { return fmt.Sprintf(" %d\n%s", strings.Count(lines, "\n"), lines) }
	s := h.Sums
	text := fmt.Sprintf("house %d %08x %08x %08x %08x %d\n", h.Tick, bitsOf(s.Burnt), bitsOf(s.Steam), bitsOf(s.Up), bitsOf(s.Lost), s.Smoky)
	for _, hour := range h.Hours {
		text += fmt.Sprintf("hour %08x %08x %08x\n", bitsOf(hour.Outside), bitsOf(hour.Sun), bitsOf(hour.Wind))
	}
	text += "flat" + counted(modelFlatText(h.Flat)) + "chimney" + counted(modelChimneyText(h.Chimney))
	for _, source := range h.Sources {
		text += "source" + counted(ended(source))
	}
	for _, e := range h.Hearths {
		brain := fmt.Sprint(e.Brain)
		if e.Brain == -1 {
			brain = "-"
		}
		text += fmt.Sprintf("hearth %d %d %s", e.Room, e.Flue, brain) + counted(modelStoveText(e.Stove))
	}
	return text
}

// ended is a source that ends with a newline, or is empty.
func ended(source string) string {
	if source == "" || source[len(source)-1] == '\n' {
		return source
	}
	return source + "\n"
}

func withEndedSources(h impl.House) impl.House {
	h = copyHouse(h)
	for i := range h.Sources {
		h.Sources[i] = ended(h.Sources[i])
	}
	return h
}

func modelCheck(h impl.House) uint32 {
	check := uint64(1)
	for _, b := range []byte(modelHouseText(h)) {
		check = (check*16777619%4294967296 + uint64(b)) % 4294967296
	}
	return uint32(check)
}

// modelKeep returns the journal of acts that can be done.
func modelKeep(h impl.House, acts []impl.Act, every int) ([]impl.Entry, impl.House) {
	var journal []impl.Entry
	for from := 0; from < len(acts); from += every {
		for _, a := range acts[from:min(from+every, len(acts))] {
			h, _ = modelAct(h, a)
			journal = append(journal, impl.Entry{Act: a})
		}
		journal = append(journal, impl.Entry{Mark: true, Check: modelCheck(h)})
	}
	return journal, h
}

func modelJournalText(journal []impl.Entry) string {
	text := ""
	for _, e := range journal {
		if e.Mark {
			text += fmt.Sprintf("mark %08x\n", e.Check)
		} else {
			text += modelActText(e.Act) + "\n"
		}
	}
	return text
}

// Below are what the tests of chapter 6 share.

func copyHouse(h impl.House) impl.House {
	h.Flat, h.Chimney, h.Hearths = copyFlat(h.Flat), slices.Clone(h.Chimney), slices.Clone(h.Hearths)
	h.Sources, h.Hours = slices.Clone(h.Sources), slices.Clone(h.Hours)
	for i := range h.Hearths {
		h.Hearths[i].Stove.Logs = slices.Clone(h.Hearths[i].Stove.Logs)
	}
	return h
}

func sameHours(a, b impl.Hour) bool {
	return sameBits(a.Outside, b.Outside) && sameBits(a.Sun, b.Sun) && sameBits(a.Wind, b.Wind)
}

func sameHearths(a, b impl.Hearth) bool {
	return a.Room == b.Room && a.Flue == b.Flue && a.Brain == b.Brain && sameStoves(a.Stove, b.Stove)
}

func sameHouses(h, g impl.House) bool {
	s, r := h.Sums, g.Sums
	return sameFlats(h.Flat, g.Flat) && sameFlues(h.Chimney, g.Chimney) && slices.EqualFunc(h.Hearths, g.Hearths, sameHearths) &&
		slices.Equal(h.Sources, g.Sources) && slices.EqualFunc(h.Hours, g.Hours, sameHours) && h.Tick == g.Tick &&
		sameNumbers([]float32{s.Burnt, s.Steam, s.Up, s.Lost}, []float32{r.Burnt, r.Steam, r.Up, r.Lost}) && s.Smoky == r.Smoky
}

func isHouse(t *testing.T, name string, got, want impl.House, code, wantCode int64) {
	t.Helper()
	if !sameHouses(got, want) || code != wantCode {
		t.Errorf("%s: got the house\n%s and the code %d, want\n%s and %d", name, modelText(got), code, modelText(want), wantCode)
	}
}

// modelText is the text of a house for a message.
func modelText(h impl.House) string {
	if len(h.Hours) == 0 {
		return fmt.Sprintf("%v", h)
	}
	return modelHouseText(h)
}

// isHouseAt checks as well which one of several acts or entries is told.
func isHouseAt(t *testing.T, name string, got, want impl.House, at, wantAt, code, wantCode int64) {
	t.Helper()
	isHouse(t, name, got, want, code, wantCode)
	if at != wantAt {
		t.Errorf("%s: got the number %d, want %d", name, at, wantAt)
	}
}

// exampleHouse is the house of the document's example.
func exampleHouse() impl.House {
	return impl.House{
		Flat:    exampleFlat(),
		Chimney: []impl.Flue{{Height: 4, Wide: 0.5, Heat: 20, Damper: 1, Into: -1}},
		Hearths: []impl.Hearth{{Brain: -1, Stove: impl.Stove{Box: 20, Damper: 1}}},
		Sources: []string{"damper = in0 < 18\n"},
		Hours:   []impl.Hour{{}},
	}
}

// fullHouse has three hearths, of which two stand in one room and one smokes, three sources and three hours.
func fullHouse() impl.House {
	return impl.House{
		Flat:    threeRooms(),
		Chimney: sixFlues(),
		Hearths: []impl.Hearth{
			{Room: 0, Flue: 1, Brain: 0, Stove: burningStove()},
			{Room: 2, Flue: 4, Brain: -1, Stove: impl.Stove{Logs: []impl.Wood{dryLog(), grownLog(), hotLog()}, Box: 233.1, Damper: 0.7, State: impl.StKindled, Ash: 12, Dust: 0.9}},
			{Room: 0, Flue: 2, Brain: 2, Stove: impl.Stove{Logs: []impl.Wood{grownLog()}, Box: 61.7, Damper: 0.25, State: impl.StEmbers, Dust: 0.01}},
		},
		Sources: []string{"flue = (in1 + in3) * 1/512\ndamper = (30 - in0) * 1/16 + in2 * 1/128\n", "", "cold = 24 - in0\ndamper = pick(cold, 5/8, 1/4)"},
		Hours:   []impl.Hour{{Outside: -7.3, Sun: 0.31, Wind: 3.3}, {Outside: 4.4, Sun: 0.02, Wind: -1.7}, {Outside: 9.9, Sun: 1.25, Wind: 41}},
		Tick:    95,
		Sums:    impl.Sums{Burnt: 1.7, Steam: 0.3, Up: 812.5, Lost: 9000.1, Smoky: 4},
	}
}

func brainless(h impl.House) impl.House {
	h = copyHouse(h)
	for i := range h.Hearths {
		h.Hearths[i].Brain = -1
	}
	return h
}

// thinking is a house with only this source, which all its hearths have as a brain.
func thinking(h impl.House, source string) impl.House {
	h = copyHouse(h)
	h.Sources = []string{source}
	for i := range h.Hearths {
		h.Hearths[i].Brain = 0
	}
	return h
}

func tickedTo(h impl.House, tick int64) impl.House {
	h = copyHouse(h)
	h.Tick = tick
	return h
}

func (d *dice) hour() impl.Hour {
	return impl.Hour{
		Outside: d.pick(-60, 60, 0, negZero, d.share()*30-10, d.share()*30-10, d.share()*30-10),
		Sun:     d.pick(0, 10, tiny, d.share(), d.share()),
		Wind:    d.pick(-100, 100, 0, negZero, d.share()*20-10, d.share()*20-10, d.share()*2-1, d.share()*2-1),
	}
}

// brainSource often wants a damper or a flue, or both.
func (d *dice) brainSource() string {
	if d.roll(8) == 0 {
		return d.source()
	}
	text := d.word("", "", "x = in0 * in1\n", "big = 999999 * 999999 * 999999 * 999999 * 999999 * 999999 * 999999\nx = big - big\n", "x = -0\n")
	names := []string{"damper", "flue"}
	if d.roll(2) == 0 {
		slices.Reverse(names)
	}
	for _, name := range names {
		want := d.word("in0 * 1/32", "(20 - in0) * 1/16", "in1 * 1/512", "in2 * in0 - 3", "in3 * 1/96", "pick(in0 < 15, 1, 1/8)", "-in1", "-0", "9", "1", "0", "1/2")
		if strings.Contains(text, "x = ") && d.roll(3) == 0 {
			want = "x"
		}
		if d.roll(5) > 0 {
			text += name + " = " + want + "\n"
		}
	}
	if d.roll(3) == 0 {
		text = strings.TrimSuffix(text, "\n")
	}
	return text
}

// houseStove has so much ash that it cannot burn only now and then.
func (d *dice) houseStove() impl.Stove {
	s := d.stove()
	if s.Ash > 10000 && d.roll(10) > 0 {
		s.Ash /= 1000
	}
	return s
}

// hearths stand at open flues, in any order.
func (d *dice) hearths(h impl.House) []impl.Hearth {
	var open []int64
	for i := range h.Chimney {
		if len(modelBranches(h.Chimney, i)) == 0 {
			open = append(open, int64(i))
		}
	}
	var hearths []impl.Hearth
	for range min(len(open), d.roll(5), 3) {
		k := d.roll(len(open))
		hearths = append(hearths, impl.Hearth{
			Room: int64(d.roll(len(h.Flat.Heat))), Flue: open[k], Brain: int64(d.roll(len(h.Sources)+1) - 1), Stove: d.houseStove(),
		})
		open = slices.Delete(open, k, k+1)
	}
	return hearths
}

// houseWith has a flat and a chimney, and anything else that a house may have.
func (d *dice) houseWith(f impl.Flat, c []impl.Flue) impl.House {
	h := impl.House{Flat: f, Chimney: c}
	for range 1 + d.roll(4)*d.roll(9)%24 {
		h.Hours = append(h.Hours, d.hour())
	}
	for range d.roll(4) {
		source := d.brainSource()
		if _, _, _, code := modelCompile(source); code != impl.OK {
			source = "flue = in1\n"
		}
		h.Sources = append(h.Sources, source)
	}
	h.Hearths = d.hearths(h)
	h.Tick = []int64{0, 1, 94, 95, 96, 97, int64(d.roll(5000)), int64(d.roll(5000)), int64(d.roll(900000000)), 999999998}[d.roll(10)]
	h.Sums = impl.Sums{
		Burnt: d.pick(0, tiny, d.share()*100), Steam: d.pick(0, d.share()*100), Up: d.pick(0, negZero, d.share()*2000-1000),
		Lost: d.pick(0, negZero, -big, d.share()*20000-10000), Smoky: []int64{0, 5, int64(d.roll(1000)), 999999999}[d.roll(4)],
	}
	return h
}

// house can mostly be run for some ticks.
func (d *dice) house() impl.House {
	f, c := d.calmFlat(), d.chimneyOf(d.plainFlue)
	if d.roll(8) == 0 {
		f = d.flat()
	}
	if d.roll(4) == 0 {
		c = d.chimney()
	}
	return d.houseWith(f, c)
}

// act is valid, and can often be done in the house.
func (d *dice) act(h impl.House) impl.Act {
	a := impl.Act{Kind: int64(1 + d.roll(9)), A: int64(d.roll(max(len(h.Hearths), 1)))}
	switch a.Kind {
	case impl.AcLoad:
		a.B = int64(d.roll(65))
	case impl.AcPane:
		a.A, a.B = int64(d.roll(max(len(h.Flat.Panes), 1))), int64(d.roll(20))
	case impl.AcBrain:
		a.B = int64(d.roll(max(len(h.Sources), 1)))
	case impl.AcDamper:
		a.B = int64(d.roll(17))
	case impl.AcWait:
		a.A = int64(d.roll(7))
	}
	return a
}

// anyAct is valid.
func (d *dice) anyAct() impl.Act {
	numbers := []int64{0, 0, 1, 2, 3, 4, 16, 17, 64, 65, 200, 201, 400, 401, 999}
	a := impl.Act{Kind: int64(1 + d.roll(9)), A: numbers[d.roll(len(numbers))]}
	if modelHasTwo(a.Kind) {
		a.B = numbers[d.roll(len(numbers))]
	}
	return a
}

// doableActs are so many that none of them has an error, and the house behind them.
func (d *dice) doableActs(h impl.House, count int) ([]impl.Act, impl.House) {
	var acts []impl.Act
	for tries := 0; len(acts) < count && tries < 40*count; tries++ {
		a := d.act(h)
		if after, code := modelAct(h, a); code == impl.OK {
			acts, h = append(acts, a), after
		}
	}
	return acts, h
}
