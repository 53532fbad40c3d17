package tests

import (
	"math"
	"slices"
	"testing"

	"loop.example/g01229/impl"
)

// Promise 9: a flat at still heats stays, nearly, and equations are solved, nearly.

func TestP9Example(t *testing.T) {
	still, code := impl.StillFlat(exampleFlat(), 0, 0, []float32{5})
	isFlat(t, "StillFlat", still, withHeatsOf(exampleFlat(), 5), code, impl.OK)
	gains, code := impl.GainsFor(exampleFlat(), 0, 0, []float32{20})
	areNumbers(t, "GainsFor", gains, []float32{20}, code, impl.OK)
}

// These leads, still heats, gains and answers were calculated with exact fractions, rounded after each operation.
func TestP9KnownLeads(t *testing.T) {
	for _, c := range []struct {
		a, b int64
		lead uint32
	}{{0, 1, 0x3fb00000}, {0, 2, 0x3ef33333}, {1, 2, 0x3db851ec}, {0, -1, 0x3fa66666}, {1, -1, 0x3e547ae1}, {2, -1, 0x400ccccd}} {
		lead, code := impl.LeadBetween(threeRooms(), c.a, c.b)
		isNumberAnd(t, "LeadBetween", lead, math.Float32frombits(c.lead), code, impl.OK)
		lead, code = impl.LeadBetween(threeRooms(), c.b, c.a)
		isNumberAnd(t, "in the other order", lead, math.Float32frombits(c.lead), code, impl.OK)
	}
	lead, code := impl.LeadBetween(flatWith(3, 3, 10, 8), 1, 2)
	isNumberAnd(t, "nothing between", lead, 0, code, impl.OK)
	lead, code = impl.LeadBetween(flatWith(3, 3, 10, 8), -1, 0)
	isNumberAnd(t, "all there can be", lead, 10.5, code, impl.OK)
}

func TestP9KnownStillHeats(t *testing.T) {
	for _, c := range []struct {
		outside, sun float32
		gains        []float32
		still, wants []uint32
	}{
		{-7.3, 0, []float32{0, 0, 0},
			[]uint32{
				0xc0e9999a, 0xc0e9999a, 0xc0e9999c, 0xc0e9999a, 0xc0e9999a, 0xc0e9999a, 0xc0e9999a, 0xc0e9999a, 0xc0e9999a, 0xc0e9999a,
				0xc0e9999a, 0xc0e9999c, 0xc0e9999b, 0xc0e9999b, 0xc0e9999a},
			[]uint32{0x4256c148, 0x40316e96, 0xc09d6c8a}},
		{31.7, 2.25, []float32{55.5, -31.25, 0.1},
			[]uint32{
				0x42450c9e, 0x41e35da3, 0x4214ad21, 0x423aa0e4, 0x4225c971, 0x4210f1fe, 0x41f83516, 0x41e6a522, 0x41ed3420, 0x41f3c31d,
				0x41fa521b, 0x421ab911, 0x4226d0f0, 0x4232e8cf, 0x423f00ae},
			[]uint32{0x3fa0cccc, 0xc0ce3e78, 0xc2c36395}},
		{-22.9, 10, []float32{200.3, 120.7, -77.7},
			[]uint32{
				0x4307ea27, 0x4337be48, 0xc0b8fb80, 0x430de4ab, 0x4319d9b3, 0x4325cebc, 0x4331c3c4, 0x431de9b2, 0x42d4810e, 0x425a5d6c,
				0x403b8c00, 0x413ee646, 0x423d6b94, 0x42a58ecc, 0x42ec67cd},
			[]uint32{0x4284899a, 0x3f81332c, 0xbfccbc49}},
	} {
		still, code := impl.StillFlat(threeRooms(), c.outside, c.sun, c.gains)
		isFlat(t, "StillFlat", still, withHeatsOf(threeRooms(), numbersOf(c.still...)...), code, impl.OK)
		gains, code := impl.GainsFor(threeRooms(), c.outside, c.sun, []float32{21.5, 18.25, -3.3})
		areNumbers(t, "GainsFor", gains, numbersOf(c.wants...), code, impl.OK)
	}
}

func TestP9KnownAnswers(t *testing.T) {
	for _, c := range []struct {
		rows    [][]float32
		right   []float32
		answers []uint32
	}{
		{[][]float32{{7}}, []float32{3}, []uint32{0x3edb6db7}},
		{[][]float32{{0.1, 0.7}, {0.3, -0.9}}, []float32{1.1, 2.3}, []uint32{0x410aaaaa, 0x3eaaaaae}},
		{[][]float32{{0.3, -0.9}, {-0.3, 0.7}}, []float32{1.1, 2.3}, []uint32{0xc23d5555, 0xc1880001}},
		{[][]float32{{0.001, 7, -3}, {5.5, 0.2, 1.7}, {-5.5, 3.1, 0.6}}, []float32{1, -2.2, 3.3}, []uint32{0xbeeb9547, 0x3e5c9872, 0x3e2d3b83}},
		{[][]float32{{0, 0, 4, 1.5}, {2.5, 1.25, -0.3, 7}, {-2.5, 8, 0.9, 0.01}, {1, 1, 1, 1}}, []float32{3, 1.1, -4.7, 0.6},
			[]uint32{0x3e9d46b3, 0xbf118ebd, 0x3f2ee368, 0x3e368654}},
		{[][]float32{{1.1, 2.2, 3.3, 4.4, 5.5}, {0.3, -0.9, 0.1, 0.7, -0.2}, {-1.1, 0.4, 0.6, 0.1, 0.9}, {1.1, 0.8, -0.5, 0.25, 0.3}, {0.01, 10, -10, 0.33, 6.6}},
			[]float32{1, 2, 3, 4, 5}, []uint32{0xc295e1e4, 0x430eac2b, 0x41c51014, 0x4321bb1f, 0xc33a103d}},
		{[][]float32{
			{0.05, 0.5, 0.9, 0.1, 0.3, 0.4, 0.4, 0.3}, {0.3, 0.95, 0.3, 0.7, 1, 0.1, 0.2, 0.2}, {0.6, 0.2, 0.85, 0.2, 0.6, 0.9, 0, 0.1},
			{0.9, 0.6, 0.2, 0.85, 0.2, 0.6, 0.9, 0}, {0.1, 1, 0.7, 0.3, 0.95, 0.3, 0.7, 1}, {0.4, 0.3, 0.1, 0.9, 0.5, 0.05, 0.5, 0.9},
			{0.7, 0.7, 0.6, 0.4, 0.1, 0.8, 0.35, 0.8}, {1, 0, 0, 1, 0.8, 0.5, 0.1, 0.75}},
			[]float32{1, 0.5, -0.25, 3, 0.1, -7, 0.3, 2.2},
			[]uint32{0x43079df0, 0x4061cf94, 0x42542e08, 0xc28fa16b, 0x4024ce73, 0xc2fe7a4f, 0x40b4fb13, 0xbf4f7d0e}},
	} {
		answers, code := impl.SolveHeats(c.rows, c.right)
		areNumbers(t, "SolveHeats", answers, numbersOf(c.answers...), code, impl.OK)
	}
}

// equations have so many rows; some of their numbers have the same size as others.
func (d *dice) equations(count int, number func() float32) ([][]float32, []float32) {
	rows, right := make([][]float32, count), make([]float32, count)
	for i := range rows {
		rows[i], right[i] = make([]float32, count), number()
		for k := range rows[i] {
			rows[i][k] = number()
		}
		if i > 0 && d.roll(3) == 0 {
			k := d.roll(count)
			rows[i][k] = d.pick(1, -1) * rows[d.roll(i)][k]
		}
	}
	return rows, right
}

func TestP9SolveHeatsIsAsTold(t *testing.T) {
	d := dice(101)
	codes := map[int64]int{}
	for range 6000 {
		number := func() float32 { return d.share()*20 - 10 }
		switch d.roll(6) {
		case 0:
			number = func() float32 { return d.pick(0, negZero, 1, -1, 0.5, 3) }
		case 1:
			number = func() float32 { return d.pick(0, 1, -d.share(), tiny, -tiny, 1e-39, 1e-20, 1e20) }
		case 2:
			number = func() float32 { return d.pick(0, big, -big, 3e38, -2e38, 1, -1, d.share()) }
		}
		rows, right := d.equations(1+d.roll(8), number)
		want, wantCode := modelSolve(rows, right)
		got, code := impl.SolveHeats(rows, right)
		areNumbers(t, "SolveHeats", got, want, code, wantCode)
		codes[code]++
	}
	if codes[impl.OK] < 1000 || codes[impl.ErrState] < 500 {
		t.Errorf("too few of a kind: %v", codes)
	}
}

func TestP9EquationsAreSolved(t *testing.T) {
	d := dice(102)
	for range 1000 {
		rows, right := d.equations(1+d.roll(8), func() float32 { return d.share()*2 - 1 })
		for i := range rows {
			// Such rows lose little in roundings.
			rows[i][(i+3)%len(rows)] = d.pick(-12, 12, 10)
		}
		answers, code := impl.SolveHeats(rows, right)
		isCode(t, "SolveHeats", code, impl.OK)
		for i, row := range rows {
			sum := -float64(right[i])
			for k, a := range row {
				sum += float64(a) * float64(answers[k])
			}
			if math.Abs(sum) > 1e-5 {
				t.Errorf("%v, %v: got %v, and %v is missing", rows, right, answers, sum)
			}
		}
	}
}

// Each order of the rows has a pivot in another place.
func TestP9RowsInAnyOrder(t *testing.T) {
	for count := 1; count <= 8; count++ {
		for shift := range count {
			rows, right, want := make([][]float32, count), make([]float32, count), make([]float32, count)
			for i := range rows {
				k := (i + shift) % count
				rows[i] = make([]float32, count)
				rows[i][k], right[i], want[k] = -4, float32(i)+1, -(float32(i)+1)/4
			}
			got, code := impl.SolveHeats(rows, right)
			areNumbers(t, "shifted", got, want, code, impl.OK)
			slices.Reverse(rows)
			slices.Reverse(right)
			got, code = impl.SolveHeats(rows, right)
			areNumbers(t, "reversed", got, want, code, impl.OK)
		}
	}
}

func TestP9Pivots(t *testing.T) {
	for _, c := range []struct {
		name        string
		rows        [][]float32
		right, want []float32
		code        int64
	}{
		{"a 0 in the first row", [][]float32{{0, 1}, {1, 0}}, []float32{5, 7}, []float32{7, 5}, impl.OK},
		{"a -0 in the first row", [][]float32{{negZero, 1}, {1, 0}}, []float32{5, 7}, []float32{7, 5}, impl.OK},
		{"a small number in the first row", [][]float32{{1e-10, 1}, {1, 1}}, []float32{1, 2}, []float32{1, 1}, impl.OK},
		{"a small number, and a negative one", [][]float32{{1e-10, 1}, {-1, 1}}, []float32{1, 0}, []float32{1, 1}, impl.OK},
		{"the first one of several", [][]float32{{1, 1e10}, {1, 1}}, []float32{1e10, 2}, []float32{0, 1}, impl.OK},
		{"the first one of several, turned round", [][]float32{{1, 1}, {1, 1e10}}, []float32{2, 1e10}, []float32{1, 1}, impl.OK},
		{"the first one, of other signs", [][]float32{{-1, 1e10}, {1, 1}}, []float32{1e10, 2}, []float32{negZero, 1}, impl.OK},
		{"rows above do not count", [][]float32{{3, 9, 0}, {0, 0, 2}, {0, 1, 0}}, []float32{12, 4, 1}, []float32{1, 1, 2}, impl.OK},
		{"the last row", [][]float32{{1, 2, 1}, {2, 4, 1}, {4, 4, 4}}, []float32{4, 7, 12}, []float32{1, 1, 1}, impl.OK},
		{"one row", [][]float32{{-4}}, []float32{2}, []float32{-0.5}, impl.OK},
		{"one row of 0", [][]float32{{0}}, []float32{2}, nil, impl.ErrState},
		{"one row of -0", [][]float32{{negZero}}, []float32{0}, nil, impl.ErrState},
		{"a column of zeros", [][]float32{{1, 0, 2}, {3, negZero, 4}, {5, 0, 6}}, []float32{1, 2, 3}, nil, impl.ErrState},
		{"a row of zeros", [][]float32{{1, 2}, {0, 0}}, []float32{1, 0}, nil, impl.ErrState},
		{"a row that is another one twice", [][]float32{{1, 2}, {2, 4}}, []float32{1, 2}, nil, impl.ErrState},
		{"0 only in the last column", [][]float32{{1, 0, 0}, {0, 1, 0}, {0, 0, 0}}, []float32{1, 1, 1}, nil, impl.ErrState},
		{"a tiny pivot", [][]float32{{tiny}}, []float32{tiny}, []float32{1}, impl.OK},
		{"a tiny pivot is none of 0", [][]float32{{1, 0}, {0, tiny}}, []float32{1, 0}, []float32{1, 0}, impl.OK},
	} {
		got, code := impl.SolveHeats(c.rows, c.right)
		areNumbers(t, c.name, got, c.want, code, c.code)
	}
}

func TestP9NumbersThatAreNotFinite(t *testing.T) {
	for _, c := range []struct {
		name        string
		rows        [][]float32
		right, want []float32
		code        int64
	}{
		{"an answer", [][]float32{{tiny}}, []float32{1}, nil, impl.ErrState},
		{"one of several answers", [][]float32{{1, 0}, {0, tiny}}, []float32{0, 1}, nil, impl.ErrState},
		{"an answer that is just finite", [][]float32{{0.5}}, []float32{big / 2}, []float32{big}, impl.OK},
		{"an answer that is just not", [][]float32{{0.5}}, []float32{above(big / 2)}, nil, impl.ErrState},
		{"a quotient", [][]float32{{1, big}, {0, tiny}}, []float32{1, 0}, nil, impl.ErrState},
		{"a product", [][]float32{{1, 1}, {0, 1e-30}}, []float32{1, 1e10}, nil, impl.ErrState},
		{"a right side", [][]float32{{1, 1}, {1, -1}}, []float32{big, -big}, nil, impl.ErrState},
		// An infinite pivot may still have answers: a finite number divided by it is 0.
		{"a pivot", [][]float32{{1, -3e38}, {1, 3e38}}, []float32{1, 1}, []float32{1, 0}, impl.OK},
		{"a negative pivot", [][]float32{{big, big}, {big, -big}}, []float32{big, big}, []float32{1, negZero}, impl.OK},
		{"a pivot and its right side", [][]float32{{1, -3e38}, {1, 3e38}}, []float32{-big, big}, nil, impl.ErrState},
		{"two of a column", [][]float32{{1, -big, 0}, {1, big, 0}, {1, big, 1}}, []float32{1, 1, 1}, nil, impl.ErrState},
		{"two of a row", [][]float32{{1, -big, -big}, {1, big, big}, {1, 1, 2}}, []float32{1, 1, 1}, nil, impl.ErrState},
	} {
		got, code := impl.SolveHeats(c.rows, c.right)
		areNumbers(t, c.name, got, c.want, code, c.code)
		want, wantCode := modelSolve(c.rows, c.right)
		areNumbers(t, c.name+", as told", want, c.want, wantCode, c.code)
	}
}

// What is taken away is taken away where it is 0, too: so a -0 may become 0.
func TestP9SignedZerosOfAnswers(t *testing.T) {
	for _, c := range []struct {
		rows        [][]float32
		right, want []float32
	}{
		{[][]float32{{1}}, []float32{negZero}, []float32{negZero}},
		{[][]float32{{-1}}, []float32{0}, []float32{negZero}},
		{[][]float32{{-1}}, []float32{negZero}, []float32{0}},
		{[][]float32{{1, 0}, {0, 1}}, []float32{negZero, -5}, []float32{0, -5}},
		{[][]float32{{1, 0}, {0, 1}}, []float32{negZero, 5}, []float32{negZero, 5}},
		{[][]float32{{1, negZero}, {0, 1}}, []float32{negZero, 5}, []float32{0, 5}},
		{[][]float32{{1, 0}, {0, 1}}, []float32{-5, negZero}, []float32{-5, 0}},
		{[][]float32{{1, 0}, {negZero, 1}}, []float32{5, negZero}, []float32{5, 0}},
	} {
		got, code := impl.SolveHeats(c.rows, c.right)
		areNumbers(t, "SolveHeats", got, c.want, code, impl.OK)
	}
}

func TestP9LeadBetweenIsAsTold(t *testing.T) {
	d := dice(103)
	for range 300 {
		f := d.flat()
		for a := int64(-1); a < int64(len(f.Heat)); a++ {
			for b := int64(-1); b < int64(len(f.Heat)); b++ {
				lead, code := impl.LeadBetween(f, a, b)
				if a == b {
					isNumberAnd(t, "the same", lead, 0, code, impl.ErrRange)
				} else {
					isNumberAnd(t, "LeadBetween", lead, modelLead(f, a, b), code, impl.OK)
				}
			}
		}
	}
}

func TestP9StillFlatIsAsTold(t *testing.T) {
	d := dice(104)
	codes := map[int64]int{}
	for range 3000 {
		f, outside, sun := d.flat(), d.outside(), d.sun()
		if d.roll(2) == 0 {
			f = d.calmFlat()
		}
		gains := d.gainsFor(f, d.pick(10, 300, 100000))
		want, wantCode := modelStill(f, outside, sun, gains)
		got, code := impl.StillFlat(f, outside, sun, gains)
		isFlat(t, "StillFlat", got, want, code, wantCode)
		codes[code]++
	}
	if codes[impl.OK] < 500 || codes[impl.ErrState] < 500 {
		t.Errorf("too few of a kind: %v", codes)
	}
}

func TestP9AStillFlatStays(t *testing.T) {
	d := dice(105)
	for range 300 {
		f, outside, sun := d.calmFlat(), d.share()*40-10, d.share()*3
		gains := d.gainsFor(f, 20)
		still, code := impl.StillFlat(f, outside, sun, gains)
		isCode(t, "StillFlat", code, impl.OK)
		after, _, code := impl.StepsFlat(still, outside, sun, gains, 0.0625, impl.MaxRoomSteps)
		isCode(t, "StepsFlat", code, impl.OK)
		for i, heat := range allHeatsOf(after) {
			if gap := heat - allHeatsOf(still)[i]; math.Abs(float64(gap)) > 0.02 {
				t.Errorf("%v: the heat %v becomes %v", still, allHeatsOf(still)[i], heat)
			}
		}
		again, code := impl.StillFlat(after, outside, sun, gains)
		isFlat(t, "still heats do not depend on the heats before", again, still, code, impl.OK)
	}
}

// A flat comes near its still heats, wherever it begins.
func TestP9AFlatBecomesStill(t *testing.T) {
	f := threeRooms()
	for i := range f.Store {
		f.Store[i] = 20
	}
	gains := []float32{30, 3, 7}
	still, code := impl.StillFlat(f, -7.3, 2, gains)
	isCode(t, "StillFlat", code, impl.OK)
	for range 20 {
		f, _, code = impl.StepsFlat(f, -7.3, 2, gains, 0.25, impl.MaxRoomSteps)
		isCode(t, "StepsFlat", code, impl.OK)
	}
	for i, heat := range allHeatsOf(f) {
		if gap := heat - allHeatsOf(still)[i]; math.Abs(float64(gap)) > 0.01 {
			t.Errorf("got %v, want %v", f, still)
		}
	}
}

func TestP9PartsOfStillWalls(t *testing.T) {
	f := flatWith(2, 2, 2, 2)
	f.Walls[0] = impl.Wall{A: 1, B: 0, Lead: 1, Store: 1}
	f.Panes[1] = impl.Pane{A: 1, B: -1, Lead: 1}
	still, code := impl.StillFlat(f, 0, 0, []float32{12, 12})
	want, _ := modelStill(f, 0, 0, []float32{12, 12})
	isFlat(t, "StillFlat", still, want, code, impl.OK)
	a, b := still.Heat[1], still.Heat[0]
	for k, part := range []float32{0.125, 0.375, 0.625, 0.875} {
		isNumber(t, "a wall between rooms", still.Walls[0].Heat[k], plus(a, times(minus(b, a), part)))
		isNumber(t, "a wall to the outside", still.Walls[1].Heat[k], plus(b, times(minus(0, b), part)))
	}
	if a <= b || b <= 0 {
		t.Errorf("the first part of a wall is at A: %v", still)
	}
}

func TestP9FlatsThatHaveNoStillHeats(t *testing.T) {
	refuse := func(name string, f impl.Flat, outside, sun float32, gains []float32) {
		t.Helper()
		got, code := impl.StillFlat(f, outside, sun, gains)
		isFlat(t, name, got, impl.Flat{}, code, impl.ErrState)
	}
	refuse("a room that is joined to nothing", flatWith(1, 1, 0, 0), 0, 0, []float32{0})
	refuse("one of two rooms that is joined to nothing", flatWith(2, 2, 3, 3), 0, 0, []float32{0, 0})
	apart := flatWith(3, 3, 0, 2)
	apart.Panes[1] = impl.Pane{A: 1, B: 2, Lead: 3}
	refuse("two rooms that are joined to each other alone", apart, 0, 0, []float32{0, 0, 0})
	wall := flatWith(2, 2, 1, 0)
	wall.Walls[0].B = 1
	refuse("a wall between them alone", wall, 5, 0, []float32{1, -1})
	shut := exampleFlat()
	shut.Panes[0].Lead = 0
	refuse("a pane that is shut", shut, 0, 0, []float32{0})
	shut.Panes[0].Lead = tiny
	refuse("a pane that is nearly shut", shut, 60, 0, []float32{0.001})
	still, code := impl.StillFlat(shut, 0, 0, []float32{0})
	isFlat(t, "a pane that is nearly shut", still, withHeatsOf(shut, 0), code, impl.OK)
	refuse("too hot", exampleFlat(), 0, 0, []float32{above(200)})
	refuse("too cold", exampleFlat(), 0, 0, []float32{below(-60)})
	for _, gain := range []float32{200, -60} {
		still, code := impl.StillFlat(exampleFlat(), 0, 0, []float32{gain})
		isFlat(t, "at a bound", still, withHeatsOf(exampleFlat(), gain), code, impl.OK)
	}
	sunny := exampleFlat()
	sunny.Panes[0].Sun = 10
	refuse("too sunny", sunny, 60, 10, []float32{41})
	still, code = impl.StillFlat(sunny, 60, 10, []float32{40})
	isFlat(t, "just so sunny", still, withHeatsOf(sunny, 200), code, impl.OK)
}

// What is not between rooms is 0, and not -0, which would turn what is taken away into the other 0.
func TestP9SignedZerosOfStillHeats(t *testing.T) {
	apart := flatWith(2, 2, 2, 0)
	apart.Walls[1].A, apart.Walls[0].Lead, apart.Walls[1].Lead = 1, 4, 4
	for _, c := range []struct{ gains, want []float32 }{
		{[]float32{negZero, 5}, []float32{negZero, 5}}, {[]float32{negZero, -5}, []float32{0, -5}}, {[]float32{5, negZero}, []float32{5, negZero}},
		{[]float32{-5, negZero}, []float32{-5, 0}}, {[]float32{0, 5}, []float32{0, 5}}, {[]float32{negZero, negZero}, []float32{negZero, 0}},
	} {
		still, code := impl.StillFlat(apart, negZero, 0, c.gains)
		areNumbers(t, "StillFlat", still.Heat, c.want, code, impl.OK)
		want, wantCode := modelStill(apart, negZero, 0, c.gains)
		isFlat(t, "as told", still, want, code, wantCode)
	}
	sunny := copyFlat(apart)
	sunny.Panes = []impl.Pane{{A: 0, B: -1}}
	still, code := impl.StillFlat(sunny, negZero, 0, []float32{negZero, 5})
	areNumbers(t, "-0 plus no sun", still.Heat, []float32{0, 5}, code, impl.OK)
	wall := flatWith(1, 1, 1, 0)
	still, code = impl.StillFlat(wall, negZero, 0, []float32{negZero})
	isFlat(t, "parts", still, withHeatsOf(wall, negZero, 0, 0, 0, 0), code, impl.OK)
}

func TestP9GainsForIsAsTold(t *testing.T) {
	d := dice(106)
	for range 3000 {
		f, outside, sun := d.flat(), d.outside(), d.sun()
		var wants []float32
		for range f.Heat {
			wants = append(wants, d.flatHeat())
		}
		gains, code := impl.GainsFor(f, outside, sun, wants)
		areNumbers(t, "GainsFor", gains, modelGains(f, outside, sun, wants), code, impl.OK)
	}
}

// The gains for still heats are those with which they are still, and the other way round.
func TestP9GainsForStillHeats(t *testing.T) {
	d := dice(107)
	for range 500 {
		f, outside, sun := d.calmFlat(), d.share()*40-10, d.share()*3
		gains := d.gainsFor(f, 8)
		still, code := impl.StillFlat(f, outside, sun, gains)
		isCode(t, "StillFlat", code, impl.OK)
		back, code := impl.GainsFor(f, outside, sun, still.Heat)
		isCode(t, "GainsFor", code, impl.OK)
		for i, gain := range back {
			if math.Abs(float64(gain-gains[i])) > 0.01 {
				t.Errorf("%v: got the gains %v, want %v", f, back, gains)
			}
		}
		wants := slices.Clone(f.Heat)
		told, _ := impl.GainsFor(f, outside, sun, wants)
		held, code := impl.StillFlat(f, outside, sun, told)
		isCode(t, "StillFlat", code, impl.OK)
		for i, heat := range held.Heat {
			if math.Abs(float64(heat-wants[i])) > 0.01 {
				t.Errorf("%v: got the heats %v, want %v", f, held.Heat, wants)
			}
		}
	}
}

func TestP9SignedZerosOfGains(t *testing.T) {
	gains, code := impl.GainsFor(flatWith(2, 2, 0, 0), 5, 1, []float32{negZero, -5})
	areNumbers(t, "nothing there", gains, []float32{0, 0}, code, impl.OK)
	f := exampleFlat()
	f.Panes[0].Lead = 0
	gains, code = impl.GainsFor(f, 5, 0, []float32{-5})
	areNumbers(t, "0 plus -0, less 0", gains, []float32{0}, code, impl.OK)
	f.Panes[0].Sun = tiny
	gains, code = impl.GainsFor(f, 5, 0.25, []float32{-5})
	areNumbers(t, "a sun that is lost", gains, []float32{0}, code, impl.OK)
	gains, code = impl.GainsFor(f, 5, 1, []float32{-5})
	areNumbers(t, "a sun that is not", gains, []float32{-tiny}, code, impl.OK)
}

func TestP9ColdestRoom(t *testing.T) {
	for _, c := range []struct {
		heats []float32
		want  int64
	}{
		{[]float32{20}, 0}, {[]float32{20, 10}, 1}, {[]float32{10, 20}, 0}, {[]float32{10, 10}, 0}, {[]float32{20, 10, 10}, 1}, {[]float32{0, negZero}, 0},
		{[]float32{negZero, 0}, 0}, {[]float32{5, -60, 200, -60, -60}, 1}, {[]float32{5, 4, 3, 2, 1}, 4}, {[]float32{200, 200, below(200)}, 2}, {[]float32{0, -tiny}, 1},
	} {
		f := withHeatsOf(flatWith(len(c.heats), len(c.heats), 1, 1), append(slices.Clone(c.heats), -60, -60, -60, -60)...)
		room, code := impl.ColdestRoom(f)
		isCount(t, "ColdestRoom", room, c.want, code, impl.OK)
	}
	d := dice(108)
	for range 300 {
		f := d.flat()
		room, code := impl.ColdestRoom(f)
		isCount(t, "ColdestRoom", room, int64(slices.Index(f.Heat, slices.Min(f.Heat))), code, impl.OK)
	}
}
