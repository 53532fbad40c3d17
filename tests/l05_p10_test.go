package tests

import (
	"math"
	"testing"

	"loop.example/g01229/impl"
)

// Promise 10: sums, differences and products of numbers within spans lie within their spans.

func TestP10NextNumbers(t *testing.T) {
	least := math.Float32frombits(1 << 23)
	for _, c := range []struct{ a, up float32 }{
		{1, math.Float32frombits(0x3f800001)}, {math.Float32frombits(0x3f7fffff), 1}, {-1, math.Float32frombits(0xbf7fffff)},
		{0, tiny}, {negZero, tiny}, {-tiny, negZero}, {tiny, 2 * tiny}, {-2 * tiny, -tiny},
		{math.Float32frombits(0x007fffff), least}, {-least, math.Float32frombits(0x807fffff)},
		{big, inf}, {inf, inf}, {-inf, -big}, {-big, math.Float32frombits(0xff7ffffe)}, {nan, nan}, {otherNaN, nan},
		{2, 2 + 1.0/(1<<22)}, {1 << 24, 1<<24 + 2}, {-(1<<24 + 2), -(1 << 24)},
	} {
		isNumber(t, "NextUp", impl.NextUp(c.a), c.up)
		isNumber(t, "NextDown of the opposite", impl.NextDown(times(-1, c.a)), times(-1, c.up))
	}
	for _, c := range []struct{ a, down float32 }{
		{tiny, 0}, {0, -tiny}, {negZero, -tiny}, {inf, big}, {-inf, -inf}, {-big, -inf}, {big, math.Float32frombits(0x7f7ffffe)}, {1, math.Float32frombits(0x3f7fffff)},
	} {
		isNumber(t, "NextDown", impl.NextDown(c.a), c.down)
	}
}

func TestP10NothingIsBetweenNextNumbers(t *testing.T) {
	check := func(a float32) {
		up := impl.NextUp(a)
		isNumber(t, "NextUp", up, modelUp(a))
		isNumber(t, "NextDown", impl.NextDown(a), modelDown(a))
		if !isGood(a) || !isGood(up) {
			return
		}
		if middle := float32((float64(a) + float64(up)) / 2); !(up > a) || middle != a && middle != up {
			t.Fatalf("NextUp(%v): got %v, but %v is between them", a, up, middle)
		}
		if a != 0 && a != -tiny && impl.NextDown(up) != a {
			t.Fatalf("NextDown(%v): got %v, want %v", up, impl.NextDown(up), a)
		}
	}
	// Each exponent, of both signs, with the mantissas at its ends.
	for high := range uint32(1 << 9) {
		for _, low := range []uint32{0, 1, 2, 1<<22 - 1, 1 << 22, 1<<23 - 2, 1<<23 - 1} {
			check(math.Float32frombits(high<<23 | low))
		}
	}
	for bits := uint64(0); bits < 1<<32; bits += 65521 {
		check(math.Float32frombits(uint32(bits)))
	}
}

// spanCall is a function of two spans.
type spanCall struct {
	name string
	do   func(s, t impl.Span) (impl.Span, int64)
	want func(s, t impl.Span) impl.Span
}

// outwardCalls are those for which there is an operation with numbers.
func outwardCalls() []spanCall {
	return []spanCall{{"AddSpans", impl.AddSpans, modelAdd}, {"SubSpans", impl.SubSpans, modelSub}, {"MulSpans", impl.MulSpans, modelMul}}
}

func spanCalls() []spanCall {
	return append(outwardCalls(), []spanCall{
		{"JoinSpans", impl.JoinSpans, modelJoin}, {"LessSpans", impl.LessSpans, modelLess}, {"MeetSpans", impl.MeetSpans, modelMeet},
	}...)
}

func operationOf(name string, a, b float32) float32 {
	switch name {
	case "AddSpans":
		return a + b
	case "SubSpans":
		return a - b
	}
	return a * b
}

func TestP10KnownSums(t *testing.T) {
	one := impl.Span{Low: 1, High: 1}
	for _, c := range []struct {
		name string
		s, t impl.Span
		want impl.Span
	}{
		{"AddSpans", one, one, impl.Span{Low: math.Float32frombits(0x3fffffff), High: math.Float32frombits(0x40000001)}},
		{"SubSpans", one, one, impl.Span{Low: -tiny, High: tiny}},
		{"MulSpans", one, one, impl.Span{Low: math.Float32frombits(0x3f7fffff), High: math.Float32frombits(0x3f800001)}},
		{"AddSpans", impl.Span{Low: -1, High: 2}, impl.Span{Low: 4, High: 30}, impl.Span{Low: math.Float32frombits(0x403fffff), High: math.Float32frombits(0x42000001)}},
		{"SubSpans", impl.Span{Low: -1, High: 2}, impl.Span{Low: 3, High: 30}, impl.Span{Low: math.Float32frombits(0xc1f80001), High: math.Float32frombits(0xbf7fffff)}},
		{"MulSpans", impl.Span{Low: -2, High: 3}, impl.Span{Low: -1, High: 4}, impl.Span{Low: math.Float32frombits(0xc1000001), High: math.Float32frombits(0x41400001)}},
		{"MulSpans", impl.Span{Low: -3, High: -2}, impl.Span{Low: -4, High: -1}, impl.Span{Low: math.Float32frombits(0x3fffffff), High: math.Float32frombits(0x41400001)}},
		{"MulSpans", impl.Span{Low: -3, High: 2}, impl.Span{Low: -4, High: -1}, impl.Span{Low: math.Float32frombits(0xc1000001), High: math.Float32frombits(0x41400001)}},
		{"MulSpans", impl.Span{Low: 0, High: 3}, impl.Span{Low: -4, High: 0}, impl.Span{Low: math.Float32frombits(0xc1400001), High: tiny}},
		{"MulSpans", impl.Span{Low: tiny, High: tiny}, impl.Span{Low: 0.5, High: 0.5}, impl.Span{Low: -tiny, High: tiny}},
		{"AddSpans", impl.Span{Low: 0, High: negZero}, impl.Span{Low: 0, High: negZero}, impl.Span{Low: -tiny, High: tiny}},
		{"AddSpans", impl.Span{Low: -3 * tiny, High: -3 * tiny}, impl.Span{Low: 2 * tiny, High: 2 * tiny}, impl.Span{Low: -2 * tiny, High: negZero}},
		{"SubSpans", impl.Span{Low: 3 * tiny, High: 3 * tiny}, impl.Span{Low: 2 * tiny, High: 2 * tiny}, impl.Span{Low: 0, High: 2 * tiny}},
	} {
		for _, call := range outwardCalls() {
			if call.name == c.name {
				got, code := call.do(c.s, c.t)
				isSpan(t, c.name, got, c.want, code, impl.OK)
			}
		}
	}
}

func TestP10InfiniteEnds(t *testing.T) {
	whole, line := impl.Span{Low: -inf, High: inf}, impl.Span{Low: -1, High: 2}
	up, down := impl.Span{Low: inf, High: inf}, impl.Span{Low: -inf, High: -inf}
	over, under := impl.Span{Low: big, High: inf}, impl.Span{Low: -inf, High: -big}
	zero := impl.Span{}
	for _, c := range []struct {
		s, t           impl.Span
		sum, less, mul impl.Span
	}{
		{whole, whole, whole, whole, whole},
		{whole, line, whole, whole, whole},
		{line, whole, whole, whole, whole},
		{up, up, over, whole, over},
		{up, down, whole, over, under},
		{down, up, whole, under, under},
		{down, down, under, whole, over},
		{up, line, over, over, whole},
		{down, line, under, under, whole},
		{up, zero, over, over, whole},
		{zero, down, under, over, whole},
		{whole, zero, whole, whole, whole},
		{up, whole, whole, whole, whole},
		{impl.Span{Low: big, High: big}, impl.Span{Low: big, High: big}, over, impl.Span{Low: -tiny, High: tiny}, over},
		{impl.Span{Low: -big, High: big}, impl.Span{Low: -big, High: big}, whole, whole, whole},
		{impl.Span{Low: 1, High: inf}, impl.Span{Low: -inf, High: -1}, whole, impl.Span{Low: below(2), High: inf}, impl.Span{Low: -inf, High: above(-1)}},
		{impl.Span{Low: 0, High: inf}, impl.Span{Low: 0, High: 1}, impl.Span{Low: -tiny, High: inf}, impl.Span{Low: below(-1), High: inf}, whole},
		{impl.Span{Low: 0, High: inf}, impl.Span{Low: 2, High: 3}, impl.Span{Low: below(2), High: inf}, impl.Span{Low: below(-3), High: inf}, impl.Span{Low: -tiny, High: inf}},
		{up, impl.Span{Low: -inf, High: 5}, whole, over, whole},
	} {
		sum, code := impl.AddSpans(c.s, c.t)
		isSpan(t, "AddSpans", sum, c.sum, code, impl.OK)
		less, code := impl.SubSpans(c.s, c.t)
		isSpan(t, "SubSpans", less, c.less, code, impl.OK)
		mul, code := impl.MulSpans(c.s, c.t)
		isSpan(t, "MulSpans", mul, c.mul, code, impl.OK)
	}
}

func TestP10SpansAreAsTold(t *testing.T) {
	check := func(s, u impl.Span) {
		for _, call := range spanCalls() {
			want, wantCode := call.want(s, u), int64(impl.OK)
			if !modelValidSpan(want) {
				want, wantCode = impl.Span{}, impl.ErrNotFound
			}
			got, code := call.do(s, u)
			isSpan(t, call.name, got, want, code, wantCode)
			if code == impl.OK && !impl.ValidSpan(got) {
				t.Errorf("%s(%v, %v): got %v, which is not valid", call.name, s, u, got)
			}
		}
	}
	spans := edgeSpans(edgeNumbers())
	for _, s := range spans {
		for _, u := range spans {
			check(s, u)
		}
	}
	d := dice(101)
	for range 50000 {
		check(d.span(), d.span())
	}
}

// Each sum, difference and product that is no NaN lies within.
func TestP10EdgesLieWithin(t *testing.T) {
	edges := []float32{-inf, -big, -3, -tiny, negZero, 0, tiny, 0.1, 1, big, inf}
	spans := edgeSpans(edges)
	for _, call := range outwardCalls() {
		for _, s := range spans {
			for _, u := range spans {
				around, _ := call.do(s, u)
				for _, a := range edges {
					for _, b := range edges {
						c := operationOf(call.name, a, b)
						if impl.InSpan(s, a) && impl.InSpan(u, b) && c == c && !impl.InSpan(around, c) {
							t.Fatalf("%s(%v, %v): %v and %v give %v, which is not in %v", call.name, s, u, a, b, c, around)
						}
					}
				}
			}
		}
	}
}

func TestP10NumbersLieWithin(t *testing.T) {
	d := dice(102)
	for range 200000 {
		s, u := d.span(), d.span()
		a, b := d.inside(s), d.inside(u)
		for _, call := range outwardCalls() {
			around, code := call.do(s, u)
			exact := float64(a) - float64(b)
			switch call.name {
			case "AddSpans":
				exact = float64(a) + float64(b)
			case "MulSpans":
				exact = float64(a) * float64(b)
			}
			if exact != exact {
				continue
			}
			// Going outward is what makes exact results lie within as well.
			if c := operationOf(call.name, a, b); code != impl.OK || !impl.InSpan(around, c) || exact < float64(around.Low) || exact > float64(around.High) {
				t.Fatalf("%s(%v, %v): %v and %v give %v, which is not in %v", call.name, s, u, a, b, exact, around)
			}
		}
	}
}

func TestP10ValidSpans(t *testing.T) {
	for _, s := range edgeSpans(edgeNumbers()) {
		if !impl.ValidSpan(s) || !impl.InSpan(s, s.Low) || !impl.InSpan(s, s.High) {
			t.Errorf("%v is valid, and has its ends", s)
		}
		for _, a := range edgeNumbers() {
			if got, want := impl.InSpan(s, a), !(a < s.Low) && !(a > s.High); got != want {
				t.Errorf("InSpan(%v, %v): got %v", s, a, got)
			}
		}
		if impl.InSpan(s, nan) || impl.InSpan(s, otherNaN) {
			t.Errorf("NaN is not in %v", s)
		}
	}
	for _, s := range noSpans() {
		if impl.ValidSpan(s) {
			t.Errorf("%v is not valid", s)
		}
		for _, a := range append(edgeNumbers(), s.Low, s.High, nan) {
			if impl.InSpan(s, a) {
				t.Errorf("%v is not in %v, which is not valid", a, s)
			}
		}
	}
	for _, s := range []impl.Span{{Low: 0, High: negZero}, {Low: negZero, High: 0}, {}} {
		if !impl.ValidSpan(s) || !impl.InSpan(s, 0) || !impl.InSpan(s, negZero) || impl.InSpan(s, tiny) || impl.InSpan(s, -tiny) {
			t.Errorf("%v is valid, and has 0 and -0", s)
		}
	}
}

// Of ends that are equal, 0 and -0 among them, that of s is taken.
func TestP10EqualEnds(t *testing.T) {
	for _, c := range []struct{ s, t, meet, join impl.Span }{
		{impl.Span{Low: 0, High: 1}, impl.Span{Low: negZero, High: 2}, impl.Span{Low: 0, High: 1}, impl.Span{Low: 0, High: 2}},
		{impl.Span{Low: negZero, High: 1}, impl.Span{Low: 0, High: 2}, impl.Span{Low: negZero, High: 1}, impl.Span{Low: negZero, High: 2}},
		{impl.Span{Low: -1, High: 0}, impl.Span{Low: -2, High: negZero}, impl.Span{Low: -1, High: 0}, impl.Span{Low: -2, High: 0}},
		{impl.Span{Low: -1, High: negZero}, impl.Span{Low: -2, High: 0}, impl.Span{Low: -1, High: negZero}, impl.Span{Low: -2, High: negZero}},
		{impl.Span{Low: 0, High: negZero}, impl.Span{Low: negZero, High: 0}, impl.Span{Low: 0, High: negZero}, impl.Span{Low: 0, High: negZero}},
		{impl.Span{Low: negZero, High: 0}, impl.Span{Low: 0, High: negZero}, impl.Span{Low: negZero, High: 0}, impl.Span{Low: negZero, High: 0}},
		{impl.Span{Low: -1, High: 0}, impl.Span{Low: negZero, High: 1}, impl.Span{Low: negZero, High: 0}, impl.Span{Low: -1, High: 1}},
		{impl.Span{Low: 0, High: 1}, impl.Span{Low: -1, High: negZero}, impl.Span{Low: 0, High: negZero}, impl.Span{Low: -1, High: 1}},
		{impl.Span{Low: 1, High: 2}, impl.Span{Low: 1, High: 2}, impl.Span{Low: 1, High: 2}, impl.Span{Low: 1, High: 2}},
		{impl.Span{Low: 1, High: 2}, impl.Span{Low: 2, High: 3}, impl.Span{Low: 2, High: 2}, impl.Span{Low: 1, High: 3}},
		{impl.Span{Low: -inf, High: inf}, impl.Span{Low: 2, High: 3}, impl.Span{Low: 2, High: 3}, impl.Span{Low: -inf, High: inf}},
		{impl.Span{Low: inf, High: inf}, impl.Span{Low: 2, High: inf}, impl.Span{Low: inf, High: inf}, impl.Span{Low: 2, High: inf}},
		{impl.Span{Low: 1, High: 9}, impl.Span{Low: 2, High: 3}, impl.Span{Low: 2, High: 3}, impl.Span{Low: 1, High: 9}},
	} {
		meet, code := impl.MeetSpans(c.s, c.t)
		isSpan(t, "MeetSpans", meet, c.meet, code, impl.OK)
		join, code := impl.JoinSpans(c.s, c.t)
		isSpan(t, "JoinSpans", join, c.join, code, impl.OK)
	}
}

func TestP10SpansThatDoNotMeet(t *testing.T) {
	for _, c := range [][2]impl.Span{
		{{Low: 1, High: 2}, {Low: 5, High: 6}}, {{Low: 1, High: 2}, {Low: above(2), High: 6}}, {{Low: -1, High: negZero}, {Low: tiny, High: 1}},
		{{Low: inf, High: inf}, {Low: 0, High: big}}, {{Low: -inf, High: -inf}, {Low: inf, High: inf}},
	} {
		for _, order := range [][2]int{{0, 1}, {1, 0}} {
			got, code := impl.MeetSpans(c[order[0]], c[order[1]])
			isSpan(t, "MeetSpans", got, impl.Span{}, code, impl.ErrNotFound)
		}
	}
}

func TestP10LessSpans(t *testing.T) {
	yes, no, maybe := impl.Span{Low: 1, High: 1}, impl.Span{}, impl.Span{Low: 0, High: 1}
	for _, c := range []struct{ s, t, want impl.Span }{
		{impl.Span{Low: 1, High: 2}, impl.Span{Low: 5, High: 6}, yes},
		{impl.Span{Low: 1, High: 2}, impl.Span{Low: above(2), High: 6}, yes},
		{impl.Span{Low: 1, High: 2}, impl.Span{Low: 2, High: 6}, maybe},
		{impl.Span{Low: 1, High: 2}, impl.Span{Low: 0, High: 6}, maybe},
		{impl.Span{Low: 1, High: 2}, impl.Span{Low: -1, High: above(1)}, maybe},
		{impl.Span{Low: 1, High: 2}, impl.Span{Low: -1, High: 1}, no},
		{impl.Span{Low: 1, High: 2}, impl.Span{Low: -1, High: 0}, no},
		{impl.Span{Low: 1, High: 1}, impl.Span{Low: 1, High: 1}, no},
		{impl.Span{Low: 0, High: 0}, impl.Span{Low: negZero, High: negZero}, no},
		{impl.Span{Low: negZero, High: negZero}, impl.Span{Low: 0, High: 0}, no},
		{impl.Span{Low: -1, High: negZero}, impl.Span{Low: 0, High: 0}, maybe},
		{impl.Span{Low: -1, High: negZero}, impl.Span{Low: tiny, High: 1}, yes},
		{impl.Span{Low: -inf, High: inf}, impl.Span{Low: -inf, High: inf}, maybe},
		{impl.Span{Low: inf, High: inf}, impl.Span{Low: -inf, High: inf}, no},
		{impl.Span{Low: -inf, High: -inf}, impl.Span{Low: -big, High: inf}, yes},
		{impl.Span{Low: -inf, High: -inf}, impl.Span{Low: -inf, High: inf}, maybe},
	} {
		got, code := impl.LessSpans(c.s, c.t)
		isSpan(t, "LessSpans", got, c.want, code, impl.OK)
	}
}

func TestP10WidthOf(t *testing.T) {
	for _, c := range []struct {
		s    impl.Span
		want float32
		code int64
	}{
		{impl.Span{Low: 1, High: 3}, 2, impl.OK}, {impl.Span{}, 0, impl.OK}, {impl.Span{Low: 0, High: negZero}, negZero, impl.OK},
		{impl.Span{Low: negZero, High: 0}, 0, impl.OK}, {impl.Span{Low: negZero, High: negZero}, 0, impl.OK}, {impl.Span{Low: -tiny, High: tiny}, 2 * tiny, impl.OK},
		{impl.Span{Low: 0, High: big}, big, impl.OK}, {impl.Span{Low: -1, High: big}, big, impl.OK}, {impl.Span{Low: -big, High: big}, 0, impl.ErrState},
		{impl.Span{Low: -1e32, High: big}, 0, impl.ErrState}, {impl.Span{Low: 0, High: inf}, 0, impl.ErrState}, {impl.Span{Low: -inf, High: 0}, 0, impl.ErrState},
		{impl.Span{Low: inf, High: inf}, 0, impl.ErrState}, {impl.Span{Low: -inf, High: -inf}, 0, impl.ErrState}, {impl.Span{Low: -inf, High: inf}, 0, impl.ErrState},
	} {
		got, code := impl.WidthOf(c.s)
		if !sameBits(got, c.want) || code != c.code {
			t.Errorf("WidthOf(%v): got %v and the code %d, want %v and %d", c.s, got, code, c.want, c.code)
		}
	}
	d := dice(103)
	for range 20000 {
		s := d.span()
		want, wantCode := minus(s.High, s.Low), int64(impl.OK)
		if !isGood(want) {
			want, wantCode = 0, impl.ErrState
		}
		if got, code := impl.WidthOf(s); !sameBits(got, want) || code != wantCode {
			t.Errorf("WidthOf(%v): got %v and the code %d, want %v and %d", s, got, code, want, wantCode)
		}
	}
}
