package tests

import (
	"fmt"
	"math"
	"slices"
	"strings"
	"testing"

	"loop.example/g01229/impl"
)

// Promise 1 of chapter 5: every function returns for all arguments, modifies no argument, and returns equal results
// for equal arguments.

func TestP1ControllerConstants(t *testing.T) {
	limits := []int{impl.MaxSource, impl.MaxCode, impl.MaxNames, impl.MaxDepth, impl.Inputs}
	if !slices.Equal(limits, []int{2000, 300, 12, 20, 4}) {
		t.Errorf("got the limits %v", limits)
	}
	kinds := []int{
		impl.OpPush, impl.OpInput, impl.OpLoad, impl.OpStore, impl.OpAdd, impl.OpSub, impl.OpMul, impl.OpLess, impl.OpMin, impl.OpMax, impl.OpPick, impl.OpNeg,
	}
	if !slices.Equal(kinds, []int{1, 2, 3, 4, 5, 6, 7, 8, 9, 10, 11, 12}) {
		t.Errorf("got the kinds %v", kinds)
	}
}

func TestP1InvalidSpansAreTold(t *testing.T) {
	good := append(infiniteSpans(), impl.Span{}, impl.Span{Low: -1, High: 2})
	for _, bad := range noSpans() {
		for _, other := range append(good, noSpans()...) {
			for _, call := range spanCalls() {
				for _, pair := range [][2]impl.Span{{bad, other}, {other, bad}} {
					got, code := call.do(pair[0], pair[1])
					isSpan(t, fmt.Sprint(call.name, pair), got, impl.Span{}, code, impl.ErrInvalid)
				}
			}
		}
		if width, code := impl.WidthOf(bad); code != impl.ErrInvalid || !sameBits(width, 0) {
			t.Errorf("WidthOf(%v): got %v and the code %d", bad, width, code)
		}
	}
}

func TestP1SpansReturnTheSameAgain(t *testing.T) {
	d := dice(501)
	for range 5000 {
		s, u := d.span(), d.span()
		for _, call := range spanCalls() {
			one, code := call.do(s, u)
			two, also := call.do(s, u)
			isSpan(t, call.name, two, one, also, code)
		}
	}
}

// twoNames has each kind of operation but OpLess, OpMul, OpMax and OpSub.
func twoNames() impl.Program {
	return impl.Program{Names: []string{"a", "b"}, Code: []impl.Op{
		{Kind: impl.OpInput}, {Kind: impl.OpPush, Num: 1}, {Kind: impl.OpAdd}, {Kind: impl.OpStore},
		{Kind: impl.OpLoad}, {Kind: impl.OpPush, Num: 2}, {Kind: impl.OpNeg}, {Kind: impl.OpInput, At: 3}, {Kind: impl.OpLoad}, {Kind: impl.OpMin}, {Kind: impl.OpPick}, {Kind: impl.OpStore, At: 1},
	}}
}

// laying is a program with one name, and such operations in front of the last OpStore.
func laying(kinds ...int8) impl.Program {
	p := impl.Program{Names: []string{"a"}}
	for _, kind := range append(kinds, impl.OpStore) {
		p.Code = append(p.Code, impl.Op{Kind: kind})
	}
	return p
}

// kindsOf repeats kinds.
func kindsOf(count int, kinds ...int8) []int8 {
	return slices.Repeat(kinds, count)
}

// storing gives so many names a value.
func storing(count int) impl.Program {
	p := impl.Program{Names: letters(count)}
	for i := range count {
		p.Code = append(p.Code, impl.Op{Kind: impl.OpPush}, impl.Op{Kind: impl.OpStore, At: int16(i)})
	}
	return p
}

func withNames(p impl.Program, names ...string) impl.Program {
	p.Names = names
	return p
}

func withOp(p impl.Program, at int, op impl.Op) impl.Program {
	p.Code = slices.Clone(p.Code)
	p.Code[at] = op
	return p
}

func goodPrograms() map[string]impl.Program {
	programs := map[string]impl.Program{
		"none": {}, "empty lists": {Names: []string{}, Code: []impl.Op{}}, "two": twoNames(), "one": laying(1), "most names": storing(12),
		"deepest": laying(append(kindsOf(20, 1), kindsOf(19, 5)...)...), "most code": laying(append([]int8{1}, kindsOf(298, 12)...)...),
		"each kind": laying(1, 2, 5, 2, 6, 1, 7, 1, 8, 1, 9, 2, 10, 12, 1, 2, 11), "long names": withNames(twoNames(), "abcdefgh", "zzzzzzzz"),
		"names that are nearly words": withNames(twoNames(), "minn", "picks"), "short names": withNames(twoNames(), "mi", "in"),
	}
	for _, a := range []float32{0, tiny, -tiny, -1, 1.5, big, -big, below(big)} {
		programs["a number "+impl.NumberText(a)] = withOp(twoNames(), 1, impl.Op{Kind: impl.OpPush, Num: a})
	}
	for at := range int16(4) {
		programs[fmt.Sprint("an input ", at)] = withOp(twoNames(), 0, impl.Op{Kind: impl.OpInput, At: at})
	}
	return programs
}

// programsOfWrongForm have too many or too few of something.
func programsOfWrongForm() map[string]impl.Program {
	programs := map[string]impl.Program{
		"thirteen names": storing(13), "names without values": {Names: []string{"a"}}, "a name too many": withNames(twoNames(), "a", "b", "c"), "a name too few": withNames(twoNames(), "a"),
		"no names": withNames(twoNames()), "many names": withNames(twoNames(), letters(100000)...), "a great name": withNames(laying(1), strings.Repeat("a", 999000)),
		"the same name twice": withNames(twoNames(), "a", "a"), "the same of three": withNames(storing(3), "a", "b", "a"),
		"only a value": {Code: []impl.Op{{Kind: impl.OpPush}}}, "nothing to store": laying(), "two to store": laying(1, 1), "one left": {Code: append(laying(1).Code, impl.Op{Kind: impl.OpPush}), Names: []string{"a"}},
		"too deep": laying(append(kindsOf(21, 1), kindsOf(20, 5)...)...), "deep and left": laying(kindsOf(20, 1)...), "deep with picks": laying(append(kindsOf(21, 1), kindsOf(10, 11)...)...),
		"too much code": laying(append([]int8{1}, kindsOf(299, 12)...)...), "much code": laying(kindsOf(500000, 1, 12)...), "zeros": {Names: []string{"a"}, Code: make([]impl.Op, 2)},
		"inputs that are too deep": laying(append(kindsOf(21, 2), kindsOf(20, 7)...)...),
	}
	for kind, count := range map[int8]int{5: 2, 6: 2, 7: 2, 8: 2, 9: 2, 10: 2, 11: 3, 12: 1} {
		programs[fmt.Sprint("enough for ", kind, " but one")] = laying(append(kindsOf(count-1, 1), kind)...)
		programs[fmt.Sprint("nothing for ", kind)] = laying(kind)
		programs[fmt.Sprint("something more than for ", kind)] = laying(append(kindsOf(count+1, 1), kind)...)
	}
	for i, bad := range []string{"", "abcdefghi", "min", "max", "pick", "A", "aB", "a1", "in0", "in3", " a", "a ", "a\n", "é", "a\x00", "a-b", "1", "`", "{"} {
		programs[fmt.Sprint("first name ", i)] = withNames(twoNames(), bad, "b")
		programs[fmt.Sprint("last name ", i)] = withNames(twoNames(), "a", bad)
	}
	return programs
}

func badPrograms() map[string]impl.Program {
	programs := programsOfWrongForm()
	p := twoNames()
	for at, op := range p.Code {
		add := func(what any, bad impl.Op) {
			programs[fmt.Sprint("operation ", at, " ", what)] = withOp(p, at, bad)
		}
		for _, kind := range []int8{0, 13, 14, -1, -4, 100, math.MinInt8, math.MaxInt8} {
			add(kind, impl.Op{Kind: kind, At: op.At, Num: op.Num})
		}
		for _, bad := range []int16{2, 4, 5, -1, -2, 255, 256, math.MinInt16, math.MaxInt16} {
			if op.Kind != impl.OpInput || bad != 2 {
				add(fmt.Sprint("at ", bad), impl.Op{Kind: op.Kind, At: bad, Num: op.Num})
			}
		}
		if op.Kind != impl.OpInput {
			add("at another place", impl.Op{Kind: op.Kind, At: 1 - op.At, Num: op.Num})
		}
		for _, bad := range []float32{negZero, inf, -inf, nan, otherNaN} {
			add(fmt.Sprint("number ", bitsOf(bad)), impl.Op{Kind: op.Kind, At: op.At, Num: bad})
		}
		for _, bad := range []float32{1, tiny, -tiny, big} {
			if op.Kind != impl.OpPush {
				add(fmt.Sprint("a number ", bitsOf(bad)), impl.Op{Kind: op.Kind, At: op.At, Num: bad})
			}
		}
	}
	three := programOfThree()
	programs["its own value"] = withOp(three, 2, impl.Op{Kind: impl.OpLoad, At: 1})
	programs["a later value"] = withOp(three, 2, impl.Op{Kind: impl.OpLoad, At: 2})
	programs["stored twice"] = withOp(three, 3, impl.Op{Kind: impl.OpStore})
	programs["stored too early"] = withOp(three, 3, impl.Op{Kind: impl.OpStore, At: 2})
	programs["nothing stored yet"] = withOp(three, 0, impl.Op{Kind: impl.OpLoad})
	return programs
}

// programOfThree loads earlier values.
func programOfThree() impl.Program {
	return impl.Program{Names: []string{"a", "b", "c"}, Code: []impl.Op{
		{Kind: impl.OpPush, Num: 5}, {Kind: impl.OpStore}, {Kind: impl.OpLoad}, {Kind: impl.OpStore, At: 1}, {Kind: impl.OpLoad, At: 1}, {Kind: impl.OpStore, At: 2},
	}}
}

func TestP1ValidProgram(t *testing.T) {
	for name, p := range goodPrograms() {
		if !impl.ValidProgram(p) || !modelValid(p) {
			t.Errorf("%s: the program is valid", name)
		}
	}
	if !impl.ValidProgram(programOfThree()) {
		t.Error("three names: the program is valid")
	}
	for name, p := range badPrograms() {
		if impl.ValidProgram(p) || len(p.Names) < 1000 && modelValid(p) {
			t.Errorf("%s: the program is not valid", name)
		}
	}
}

// op is any operation, and often one that fits.
func (d *dice) op() impl.Op {
	op := impl.Op{Kind: int8(1 + d.roll(12))}
	switch op.Kind {
	case impl.OpPush:
		op.Num = d.pick(0, 1, -2, d.share())
	case impl.OpInput:
		op.At = int16(d.roll(4))
	case impl.OpLoad, impl.OpStore:
		op.At = int16(d.roll(3))
	}
	switch d.roll(40) {
	case 0:
		op.Kind = int8(d.roll(256))
	case 1:
		op.At = int16(d.roll(6) - 2)
	case 2:
		op.Num = d.pick(negZero, nan, inf, 1)
	}
	return op
}

// tampered is a program in which an operation is another one, is missing, has come, or two have changed places.
func (d *dice) tampered(p impl.Program) impl.Program {
	p = impl.Program{Names: slices.Clone(p.Names), Code: slices.Clone(p.Code)}
	at, other := d.roll(len(p.Code)), d.roll(len(p.Code))
	switch d.roll(5) {
	case 0:
		p.Code[at] = d.op()
	case 1:
		p.Code = slices.Delete(p.Code, at, at+1)
	case 2:
		p.Code = slices.Insert(p.Code, at, d.op())
	case 3:
		p.Code[at], p.Code[other] = p.Code[other], p.Code[at]
	case 4:
		p.Names[d.roll(len(p.Names))] = d.word("a", "heat", "", "min", "zz", "abcdefghi")
	}
	return p
}

func TestP1ValidProgramIsAsTold(t *testing.T) {
	d := dice(502)
	counts := map[bool]int{}
	for range 6000 {
		p := d.tampered(programOf(t, d.goodSource()))
		got := impl.ValidProgram(p)
		if got != modelValid(p) {
			t.Fatalf("%v: got %v", p, got)
		}
		counts[got]++
		if text := impl.ProgramText(p); (text != "") != got && len(p.Code) > 0 {
			t.Errorf("%v: got the text %q", p, text)
		}
	}
	if counts[true] < 500 || counts[false] < 2000 {
		t.Errorf("too few of one kind: %v", counts)
	}
}

// None of these is the same as another one, though some are equal by ==.
func differentPrograms() []impl.Program {
	list := []impl.Program{
		{}, twoNames(), programOfThree(), {Names: []string{""}}, {Names: []string{"", ""}}, {Names: []string{"a"}}, {Names: []string{"A"}}, {Code: make([]impl.Op, 1)}, {Code: make([]impl.Op, 2)},
		{Names: []string{"a"}, Code: make([]impl.Op, 1)}, withNames(twoNames(), "b", "a"), withNames(twoNames(), "ab"), withNames(twoNames(), "ab", ""), withNames(twoNames(), "", "ab"),
	}
	for at := range twoNames().Code {
		for _, op := range []impl.Op{{Kind: 99}, {Kind: -1}, {At: 9}, {At: -9}, {Num: negZero}, {}, {Num: tiny}, {Num: 8}, {Num: inf}, {Num: -inf}, {Num: nan}} {
			list = append(list, withOp(twoNames(), at, op))
		}
	}
	return list
}

func TestP1SameProgram(t *testing.T) {
	again := differentPrograms()
	for i, p := range differentPrograms() {
		for k, q := range again {
			if got := impl.SameProgram(p, q); got != (i == k) {
				t.Errorf("SameProgram(%v, %v): got %v", p, q, got)
			}
		}
	}
	empty := impl.Program{Names: []string{}, Code: []impl.Op{}}
	if !impl.SameProgram(impl.Program{}, empty) || !impl.SameProgram(empty, impl.Program{}) {
		t.Error("a nil slice and an empty one are equivalent")
	}
	if !impl.SameProgram(withOp(twoNames(), 1, impl.Op{Num: nan}), withOp(twoNames(), 1, impl.Op{Num: otherNaN})) {
		t.Error("each NaN is the same")
	}
	long, other := laying(kindsOf(400000, 1)...), laying(kindsOf(400000, 1)...)
	if !impl.SameProgram(long, other) {
		t.Error("long programs are the same as well")
	}
	other.Code[400000].At = 1
	if impl.SameProgram(long, other) {
		t.Error("their last operations count")
	}
}

// proofTold is all that a function of a program returns beside its code.
type proofTold struct {
	values []float32
	spans  []impl.Span
	value  float32
	span   impl.Span
	yes    bool
}

func sameProofTold(a, b proofTold) bool {
	return sameNumbers(a.values, b.values) && sameSpans(a.spans, b.spans) && sameBits(a.value, b.value) && sameSpan(a.span, b.span) && a.yes == b.yes
}

// proofArguments are what a function takes beside a program.
type proofArguments struct {
	inputs       [4]float32
	spans        [4]impl.Span
	name         string
	bounds       impl.Span
	input, parts int64
}

// easyProof has no error for a valid program with the name.
func easyProof(name string) proofArguments {
	return proofArguments{
		[4]float32{1, 2, 3, 4}, [4]impl.Span{{Low: 0, High: 1}, {Low: 1, High: 3}, {Low: -2, High: 2}, {Low: 5, High: 5}}, name, impl.Span{Low: -inf, High: inf}, 0, 4,
	}
}

// worstProof has an error for each function that may have one.
func worstProof() proofArguments {
	return proofArguments{[4]float32{nan, inf, -inf, negZero}, [4]impl.Span{{Low: 1, High: 0}, {Low: nan}}, "none", impl.Span{Low: 2, High: 1}, 4, 65}
}

type programCall struct {
	name string
	do   func(p impl.Program, g proofArguments) (proofTold, int64)
}

func programCalls() []programCall {
	return []programCall{
		{"RunProgram", func(p impl.Program, g proofArguments) (proofTold, int64) {
			values, code := impl.RunProgram(p, g.inputs)
			return proofTold{values: values}, code
		}},
		{"ValueIn", func(p impl.Program, g proofArguments) (proofTold, int64) {
			value, code := impl.ValueIn(p, g.inputs, g.name)
			return proofTold{value: value}, code
		}},
		{"ProveProgram", func(p impl.Program, g proofArguments) (proofTold, int64) {
			spans, code := impl.ProveProgram(p, g.spans)
			return proofTold{spans: spans}, code
		}},
		{"IsProved", func(p impl.Program, g proofArguments) (proofTold, int64) {
			yes, code := impl.IsProved(p, g.spans, g.name, g.bounds)
			return proofTold{yes: yes}, code
		}},
		{"NarrowInput", func(p impl.Program, g proofArguments) (proofTold, int64) {
			span, code := impl.NarrowInput(p, g.spans, g.input, g.name, g.bounds, g.parts)
			return proofTold{span: span}, code
		}},
	}
}

// programsAreRefused checks that the named functions have the code, and zero values in all other results, and that others are OK.
func programsAreRefused(t *testing.T, why, names string, p impl.Program, g proofArguments, want int64) {
	t.Helper()
	for _, call := range programCalls() {
		got, code := call.do(p, g)
		if named := slices.Contains(strings.Fields(names), call.name); named && (code != want || !sameProofTold(got, proofTold{})) {
			t.Errorf("%s: %s: got %v and the code %d, want %d", why, call.name, got, code, want)
		} else if !named && code != impl.OK {
			t.Errorf("%s: %s: got the code %d", why, call.name, code)
		}
	}
}

const (
	allOfPrograms = "RunProgram ValueIn ProveProgram IsProved NarrowInput"
	withSpans     = "ProveProgram IsProved NarrowInput"
	withBounds    = "IsProved NarrowInput"
)

func TestP1InvalidProgramsAreToldFirst(t *testing.T) {
	for name, p := range badPrograms() {
		for _, g := range []proofArguments{easyProof("a"), worstProof(), {}} {
			programsAreRefused(t, name, allOfPrograms, p, g, impl.ErrInvalid)
		}
		if text := impl.ProgramText(p); text != "" {
			t.Errorf("%s: got the text %q", name, text)
		}
	}
}

func TestP1ValidProgramsAreTaken(t *testing.T) {
	for name, p := range goodPrograms() {
		if len(p.Names) > 0 {
			programsAreRefused(t, name, "", p, easyProof(p.Names[0]), impl.OK)
		} else {
			programsAreRefused(t, name, "ValueIn IsProved NarrowInput", p, easyProof(""), impl.ErrNotFound)
		}
	}
}

// proofChecker lets one of the arguments be another one; all others stay easy, and no function has another error.
func proofChecker(t *testing.T, why string, want int64) func(names string, how func(g *proofArguments)) {
	return func(names string, how func(g *proofArguments)) {
		t.Helper()
		g := easyProof("b")
		how(&g)
		programsAreRefused(t, why, names, twoNames(), g, want)
	}
}

func TestP1ArgumentsOfProofsAreTold(t *testing.T) {
	check := proofChecker(t, "invalid", impl.ErrInvalid)
	for _, bad := range noSpans() {
		check(withBounds, func(g *proofArguments) { g.bounds = bad })
	}
	check = proofChecker(t, "range", impl.ErrRange)
	for i := range 4 {
		for _, bad := range append(noSpans(), infiniteSpans()...) {
			check(withSpans, func(g *proofArguments) { g.spans[i] = bad })
		}
	}
	for _, bad := range []int64{-1, 4, 5, 1 << 32, -1 << 32, math.MinInt64, math.MaxInt64} {
		check("NarrowInput", func(g *proofArguments) { g.input = bad })
	}
	for _, bad := range []int64{0, -1, 65, 1 << 32, 1<<32 + 1, math.MinInt64, math.MaxInt64} {
		check("NarrowInput", func(g *proofArguments) { g.parts = bad })
	}
	check = proofChecker(t, "name", impl.ErrNotFound)
	for _, bad := range []string{"", "c", "A", "ab", "in0", "min", " b", strings.Repeat("b", 900000)} {
		check("ValueIn IsProved NarrowInput", func(g *proofArguments) { g.name = bad })
	}
	check = proofChecker(t, "state", impl.ErrState)
	check("NarrowInput", func(g *proofArguments) { g.spans[0] = impl.Span{Low: -big, High: big} })
}

func TestP1ArgumentsOfProofsMayReachTheirBounds(t *testing.T) {
	check := proofChecker(t, "at a bound", impl.OK)
	for _, edge := range []int64{1, 2, 63, 64} {
		check("", func(g *proofArguments) { g.parts = edge })
	}
	for edge := range int64(4) {
		check("", func(g *proofArguments) { g.input = edge })
	}
	for i := range 4 {
		for _, edge := range []impl.Span{{Low: -big, High: -big}, {Low: big, High: big}, {Low: 0, High: big}, {Low: -tiny, High: tiny}, {Low: 0, High: negZero}} {
			check("", func(g *proofArguments) { g.spans[i] = edge })
		}
		for _, edge := range append(edgeNumbers(), nan, otherNaN) {
			check("", func(g *proofArguments) { g.inputs[i] = edge })
		}
	}
	// What is not narrowed may be wider than any number.
	check("", func(g *proofArguments) { g.spans[1] = impl.Span{Low: -big, High: big} })
	programsAreRefused(t, "no such part", "NarrowInput", twoNames(), proofArguments{spans: easyProof("").spans, name: "b", bounds: impl.Span{Low: 9, High: inf}, parts: 64}, impl.ErrNotFound)
}

// Errors are told in the order in which the document lists them.
func TestP1ErrorsOfProofsComeInOrder(t *testing.T) {
	wide := impl.Span{Low: -big, High: big}
	g := easyProof("b")
	g.spans[0], g.bounds = wide, impl.Span{Low: inf, High: inf}
	programsAreRefused(t, "an end that is not finite, ahead of no such part", "NarrowInput", twoNames(), g, impl.ErrState)
	g.name = "c"
	programsAreRefused(t, "no such name, ahead of an end that is not finite", "ValueIn IsProved NarrowInput", twoNames(), g, impl.ErrNotFound)
	for _, how := range []func(g *proofArguments){func(g *proofArguments) { g.input = 4 }, func(g *proofArguments) { g.parts = 0 }, func(g *proofArguments) { g.parts = 65 }} {
		bad := g
		how(&bad)
		if got, code := programCalls()[4].do(twoNames(), bad); code != impl.ErrRange || !sameProofTold(got, proofTold{}) {
			t.Errorf("got %v and the code %d", got, code)
		}
	}
	g.spans[3] = impl.Span{Low: 0, High: inf}
	for _, call := range programCalls()[2:] {
		if got, code := call.do(twoNames(), g); code != impl.ErrRange || !sameProofTold(got, proofTold{}) {
			t.Errorf("%s: got %v and the code %d", call.name, got, code)
		}
	}
	g.bounds, g.input = impl.Span{Low: 1, High: below(1)}, -1
	for _, call := range programCalls()[3:] {
		if got, code := call.do(twoNames(), g); code != impl.ErrInvalid || !sameProofTold(got, proofTold{}) {
			t.Errorf("%s: got %v and the code %d", call.name, got, code)
		}
	}
}

func roomyProgram(p impl.Program) impl.Program {
	return impl.Program{Names: roomyList(p.Names, "room"), Code: roomyList(p.Code, impl.Op{Kind: 77})}
}

// wholeProgram has the room behind the ends as well, if it was made by roomyProgram.
func wholeProgram(p impl.Program) impl.Program {
	return impl.Program{Names: p.Names[:len(p.Names)+3], Code: p.Code[:len(p.Code)+3]}
}

func TestP1ProgramsModifyNothingAndShareNothing(t *testing.T) {
	d := dice(503)
	list := []impl.Program{{}, twoNames(), programOfThree(), laying(1, 1), withNames(twoNames(), "b", "b")}
	for range 300 {
		list = append(list, programOf(t, d.goodSource()))
	}
	for _, p := range list {
		roomy, g := roomyProgram(p), easyProof("a")
		if d.roll(4) == 0 {
			g.bounds = impl.Span{Low: 0, High: 1}
		}
		for _, call := range programCalls() {
			one, code := call.do(roomy, g)
			two, also := call.do(roomy, g)
			if !samePrograms(wholeProgram(roomy), wholeProgram(roomyProgram(p))) {
				t.Errorf("%s modifies its arguments: %v", call.name, p)
			}
			if code != also || !sameProofTold(one, two) {
				t.Errorf("%s has other results the second time: %v", call.name, p)
			}
			kept := proofTold{slices.Clone(two.values), slices.Clone(two.spans), two.value, two.span, two.yes}
			fill(one.values, 9)
			fill(one.spans, impl.Span{Low: 8, High: 9})
			if !sameProofTold(two, kept) {
				t.Errorf("%s: a result shares memory: %v", call.name, p)
			}
		}
		valid, same, text := impl.ValidProgram(roomy), impl.SameProgram(roomy, roomy), impl.ProgramText(roomy)
		if valid != impl.ValidProgram(p) || !same || text != impl.ProgramText(p) || !samePrograms(wholeProgram(roomy), wholeProgram(roomyProgram(p))) {
			t.Errorf("%v: got %v, %v and %q", p, valid, same, text)
		}
	}
}

func TestP1WhatIsCompiledSharesNothing(t *testing.T) {
	d := dice(504)
	for range 300 {
		text := d.source()
		one, line, code := impl.CompileProgram(text)
		two, alsoLine, alsoCode := impl.CompileProgram(text)
		if !samePrograms(one, two) || line != alsoLine || code != alsoCode {
			t.Errorf("%q: other results the second time", text)
		}
		kept := impl.Program{Names: slices.Clone(two.Names), Code: slices.Clone(two.Code)}
		fill(one.Names, "other")
		fill(one.Code, impl.Op{Kind: 77})
		if three, _, _ := impl.CompileProgram(text); !samePrograms(two, kept) || !samePrograms(three, kept) {
			t.Errorf("%q: a result shares memory", text)
		}
	}
}

func TestP1EveryFunctionOfProgramsReturns(t *testing.T) {
	d := dice(505)
	odd := append(edgeNumbers(), nan, otherNaN)
	counts := []int64{math.MinInt64, -1, 0, 1, 3, 4, 64, 65, math.MaxInt64}
	anySpan := func() impl.Span {
		if d.roll(3) > 0 {
			return d.smallSpan()
		}
		return impl.Span{Low: d.pick(odd...), High: d.pick(odd...)}
	}
	for range 3000 {
		p := programOf(t, d.goodSource())
		if d.roll(4) == 0 {
			p = d.tampered(p)
		}
		g := proofArguments{
			[4]float32{d.pick(odd...), d.pick(odd...), d.pick(odd...), d.pick(odd...)}, [4]impl.Span{anySpan(), anySpan(), anySpan(), anySpan()},
			d.word("a", "heat", "", "in"), anySpan(), counts[d.roll(9)], counts[d.roll(9)],
		}
		for _, call := range programCalls() {
			got, code := call.do(p, g)
			if impl.CodeName(code) == "" || code != impl.OK && !sameProofTold(got, proofTold{}) {
				t.Fatalf("%s(%v, %v): got %v, %d", call.name, p, g, got, code)
			}
		}
	}
}

// Operations alone, in any order, are hardly ever a program.
func TestP1AnyOperations(t *testing.T) {
	d := dice(506)
	for range 20000 {
		p := impl.Program{Names: letters(d.roll(3))}
		for range d.roll(9) {
			p.Code = append(p.Code, d.op())
		}
		if got := impl.ValidProgram(p); got != modelValid(p) {
			t.Fatalf("%v: got %v", p, got)
		}
		for _, call := range programCalls() {
			if got, code := call.do(p, easyProof("a")); !impl.ValidProgram(p) && (code != impl.ErrInvalid || !sameProofTold(got, proofTold{})) {
				t.Fatalf("%s(%v): got %v and the code %d", call.name, p, got, code)
			}
		}
	}
}

func TestP1AnyTexts(t *testing.T) {
	d := dice(507)
	for range 3000 {
		bytes := make([]byte, d.roll(40))
		for i := range bytes {
			bytes[i] = byte(d.roll(256))
		}
		for _, text := range []string{string(bytes), "x = " + string(bytes), "x = 1\n" + string(bytes)} {
			want, _, wantLine, wantCode := modelCompile(text)
			got, line, code := impl.CompileProgram(text)
			if !samePrograms(got, want) || line != wantLine || code != wantCode {
				t.Fatalf("CompileProgram(%q): got %v, the line %d and the code %d", text, got, line, code)
			}
		}
	}
	for _, piece := range []string{"(", "-", "min(", "x = 1\n", "\n", " ", "9", "1/", "a", ",", "x = ", "\x00", "é"} {
		isCompiled(t, strings.Repeat(piece, 1000000/len(piece)), 0, impl.ErrRange)
	}
}
