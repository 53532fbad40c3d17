package tests

import (
	"fmt"
	"math"
	"regexp"
	"slices"
	"strconv"
	"strings"
	"testing"

	"loop.example/g01229/impl"
)

// The model does chapter 5 again: numbers and spans in wide numbers that are rounded after each operation, texts by
// cutting them where the sign stands that binds least, and programs both as trees and on a stack.

func modelUp(a float32) float32 {
	switch {
	case a != a || a == inf:
		return a
	case a == 0:
		return tiny
	case a > 0:
		return math.Float32frombits(math.Float32bits(a) + 1)
	}
	return math.Float32frombits(math.Float32bits(a) - 1)
}

func modelDown(a float32) float32 {
	switch {
	case a != a || a == -inf:
		return a
	case a == 0:
		return -tiny
	case a > 0:
		return math.Float32frombits(math.Float32bits(a) - 1)
	}
	return math.Float32frombits(math.Float32bits(a) + 1)
}

func modelValidSpan(s impl.Span) bool {
	return s.Low == s.Low && s.High == s.High && !(s.Low > s.High)
}

// modelAround goes outward from the least and the greatest of some numbers.
func modelAround(lows, highs []float32) impl.Span {
	s := impl.Span{Low: -inf, High: inf}
	if !slices.ContainsFunc(lows, func(a float32) bool { return a != a }) {
		s.Low = modelDown(slices.Min(lows))
	}
	if !slices.ContainsFunc(highs, func(a float32) bool { return a != a }) {
		s.High = modelUp(slices.Max(highs))
	}
	return s
}

func modelAdd(s, t impl.Span) impl.Span {
	return modelAround([]float32{plus(s.Low, t.Low)}, []float32{plus(s.High, t.High)})
}

func modelSub(s, t impl.Span) impl.Span {
	return modelAround([]float32{minus(s.Low, t.High)}, []float32{minus(s.High, t.Low)})
}

func modelMul(s, t impl.Span) impl.Span {
	all := []float32{times(s.Low, t.Low), times(s.Low, t.High), times(s.High, t.Low), times(s.High, t.High)}
	return modelAround(all, all)
}

func modelLesser(a, b float32) float32 {
	if a <= b || !(b < a) {
		return a
	}
	return b
}

func modelGreater(a, b float32) float32 {
	if a >= b || !(b > a) {
		return a
	}
	return b
}

func modelMeet(s, t impl.Span) impl.Span {
	return impl.Span{Low: modelGreater(s.Low, t.Low), High: modelLesser(s.High, t.High)}
}

func modelJoin(s, t impl.Span) impl.Span {
	return impl.Span{Low: modelLesser(s.Low, t.Low), High: modelGreater(s.High, t.High)}
}

func modelLess(s, t impl.Span) impl.Span {
	less := impl.Span{Low: 0, High: 1}
	if s.High < t.Low {
		less.Low = 1
	}
	if !(s.Low < t.High) {
		less.High = 0
	}
	return less
}

// modelTwo does what an operation does with two numbers.
func modelTwo(kind int8, a, b float32) float32 {
	switch kind {
	case impl.OpAdd:
		return plus(a, b)
	case impl.OpSub:
		return minus(a, b)
	case impl.OpMul:
		return times(a, b)
	case impl.OpMin:
		return modelLesser(a, b)
	case impl.OpMax:
		return modelGreater(a, b)
	}
	if kind == impl.OpLess && a < b {
		return 1
	}
	return 0
}

// modelTwoSpans does what an operation does with two spans.
func modelTwoSpans(kind int8, s, t impl.Span) impl.Span {
	switch kind {
	case impl.OpAdd:
		return modelAdd(s, t)
	case impl.OpSub:
		return modelSub(s, t)
	case impl.OpMul:
		return modelMul(s, t)
	case impl.OpMin:
		return impl.Span{Low: modelLesser(s.Low, t.Low), High: modelLesser(s.High, t.High)}
	case impl.OpMax:
		return impl.Span{Low: modelGreater(s.Low, t.Low), High: modelGreater(s.High, t.High)}
	}
	return modelLess(s, t)
}

// modelRun returns the values of a program, and whether a number on the stack has been NaN.
func modelRun(p impl.Program, inputs [4]float32) ([]float32, bool) {
	var values, stack []float32
	met := false
	for _, op := range p.Code {
		n := len(stack)
		switch op.Kind {
		case impl.OpPush:
			stack = append(stack, op.Num)
		case impl.OpInput:
			stack = append(stack, inputs[op.At])
		case impl.OpLoad:
			stack = append(stack, values[op.At])
		case impl.OpStore:
			values, stack = append(values, stack[n-1]), nil
		case impl.OpNeg:
			stack[n-1] = math.Float32frombits(math.Float32bits(stack[n-1]) ^ 1<<31)
		case impl.OpPick:
			chosen := stack[n-1]
			if stack[n-3] > 0 {
				chosen = stack[n-2]
			}
			stack = append(stack[:n-3], chosen)
		default:
			stack = append(stack[:n-2], modelTwo(op.Kind, stack[n-2], stack[n-1]))
		}
		met = met || slices.ContainsFunc(stack, func(a float32) bool { return a != a })
	}
	return values, met
}

func modelPickSpan(s, t, u impl.Span) impl.Span {
	if s.Low > 0 {
		return t
	}
	if !(s.High > 0) {
		return u
	}
	return modelJoin(t, u)
}

func modelProve(p impl.Program, inputs [4]impl.Span) []impl.Span {
	var values, stack []impl.Span
	for _, op := range p.Code {
		n := len(stack)
		switch op.Kind {
		case impl.OpPush:
			stack = append(stack, impl.Span{Low: op.Num, High: op.Num})
		case impl.OpInput:
			stack = append(stack, inputs[op.At])
		case impl.OpLoad:
			stack = append(stack, values[op.At])
		case impl.OpStore:
			values, stack = append(values, stack[n-1]), nil
		case impl.OpNeg:
			stack[n-1] = impl.Span{Low: times(-1, stack[n-1].High), High: times(-1, stack[n-1].Low)}
		case impl.OpPick:
			stack = append(stack[:n-3], modelPickSpan(stack[n-3], stack[n-2], stack[n-1]))
		default:
			stack = append(stack[:n-2], modelTwoSpans(op.Kind, stack[n-2], stack[n-1]))
		}
	}
	return values
}

func modelIsProved(p impl.Program, inputs [4]impl.Span, name string, bounds impl.Span) bool {
	s := modelProve(p, inputs)[slices.Index(p.Names, name)]
	return !(s.Low < bounds.Low) && !(s.High > bounds.High)
}

// modelNarrow tries all runs of parts, and keeps the first one of the longest.
func modelNarrow(p impl.Program, inputs [4]impl.Span, input int, name string, bounds impl.Span, parts int) (impl.Span, int64) {
	whole := inputs[input]
	var ends []float32
	for i := range parts {
		ends = append(ends, plus(whole.Low, times(over(float32(i), float32(parts)), minus(whole.High, whole.Low))))
	}
	ends = append(ends, whole.High)
	var proved []bool
	for i := range parts {
		if !isGood(ends[i]) || !isGood(ends[i+1]) || ends[i] > ends[i+1] {
			return impl.Span{}, impl.ErrState
		}
		inputs[input] = impl.Span{Low: ends[i], High: ends[i+1]}
		proved = append(proved, modelIsProved(p, inputs, name, bounds))
	}
	for size := parts; size > 0; size-- {
		for from := 0; from+size <= parts; from++ {
			if !slices.Contains(proved[from:from+size], false) {
				return impl.Span{Low: ends[from], High: ends[from+size]}, impl.OK
			}
		}
	}
	return impl.Span{}, impl.ErrNotFound
}

var (
	modelName    = regexp.MustCompile(`^[a-z]{1,8}$`)
	modelParts   = regexp.MustCompile(`min\(|max\(|pick\(|[a-z][a-z0-9]*|[0-9]+(?:/[0-9]+)?|[-+*<(),=]`)
	modelDecimal = regexp.MustCompile(`^(0|[1-9][0-9]{0,5})(?:/(2|4|8|16|32|64|128|256|512|1024))?$`)
)

func modelIsName(name string) bool {
	return modelName.MatchString(name) && name != "min" && name != "max" && name != "pick"
}

// modelTree is an expression; a leaf has an operation that lays something.
type modelTree struct {
	op    impl.Op
	under []*modelTree
}

func (m *modelTree) code() []impl.Op {
	var code []impl.Op
	for _, part := range m.under {
		code = append(code, part.code()...)
	}
	return append(code, m.op)
}

// depth tells how many numbers there are on the stack at most.
func (m *modelTree) depth() int {
	most := 1
	for i, part := range m.under {
		most = max(most, i+part.depth())
	}
	return most
}

func (m *modelTree) value(inputs [4]float32, values []float32) float32 {
	var v []float32
	for _, part := range m.under {
		v = append(v, part.value(inputs, values))
	}
	switch m.op.Kind {
	case impl.OpPush:
		return m.op.Num
	case impl.OpInput:
		return inputs[m.op.At]
	case impl.OpLoad:
		return values[m.op.At]
	case impl.OpNeg:
		return times(-1, v[0])
	case impl.OpPick:
		if v[0] > 0 {
			return v[1]
		}
		return v[2]
	}
	return modelTwo(m.op.Kind, v[0], v[1])
}

// treeOf joins trees; there is none if one of them is missing.
func treeOf(kind int8, under ...*modelTree) *modelTree {
	if slices.Contains(under, nil) {
		return nil
	}
	return &modelTree{impl.Op{Kind: kind}, under}
}

// outerSigns returns where some signs stand that are in no brackets.
func outerSigns(parts []string, signs string) []int {
	var where []int
	depth := 0
	for i, part := range parts {
		if part == ")" {
			depth--
		}
		if depth == 0 && strings.Contains(signs, part) {
			where = append(where, i)
		}
		if strings.HasSuffix(part, "(") {
			depth++
		}
	}
	return where
}

func treeOfExpr(parts, names []string) *modelTree {
	where := outerSigns(parts, "<")
	if len(where) == 0 {
		return treeOfSum(parts, names)
	}
	return treeOf(impl.OpLess, treeOfSum(parts[:where[0]], names), treeOfSum(parts[where[0]+1:], names))
}

func treeOfSum(parts, names []string) *modelTree {
	where := outerSigns(parts, "+-")
	for k := len(where) - 1; k >= 0; k-- {
		i := where[k]
		// Ahead of a sign that joins there is something that ends.
		if i == 0 || strings.Contains("+-*<", parts[i-1]) {
			continue
		}
		kind := map[string]int8{"+": impl.OpAdd, "-": impl.OpSub}[parts[i]]
		return treeOf(kind, treeOfSum(parts[:i], names), treeOfTerm(parts[i+1:], names))
	}
	return treeOfTerm(parts, names)
}

func treeOfTerm(parts, names []string) *modelTree {
	if where := outerSigns(parts, "*"); len(where) > 0 {
		i := where[len(where)-1]
		return treeOf(impl.OpMul, treeOfTerm(parts[:i], names), treeOfAtom(parts[i+1:], names))
	}
	return treeOfAtom(parts, names)
}

// closesAtEnd tells whether the first bracket is closed by the last part.
func closesAtEnd(parts []string) bool {
	depth := 0
	for i, part := range parts {
		if strings.HasSuffix(part, "(") {
			depth++
		}
		if part == ")" {
			depth--
		}
		if depth == 0 {
			return i == len(parts)-1
		}
	}
	return false
}

func treeOfAtom(parts, names []string) *modelTree {
	switch n := len(parts); {
	case n == 0:
		return nil
	case parts[0] == "-":
		return treeOf(impl.OpNeg, treeOfAtom(parts[1:], names))
	case n == 1:
		return treeOfLeaf(parts[0], names)
	case strings.HasSuffix(parts[0], "(") && closesAtEnd(parts):
		return treeOfBrackets(parts[0], parts[1:n-1], names)
	}
	return nil
}

func treeOfBrackets(open string, inner, names []string) *modelTree {
	var under []*modelTree
	from := 0
	for _, i := range append(outerSigns(inner, ","), len(inner)) {
		under = append(under, treeOfExpr(inner[from:i], names))
		from = i + 1
	}
	if open == "(" && len(under) == 1 {
		return under[0]
	}
	kinds := map[string]int8{"min(": impl.OpMin, "max(": impl.OpMax, "pick(": impl.OpPick}
	counts := map[string]int{"min(": 2, "max(": 2, "pick(": 3}
	if counts[open] != len(under) {
		return nil
	}
	return treeOf(kinds[open], under...)
}

func treeOfLeaf(part string, names []string) *modelTree {
	if at := slices.Index(names, part); at >= 0 {
		return &modelTree{op: impl.Op{Kind: impl.OpLoad, At: int16(at)}}
	}
	if len(part) == 3 && part[:2] == "in" && part[2] >= '0' && part[2] < '4' {
		return &modelTree{op: impl.Op{Kind: impl.OpInput, At: int16(part[2] - '0')}}
	}
	found := modelDecimal.FindStringSubmatch(part)
	if found == nil {
		return nil
	}
	whole, _ := strconv.ParseFloat(found[1], 64)
	if found[2] != "" {
		divisor, _ := strconv.ParseFloat(found[2], 64)
		whole /= divisor
	}
	return &modelTree{op: impl.Op{Kind: impl.OpPush, Num: float32(whole)}}
}

// modelLine returns the name and the expression of a line, none if it is not as told.
func modelLine(line string, names []string) (string, *modelTree) {
	parts := modelParts.FindAllString(line, -1)
	if strings.Trim(modelParts.ReplaceAllString(line, ""), " ") != "" {
		return "", nil
	}
	if len(parts) < 3 || !modelIsName(parts[0]) || parts[1] != "=" {
		return "", nil
	}
	return parts[0], treeOfExpr(parts[2:], names)
}

// modelCompile returns a program and its expressions.
func modelCompile(text string) (impl.Program, []*modelTree, int64, int64) {
	var p impl.Program
	var trees []*modelTree
	if len(text) > 2000 {
		return p, nil, 0, impl.ErrRange
	}
	lines := strings.Split(text, "\n")
	if lines[len(lines)-1] == "" {
		lines = lines[:len(lines)-1]
	}
	for i, line := range lines {
		name, tree := modelLine(line, p.Names)
		if tree == nil {
			return impl.Program{}, nil, int64(i), impl.ErrSyntax
		}
		if slices.Contains(p.Names, name) {
			return impl.Program{}, nil, int64(i), impl.ErrState
		}
		code := append(tree.code(), impl.Op{Kind: impl.OpStore, At: int16(len(p.Names))})
		if len(p.Names) == 12 || len(p.Code)+len(code) > 300 || tree.depth() > 20 {
			return impl.Program{}, nil, int64(i), impl.ErrLimit
		}
		p.Code, p.Names, trees = append(p.Code, code...), append(p.Names, name), append(trees, tree)
	}
	return p, trees, 0, impl.OK
}

// modelValid tells whether a program is valid, with what its operations take and lay.
func modelValid(p impl.Program) bool {
	takes := map[int8]int{1: 0, 2: 0, 3: 0, 4: 1, 5: 2, 6: 2, 7: 2, 8: 2, 9: 2, 10: 2, 11: 3, 12: 1}
	given, height := 0, 0
	for i, name := range p.Names {
		if !modelIsName(name) || slices.Index(p.Names, name) != i {
			return false
		}
	}
	for _, op := range p.Code {
		count, known := takes[op.Kind]
		most := map[int8]int{2: 4, 3: given, 4: given + 1}[op.Kind]
		if !known || height < count || op.At < 0 || int(op.At) >= max(most, 1) || most == 0 && op.Kind == 3 {
			return false
		}
		if op.Kind != 1 && !sameBits(op.Num, 0) || !isGood(op.Num) || sameBits(op.Num, negZero) {
			return false
		}
		height += 1 - count
		if op.Kind == 4 {
			if height != 1 || int(op.At) != given {
				return false
			}
			height, given = 0, given+1
		}
		if height > 20 {
			return false
		}
	}
	return height == 0 && given == len(p.Names) && given <= 12 && len(p.Code) <= 300
}

func modelProgramText(p impl.Program) string {
	words := map[int8]string{1: "push", 2: "input", 3: "load", 4: "store", 5: "add", 6: "sub", 7: "mul", 8: "less", 9: "min", 10: "max", 11: "pick", 12: "neg"}
	text := ""
	for _, op := range p.Code {
		text += words[op.Kind]
		switch op.Kind {
		case impl.OpPush:
			text += fmt.Sprintf(" %08x", bitsOf(op.Num))
		case impl.OpInput:
			text += fmt.Sprintf(" %d", op.At)
		case impl.OpLoad, impl.OpStore:
			text += " " + p.Names[op.At]
		}
		text += "\n"
	}
	return text
}

// Below are what the tests of chapter 5 share.

func sameSpan(s, t impl.Span) bool { return sameBits(s.Low, t.Low) && sameBits(s.High, t.High) }

func sameSpans(a, b []impl.Span) bool { return slices.EqualFunc(a, b, sameSpan) }

func sameOps(a, b impl.Op) bool { return a.Kind == b.Kind && a.At == b.At && sameBits(a.Num, b.Num) }

func samePrograms(p, q impl.Program) bool {
	return slices.Equal(p.Names, q.Names) && slices.EqualFunc(p.Code, q.Code, sameOps)
}

func isSpan(t *testing.T, name string, got, want impl.Span, code, wantCode int64) {
	t.Helper()
	if !sameSpan(got, want) || code != wantCode {
		t.Errorf("%s: got the span %v and the code %d, want %v and %d", name, got, code, want, wantCode)
	}
}

func areSpans(t *testing.T, name string, got, want []impl.Span, code, wantCode int64) {
	t.Helper()
	if !sameSpans(got, want) || code != wantCode {
		t.Errorf("%s: got the spans %v and the code %d, want %v and %d", name, got, code, want, wantCode)
	}
}

// programOf compiles a text that has no error.
func programOf(t *testing.T, text string) impl.Program {
	t.Helper()
	p, line, code := impl.CompileProgram(text)
	if line != 0 || code != impl.OK {
		t.Fatalf("CompileProgram(%q): got the line %d and the code %d", text, line, code)
	}
	return p
}

// edgeNumbers are where functions of spans may go wrong, ascending (0 behind -0).
func edgeNumbers() []float32 {
	least := math.Float32frombits(1 << 23)
	return []float32{
		-inf, -big, above(-big), -1e30, -3, -1, -0.1, -least, -below(least), -2 * tiny, -tiny, negZero,
		0, tiny, 2 * tiny, below(least), least, 0.1, 1, 3, 1e30, below(big), big, inf,
	}
}

// edgeSpans are all spans from one of these numbers to another.
func edgeSpans(edges []float32) []impl.Span {
	var spans []impl.Span
	for _, low := range edges {
		for _, high := range edges {
			if low <= high {
				spans = append(spans, impl.Span{Low: low, High: high})
			}
		}
	}
	return spans
}

// noSpans are not valid.
func noSpans() []impl.Span {
	spans := []impl.Span{
		{Low: 1, High: 0}, {Low: tiny, High: 0}, {Low: 0, High: -tiny}, {Low: above(1), High: 1}, {Low: inf, High: -inf}, {Low: inf, High: big}, {Low: -big, High: -inf},
	}
	for _, bad := range []float32{nan, otherNaN} {
		for _, a := range []float32{0, 1, -inf, inf, nan} {
			spans = append(spans, impl.Span{Low: bad, High: a}, impl.Span{Low: a, High: bad})
		}
	}
	return spans
}

// infiniteSpans are valid, but have an end that is not finite.
func infiniteSpans() []impl.Span {
	return []impl.Span{{Low: -inf, High: inf}, {Low: 0, High: inf}, {Low: -inf, High: 0}, {Low: inf, High: inf}, {Low: -inf, High: -inf}}
}

// anyNumber has many different bits; it is no NaN.
func (d *dice) anyNumber() float32 {
	edges := edgeNumbers()
	a := math.Float32frombits(uint32(d.roll(1<<16))<<16 | uint32(d.roll(1<<16)))
	if a != a {
		a = 0
	}
	return d.pick(a, a, edges[d.roll(len(edges))], d.share()*20-10, float32(d.roll(7)-3))
}

func (d *dice) span() impl.Span {
	a, b := d.anyNumber(), d.anyNumber()
	if d.roll(6) == 0 {
		b = a
	}
	if b < a {
		a, b = b, a
	}
	return impl.Span{Low: a, High: b}
}

// smallSpan has finite ends, which are not too great.
func (d *dice) smallSpan() impl.Span {
	a := d.pick(negZero, 0, d.share()*20-10, float32(d.roll(20)-10))
	return impl.Span{Low: a, High: a + d.pick(0, tiny, d.share(), d.share()*10, float32(d.roll(9)))}
}

// inside is a number of a span.
func (d *dice) inside(s impl.Span) float32 {
	a := s.Low + d.share()*(s.High-s.Low)
	if !(a >= s.Low && a <= s.High) {
		a = s.Low
	}
	return d.pick(s.Low, s.High, a, a)
}

func (d *dice) blanks() string { return strings.Repeat(" ", d.roll(8)/6) }

func (d *dice) word(list ...string) string { return list[d.roll(len(list))] }

func (d *dice) decimal() string {
	whole := d.word("0", "1", "2", "3", "7", "10", "20", "999", "65537", "999999")
	return whole + d.word("", "", "", "/2", "/4", "/16", "/128", "/1024")
}

// expression is a text of an expression with some names that have a value.
func (d *dice) expression(names []string, deep int) string {
	if deep == 0 || d.roll(6) == 0 {
		leaves := append([]string{d.decimal(), d.word("in0", "in1", "in2", "in3")}, names...)
		return leaves[d.roll(len(leaves))]
	}
	next := func() string { return d.blanks() + d.expression(names, deep-1) + d.blanks() }
	switch d.roll(12) {
	case 0:
		return "-" + next()
	case 1:
		return "(" + next() + ")"
	case 2, 3:
		return d.word("min(", "max(") + next() + "," + next() + ")"
	case 4, 5:
		return "pick(" + next() + "," + next() + "," + next() + ")"
	case 6:
		return "(" + next() + "<" + next() + ")"
	}
	return next() + d.word("+", "-", "*", "+", "-", "*", "<") + next()
}

// source is a text of a program, maybe with several lines, and with an error now and then.
func (d *dice) source() string {
	pool := []string{"a", "heat", "in", "minx", "picked", "abcdefgh", "inn", "maxi", "mi", "damper", "flue", "zzzzzzzz", "p", "q", "r"}
	text := ""
	var names []string
	for range d.roll(5) + d.roll(3)*d.roll(6) {
		name, deep := pool[len(names)], 1+d.roll(4)
		switch d.roll(40) {
		case 0:
			name = pool[d.roll(len(pool))]
		case 1:
			deep = 7
		}
		text += d.blanks() + name + d.blanks() + "=" + d.blanks() + d.expression(names, deep) + d.blanks() + "\n"
		names = append(names, name)
	}
	if d.roll(2) == 0 {
		text = strings.TrimSuffix(text, "\n")
	}
	return text
}

// goodSource has no error.
func (d *dice) goodSource() string {
	for {
		text := d.source()
		if _, _, _, code := modelCompile(text); code == impl.OK && text != "" {
			return text
		}
	}
}

// spoiled is a text of which a byte is another one, is missing, or has come.
func (d *dice) spoiled(text string) string {
	odd := "  \n\n=<+-*(),/0123456789abcinmxpk\t\r\x00A_.\xc3\xa9\xff"
	at, other := d.roll(len(text)+1), odd[d.roll(len(odd)):][:1]
	if at == len(text) || d.roll(3) == 0 {
		return text[:at] + other + text[at:]
	}
	return text[:at] + d.word("", other) + text[at+1:]
}
