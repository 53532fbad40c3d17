package tests

import (
	"fmt"
	"slices"
	"strings"
	"testing"

	"loop.example/g01229/impl"
)

// Promise 11: programs are compiled and run as told; values lie in the spans that are proved, as long as no number on
// the stack is NaN.

func isCompiled(t *testing.T, text string, wantLine, wantCode int64) {
	t.Helper()
	p, line, code := impl.CompileProgram(text)
	if line != wantLine || code != wantCode {
		t.Errorf("CompileProgram(%q): got the line %d and the code %d, want %d and %d", text, line, code, wantLine, wantCode)
	}
	if code != impl.OK && !samePrograms(p, impl.Program{}) {
		t.Errorf("CompileProgram(%q): got %v with the code %d", text, p, code)
	}
	if code == impl.OK && !impl.ValidProgram(p) {
		t.Errorf("CompileProgram(%q): got %v, which is not valid", text, p)
	}
}

// hasOperations checks the code of a text by its lines.
func hasOperations(t *testing.T, text, want string) {
	t.Helper()
	p := programOf(t, text)
	if got := strings.ReplaceAll(impl.ProgramText(p), "\n", "; "); got != want+"; " {
		t.Errorf("CompileProgram(%q): got %s, want %s", text, got, want)
	}
}

func TestP11TheExample(t *testing.T) {
	text := "heat = pick(in0 < 20, in1 * 2, 0)"
	want := impl.Program{
		Names: []string{"heat"},
		Code: []impl.Op{
			{Kind: 2}, {Kind: 1, Num: 20}, {Kind: 8}, {Kind: 2, At: 1}, {Kind: 1, Num: 2}, {Kind: 7}, {Kind: 1}, {Kind: 11}, {Kind: 4},
		},
	}
	p := programOf(t, text)
	if !samePrograms(p, want) || !impl.ValidProgram(p) {
		t.Errorf("got %v", p)
	}
	values, code := impl.RunProgram(p, [4]float32{18, 3})
	areNumbers(t, "RunProgram", values, []float32{6}, code, impl.OK)
	values, code = impl.RunProgram(p, [4]float32{20, 3})
	areNumbers(t, "RunProgram", values, []float32{0}, code, impl.OK)
	spans, code := impl.ProveProgram(p, [4]impl.Span{{Low: 25, High: 30}})
	areSpans(t, "ProveProgram", spans, []impl.Span{{}}, code, impl.OK)
	spans, code = impl.ProveProgram(p, [4]impl.Span{{Low: 15, High: 25}, {Low: 0, High: 1}})
	areSpans(t, "ProveProgram", spans, []impl.Span{{Low: -tiny, High: above(2)}}, code, impl.OK)
	spans, code = impl.ProveProgram(p, [4]impl.Span{{Low: 15, High: 19}, {Low: 1, High: 2}})
	areSpans(t, "ProveProgram", spans, []impl.Span{{Low: below(2), High: above(4)}}, code, impl.OK)
}

func TestP11OrderOfOperations(t *testing.T) {
	for _, c := range [][2]string{
		{"x = 1", "push 3f800000; store x"},
		{"x = 0", "push 00000000; store x"},
		{"x = in3", "input 3; store x"},
		{"x = -in0", "input 0; neg; store x"},
		{"x = - - in0", "input 0; neg; neg; store x"},
		{"x = in0 - in1 - in2", "input 0; input 1; sub; input 2; sub; store x"},
		{"x = in0 - (in1 - in2)", "input 0; input 1; input 2; sub; sub; store x"},
		{"x = in0 - in1 + in2", "input 0; input 1; sub; input 2; add; store x"},
		{"x = in0 + in1 * in2", "input 0; input 1; input 2; mul; add; store x"},
		{"x = in0 * in1 + in2", "input 0; input 1; mul; input 2; add; store x"},
		{"x = in0 * in1 * in2", "input 0; input 1; mul; input 2; mul; store x"},
		{"x = in0 * (in1 * in2)", "input 0; input 1; input 2; mul; mul; store x"},
		{"x = -in0 * in1", "input 0; neg; input 1; mul; store x"},
		{"x = in0 * -in1", "input 0; input 1; neg; mul; store x"},
		{"x = -(in0 * in1)", "input 0; input 1; mul; neg; store x"},
		{"x = in0--in1", "input 0; input 1; neg; sub; store x"},
		{"x = in0 - -in1 - in2", "input 0; input 1; neg; sub; input 2; sub; store x"},
		{"x = in0 + in1 < in2 - in3", "input 0; input 1; add; input 2; input 3; sub; less; store x"},
		{"x = (in0 < in1) < in2", "input 0; input 1; less; input 2; less; store x"},
		{"x = in0 < (in1 < in2)", "input 0; input 1; input 2; less; less; store x"},
		{"x = min(in0, in1)", "input 0; input 1; min; store x"},
		{"x = max(in0 < 1, in1)", "input 0; push 3f800000; less; input 1; max; store x"},
		{"x = pick(in0, in1, in2)", "input 0; input 1; input 2; pick; store x"},
		{"x = pick(1 < 2, 3 < 4, min(5, 6))", "push 3f800000; push 40000000; less; push 40400000; push 40800000; less; push 40a00000; push 40c00000; min; pick; store x"},
		{"x = (((in0)))", "input 0; store x"},
		{"x = 1\ny = x\nz = y + x", "push 3f800000; store x; load x; store y; load y; load x; add; store z"},
		{"in = 1\ninn = in", "push 3f800000; store in; load in; store inn"},
	} {
		hasOperations(t, c[0], c[1])
	}
}

func TestP11Numbers(t *testing.T) {
	for _, c := range []struct {
		text string
		want float32
	}{
		{"0", 0}, {"1", 1}, {"9", 9}, {"10", 10}, {"100000", 100000}, {"999999", 999999}, {"0/2", 0}, {"0/1024", 0}, {"1/2", 0.5}, {"1/4", 0.25}, {"3/8", 0.375},
		{"1/16", 0.0625}, {"5/32", 0.15625}, {"1/64", 1.0 / 64}, {"7/128", 7.0 / 128}, {"1/256", 1.0 / 256}, {"9/512", 9.0 / 512}, {"1/1024", 1.0 / 1024},
		{"999999/2", 499999.5}, {"999999/1024", 999999.0 / 1024}, {"1024/1024", 1},
	} {
		p := programOf(t, "x = "+c.text)
		if want := []impl.Op{{Kind: impl.OpPush, Num: c.want}, {Kind: impl.OpStore}}; !slices.EqualFunc(p.Code, want, sameOps) {
			t.Errorf("%s: got %v", c.text, p.Code)
		}
	}
	for divisor := range 2100 {
		want := int64(impl.ErrSyntax)
		if slices.Contains([]int{2, 4, 8, 16, 32, 64, 128, 256, 512, 1024}, divisor) {
			want = impl.OK
		}
		isCompiled(t, fmt.Sprint("x = 3/", divisor), 0, want)
	}
	for _, bad := range []string{
		"00", "01", "007", "1000000", "9999999", "0000001", "12345678901234567890", "00/2", "01/2", "1000000/2", "1/", "/2", "1/02", "1/2/2", "1/2/", "1//2", "1 /2", "1/ 2", "1/-2",
		"1/00000002", "1/2048", "1/18446744073709551618", "1.5", "1e3", "0x1", "1_0", "+1", "1 2", "12 34", "1a", "1in0", "1(2)", "1/x", "1/in0", "1/2a", "١",
	} {
		isCompiled(t, "x = "+bad, 0, impl.ErrSyntax)
		isCompiled(t, "x = 1\ny = 2 + "+bad+" * 3", 1, impl.ErrSyntax)
	}
}

func TestP11Names(t *testing.T) {
	for _, good := range []string{"a", "z", "ab", "in", "inn", "mi", "mins", "minmax", "maxi", "pic", "picks", "abcdefgh", "zzzzzzzz", "less", "push"} {
		isCompiled(t, good+" = 1", 0, impl.OK)
		isCompiled(t, good+"=1\nx="+good, 0, impl.OK)
	}
	for _, bad := range []string{
		"", "abcdefghi", "zzzzzzzzzz", strings.Repeat("a", 1900), "min", "max", "pick", "in0", "in1", "in2", "in3", "in4", "a1", "1a", "1", "A", "aB", "a_b", "a b", "-a", "(a)", "a.b", "é", "aé", "{", "`",
		"min(", "a(",
	} {
		isCompiled(t, bad+" = 1", 0, impl.ErrSyntax)
		isCompiled(t, "x = 1\n"+bad+"=x", 1, impl.ErrSyntax)
	}
	for _, bad := range []string{"", "x", "y", "xx", "in", "in4", "in9", "in00", "in01", "in-1", "inO", "In0", "in 0", "min", "max", "pick", "abcdefghi", "X", "a1", "z"} {
		isCompiled(t, "x = "+bad, 0, impl.ErrSyntax)
		isCompiled(t, "a = 1\nx = a + "+bad+"\nz = 1", 1, impl.ErrSyntax)
	}
}

func TestP11TextsThatAreNotAsTold(t *testing.T) {
	for _, bad := range []string{
		"x", "x =", "= 1", "=", "x 1", "x == 1", "x = = 1", "x = 1 = 2", "x = 1 2", "x = 1,", "x = ,", "x = ()", "x = (", "x = )", "x = (1", "x = 1)", "x = (1))", "x = ((1)", "x = )1(",
		"x = +", "x = -", "x = *", "x = <", "x = +1", "x = *1", "x = <1", "x = 1 +", "x = 1 -", "x = 1 *", "x = 1 <", "x = 1 + + 1", "x = 1 * * 1", "x = 1 - * 1", "x = 1 < < 1", "x = 1 < 2 < 3", "x = 1 + (2 < 3 < 4)",
		"x = min", "x = min()", "x = min(1)", "x = min(1,)", "x = min(,1)", "x = min(1,2,3)", "x = min(1 2)", "x = min(1,2", "x = min (1,2)", "x = min 1,2", "x = min((1,2))", "x = min(1<2<3,1)",
		"x = max()", "x = max(1)", "x = max(1,2,3)", "x = max (1,2)", "x = pick()", "x = pick(1)", "x = pick(1,2)", "x = pick(1,2,3,4)", "x = pick (1,2,3)", "x = pick(1,,3)", "x = (1,2)", "x = (1,2,3)",
		"x = min(1,2)3", "x = 3min(1,2)", "x = min(1,2)(3)", "x = (1)(2)", "x = 2(3)", "x = in0(1)", "x = in0 in1", "x = in0in1", "x = abs(1)", "x = 1 > 2", "x = 1 <= 2", "x = 1 / 2", "x = in0/2", "x = (4)/2",
		"x = 1;", "x = 1 # one", "x = 1\t", "\tx = 1", "x\t= 1", "x = 1\r", "x = 1\r\n", "x = 1\x00", "x = 1\v", "x = 1\u00a0", "x = \xff", "x = 1\u2028", "x : 1", "x := 1", "X = 1", "x = IN0", "x = Min(1,2)", "x = min(1;2)", "x = [1]", "x = 1 &", "x = !1", "x = 1%2",
	} {
		isCompiled(t, bad, 0, impl.ErrSyntax)
		isCompiled(t, bad+"\n", 0, impl.ErrSyntax)
		isCompiled(t, "y = 1\n"+bad, 1, impl.ErrSyntax)
		isCompiled(t, "y = 1\n"+bad+"\nz =\ny = 2", 1, impl.ErrSyntax)
	}
}

func TestP11Lines(t *testing.T) {
	for _, c := range []struct {
		text       string
		line, code int64
	}{
		{"", 0, impl.OK}, {"\n", 0, impl.ErrSyntax}, {"\n\n", 0, impl.ErrSyntax}, {" ", 0, impl.ErrSyntax}, {"   \n", 0, impl.ErrSyntax}, {"\nx = 1", 0, impl.ErrSyntax},
		{"x = 1", 0, impl.OK}, {"x = 1\n", 0, impl.OK}, {"x = 1\n\n", 1, impl.ErrSyntax}, {"x = 1\n ", 1, impl.ErrSyntax}, {"x = 1\n \n", 1, impl.ErrSyntax}, {"x = 1\n\ny = 2", 1, impl.ErrSyntax},
		{"x = 1\ny = 2\n", 0, impl.OK}, {"x = 1\ny = 2\n\n", 2, impl.ErrSyntax}, {"x =\n1", 0, impl.ErrSyntax}, {"x = 1 +\n2", 0, impl.ErrSyntax}, {"x = min(1,\n2)", 0, impl.ErrSyntax},
		{"x = 1\nx = 2", 1, impl.ErrState}, {"x = 1\nx = x", 1, impl.ErrState}, {"x = 1\nx = ", 1, impl.ErrSyntax}, {"x = 1\nx = y", 1, impl.ErrSyntax}, {"x = 1\ny = 2\nx = 3\nz", 2, impl.ErrState},
		{"x = 1\nx\nx = 1", 1, impl.ErrSyntax}, {"x = 1\ny = 1\nz = 1\ny = 1", 3, impl.ErrState}, {"x = 1\nx = 2\nx", 1, impl.ErrState}, {"min = 1\nx", 0, impl.ErrSyntax},
	} {
		isCompiled(t, c.text, c.line, c.code)
	}
	if p, _, _ := impl.CompileProgram(""); !samePrograms(p, impl.Program{}) || !impl.ValidProgram(p) {
		t.Errorf("the empty text: got %v", p)
	}
}

func TestP11BlanksMayBeBetweenParts(t *testing.T) {
	want := programOf(t, "x=pick(in0<1/2,-min(2,in1)*3,max(0-1,(2)))\ny=x+x")
	for _, blanks := range []string{" ", "  ", strings.Repeat(" ", 30)} {
		parts := []string{"", "x", "=", "pick(", "in0", "<", "1/2", ",", "-", "min(", "2", ",", "in1", ")", "*", "3", ",", "max(", "0", "-", "1", ",", "(", "2", ")", ")", ")", "\n", "y", "=", "x", "+", "x", ""}
		if p := programOf(t, strings.Join(parts, blanks)); !samePrograms(p, want) {
			t.Errorf("got %v", p)
		}
	}
	for _, bad := range []string{"x = 1 2", "x = 1 /2", "x = 1/ 2", "x = in 0", "x = i n0", "x = min (1,2)", "x = m in(1,2)", "x = max (1,2)", "x = pick (1,2,3)", "a b = 1", "aa = 1\ny = a a"} {
		isCompiled(t, bad, int64(strings.Count(bad, "\n")), impl.ErrSyntax)
	}
}

func TestP11TheLongestTexts(t *testing.T) {
	long := func(size int, text string) string { return text + strings.Repeat(" ", size-len(text)) }
	isCompiled(t, long(2000, "x = 1"), 0, impl.OK)
	isCompiled(t, long(2001, "x = 1"), 0, impl.ErrRange)
	isCompiled(t, long(2001, "x = 1\ny"), 0, impl.ErrRange)
	isCompiled(t, strings.Repeat(" ", 2000), 0, impl.ErrSyntax)
	isCompiled(t, strings.Repeat(" ", 2001), 0, impl.ErrRange)
	isCompiled(t, strings.Repeat("\n", 2001), 0, impl.ErrRange)
	isCompiled(t, strings.Repeat("x", 1000000), 0, impl.ErrRange)
	isCompiled(t, long(1999, "x = 1")+"\n", 0, impl.OK)
	isCompiled(t, long(2000, "x = 1")+"\n", 0, impl.ErrRange)
	isCompiled(t, "x = 1\n"+strings.Repeat(" ", 1994), 1, impl.ErrSyntax)
}

// letters are so many different names.
func letters(count int) []string {
	var names []string
	for i := range count {
		names = append(names, string(rune('a'+i)))
	}
	return names
}

func TestP11MostNames(t *testing.T) {
	lines := func(count int) string { return strings.Join(letters(count), " = 1\n") + " = 1" }
	p := programOf(t, lines(12))
	if len(p.Names) != 12 || len(p.Code) != 24 || p.Code[23].At != 11 {
		t.Errorf("got %v", p)
	}
	isCompiled(t, lines(13), 12, impl.ErrLimit)
	isCompiled(t, lines(20), 12, impl.ErrLimit)
	isCompiled(t, lines(12)+"\na = 1", 12, impl.ErrState)
	isCompiled(t, lines(12)+"\nz = zz", 12, impl.ErrSyntax)
	isCompiled(t, lines(12)+"\na = ", 12, impl.ErrSyntax)
	isCompiled(t, lines(13)+"\na = ", 12, impl.ErrLimit)
}

func TestP11MostOperations(t *testing.T) {
	// A sum of so many numbers has twice as many operations, with OpStore.
	sum := func(count int) string { return "x = 1" + strings.Repeat("+1", count-1) }
	if p := programOf(t, sum(150)); len(p.Code) != 300 || !impl.ValidProgram(p) {
		t.Errorf("got %d operations", len(p.Code))
	}
	isCompiled(t, sum(151), 0, impl.ErrLimit)
	isCompiled(t, "x = -1"+strings.Repeat("+1", 149), 0, impl.ErrLimit)
	isCompiled(t, sum(149)+"\ny = 1", 0, impl.OK)
	isCompiled(t, sum(150)+"\ny = 1", 1, impl.ErrLimit)
	isCompiled(t, sum(149)+"\ny = -1", 1, impl.ErrLimit)
	isCompiled(t, sum(150)+"\nx = 1", 1, impl.ErrState)
	isCompiled(t, sum(150)+"\nx = ", 1, impl.ErrSyntax)
	isCompiled(t, sum(990), 0, impl.ErrLimit)
	isCompiled(t, sum(990)+"+", 0, impl.ErrSyntax)
	isCompiled(t, "y = 1\n"+sum(151)+"\nz", 1, impl.ErrLimit)
}

func TestP11MostNumbersOnTheStack(t *testing.T) {
	deep := func(count int) string {
		return "x = " + strings.Repeat("1+(", count-1) + "1" + strings.Repeat(")", count-1)
	}
	isCompiled(t, deep(20), 0, impl.OK)
	isCompiled(t, deep(21), 0, impl.ErrLimit)
	isCompiled(t, deep(21)+")", 0, impl.ErrSyntax)
	isCompiled(t, "x = 1\n"+deep(21), 1, impl.ErrState)
	isCompiled(t, "y = 1\n"+deep(21), 1, impl.ErrLimit)
	isCompiled(t, deep(150), 0, impl.ErrLimit)
	isCompiled(t, deep(19)+"+("+deep(20)[4:]+")", 0, impl.ErrLimit)
	isCompiled(t, deep(20)+"+("+deep(19)[4:]+")", 0, impl.OK)
	for _, c := range []struct {
		open, closed string
		lays         int
	}{{"min(1,", ")", 1}, {"max(1,", ")", 1}, {"pick(1,2,", ")", 2}, {"1*(", ")", 1}, {"1<(", ")", 1}, {"1-(", ")", 1}} {
		for count := range 22 {
			want := int64(impl.OK)
			if count*c.lays+1 > 20 {
				want = impl.ErrLimit
			}
			isCompiled(t, "x = "+strings.Repeat(c.open, count)+"1"+strings.Repeat(c.closed, count), 0, want)
		}
	}
	// What is done at once does not grow on the stack.
	isCompiled(t, "x = "+strings.Repeat("min(", 70)+"1"+strings.Repeat(",1)", 70), 0, impl.OK)
	isCompiled(t, "x = "+strings.Repeat("pick(", 60)+"1"+strings.Repeat(",1,2)", 60), 0, impl.OK)
}

func TestP11DeeplyNestedTexts(t *testing.T) {
	nested := func(count int) string { return "x = " + strings.Repeat("(", count) + "1" + strings.Repeat(")", count) }
	for _, count := range []int{0, 1, 2, 21, 300, 997} {
		hasOperations(t, nested(count), "push 3f800000; store x")
	}
	isCompiled(t, nested(998), 0, impl.ErrRange)
	isCompiled(t, nested(997)+")", 0, impl.ErrSyntax)
	isCompiled(t, "x = "+strings.Repeat("(", 1996), 0, impl.ErrSyntax)
	isCompiled(t, "x = "+strings.Repeat("-", 1996), 0, impl.ErrSyntax)
	isCompiled(t, "x = "+strings.Repeat("-(", 998), 0, impl.ErrSyntax)
	isCompiled(t, "x = "+strings.Repeat("pick(", 399), 0, impl.ErrSyntax)
	isCompiled(t, "x = "+strings.Repeat("-", 298)+"1", 0, impl.OK)
	isCompiled(t, "x = "+strings.Repeat("-", 299)+"1", 0, impl.ErrLimit)
	isCompiled(t, "x = "+strings.Repeat("-", 1995)+"1", 0, impl.ErrLimit)
	isCompiled(t, "x = "+strings.Repeat("-(", 298)+"1"+strings.Repeat(")", 298), 0, impl.OK)
	values, code := impl.RunProgram(programOf(t, "x = "+strings.Repeat("-", 297)+"0"), [4]float32{})
	areNumbers(t, "signs", values, []float32{negZero}, code, impl.OK)
}

func TestP11TextsAreCompiledAsTold(t *testing.T) {
	d := dice(111)
	codes := map[int64]int{}
	for i := range 16000 {
		text := d.source()
		for range []int{0, 0, 1, 2}[i%4] {
			text = d.spoiled(text)
		}
		want, _, wantLine, wantCode := modelCompile(text)
		got, line, code := impl.CompileProgram(text)
		if !samePrograms(got, want) || line != wantLine || code != wantCode {
			t.Fatalf("CompileProgram(%q): got %v, the line %d and the code %d, want %v, %d and %d", text, got, line, code, want, wantLine, wantCode)
		}
		if wantText := modelProgramText(want); code == impl.OK && impl.ProgramText(got) != wantText {
			t.Fatalf("ProgramText(%v): got %q, want %q", got, impl.ProgramText(got), wantText)
		}
		codes[code]++
	}
	for code, least := range map[int64]int{impl.OK: 3000, impl.ErrSyntax: 3000, impl.ErrState: 100, impl.ErrLimit: 40, impl.ErrRange: 1} {
		if codes[code] < least {
			t.Errorf("too few with the code %d: %v", code, codes)
		}
	}
}

// manyInputs have all edges in all places.
func manyInputs(d *dice) [][4]float32 {
	var list [][4]float32
	odd := append(edgeNumbers(), nan, otherNaN)
	for range 4 {
		list = append(list, [4]float32{d.anyNumber(), d.anyNumber(), d.anyNumber(), d.anyNumber()})
		list = append(list, [4]float32{d.pick(odd...), d.pick(odd...), d.pick(odd...), d.pick(odd...)})
		list = append(list, [4]float32{d.share(), float32(d.roll(40)), -d.share(), d.share() * 100})
	}
	return list
}

// A program answers the same as its text says.
func TestP11ProgramsAnswerAsTheirTexts(t *testing.T) {
	d := dice(112)
	for range 3000 {
		text := d.goodSource()
		p := programOf(t, text)
		_, trees, _, _ := modelCompile(text)
		for _, inputs := range manyInputs(&d) {
			var want []float32
			for _, tree := range trees {
				want = append(want, tree.value(inputs, want))
			}
			values, code := impl.RunProgram(p, inputs)
			areNumbers(t, text, values, want, code, impl.OK)
			also, _ := modelRun(p, inputs)
			areNumbers(t, "the model of the machine", also, want, impl.OK, impl.OK)
			at := d.roll(len(want))
			value, code := impl.ValueIn(p, inputs, p.Names[at])
			areNumbers(t, "ValueIn", []float32{value}, want[at:at+1], code, impl.OK)
		}
	}
}

func TestP11KnownValues(t *testing.T) {
	const text = "a = in0 + in1\nb = in0 - in1\nc = in0 * in1\nd = in0 < in1\ne = min(in0, in1)\nf = max(in0, in1)\ng = pick(in0, 1, 2)\nh = -in0"
	p := programOf(t, text)
	for _, c := range []struct {
		a, b float32
		want []float32
	}{
		{3, 4, []float32{7, -1, 12, 1, 3, 4, 1, -3}},
		{4, 3, []float32{7, 1, 12, 0, 3, 4, 1, -4}},
		{3, 3, []float32{6, 0, 9, 0, 3, 3, 1, -3}},
		{0, negZero, []float32{0, 0, negZero, 0, 0, 0, 2, negZero}},
		{negZero, 0, []float32{0, negZero, negZero, 0, negZero, negZero, 2, 0}},
		{negZero, negZero, []float32{negZero, 0, 0, 0, negZero, negZero, 2, 0}},
		{-tiny, 0.5, []float32{0.5, -0.5, negZero, 1, -tiny, 0.5, 2, tiny}},
		{tiny, 0.75, []float32{0.75, -0.75, tiny, 1, tiny, 0.75, 1, -tiny}},
		{big, big, []float32{inf, 0, inf, 0, big, big, 1, -big}},
		{-big, big, []float32{0, -inf, -inf, 1, -big, big, 2, big}},
		{inf, -inf, []float32{nan, inf, -inf, 0, -inf, inf, 1, -inf}},
		{inf, inf, []float32{inf, nan, inf, 0, inf, inf, 1, -inf}},
		{inf, 0, []float32{inf, inf, nan, 0, 0, inf, 1, -inf}},
		{nan, 1, []float32{nan, nan, nan, 0, nan, nan, 2, nan}},
		{1, nan, []float32{nan, nan, nan, 0, 1, 1, 1, -1}},
		{1, otherNaN, []float32{nan, nan, nan, 0, 1, 1, 1, -1}},
		{16777216, 1, []float32{16777216, 16777215, 16777216, 0, 1, 16777216, 1, -16777216}},
		{0.1, 0.2, []float32{plus(0.1, 0.2), minus(0.1, 0.2), times(0.1, 0.2), 1, 0.1, 0.2, 1, -0.1}},
	} {
		values, code := impl.RunProgram(p, [4]float32{c.a, c.b, 9, 9})
		areNumbers(t, fmt.Sprint(c.a, c.b), values, c.want, code, impl.OK)
	}
}

// A product is rounded before something is added to it.
func TestP11ProductsAreRounded(t *testing.T) {
	p := programOf(t, "x = in0 * in1 + in2\ny = in2 - in0 * in1\nz = in0 * in1\nw = z + in2")
	a := above(1)
	values, code := impl.RunProgram(p, [4]float32{a, a, -times(a, a)})
	areNumbers(t, "the rounded product is taken away", values, []float32{0, minus(times(-1, times(a, a)), times(a, a)), times(a, a), 0}, code, impl.OK)
}

func TestP11ValueIn(t *testing.T) {
	p := programOf(t, "a = 1\nheat = in2\nb = heat * 2")
	for name, want := range map[string]float32{"a": 1, "heat": -3, "b": -6} {
		got, code := impl.ValueIn(p, [4]float32{0, 0, -3, 0}, name)
		areNumbers(t, name, []float32{got}, []float32{want}, code, impl.OK)
	}
	for _, name := range []string{"", "c", "hea", "heatt", "HEAT", "in0", "min", " a", "a ", strings.Repeat("a", 900000)} {
		got, code := impl.ValueIn(p, [4]float32{1, 1, 1, 1}, name)
		areNumbers(t, "no such name", []float32{got}, []float32{0}, code, impl.ErrNotFound)
	}
	got, code := impl.ValueIn(impl.Program{}, [4]float32{}, "")
	areNumbers(t, "no names", []float32{got}, []float32{0}, code, impl.ErrNotFound)
}

func TestP11ProgramsWithoutNames(t *testing.T) {
	values, code := impl.RunProgram(impl.Program{}, [4]float32{nan, inf, 1, 2})
	areNumbers(t, "RunProgram", values, nil, code, impl.OK)
	spans, code := impl.ProveProgram(impl.Program{}, [4]impl.Span{})
	areSpans(t, "ProveProgram", spans, nil, code, impl.OK)
	if impl.ProgramText(impl.Program{}) != "" {
		t.Error("there are no operations")
	}
}

func TestP11ProgramTextOfAnyNumber(t *testing.T) {
	p := impl.Program{Names: []string{"a", "pic"}, Code: []impl.Op{
		{Kind: 1, Num: -1.5}, {Kind: 2, At: 3}, {Kind: 5}, {Kind: 4}, {Kind: 1, Num: tiny}, {Kind: 12}, {Kind: 3}, {Kind: 6}, {Kind: 1, Num: -big}, {Kind: 9}, {Kind: 2}, {Kind: 10}, {Kind: 4, At: 1},
	}}
	want := "push bfc00000\ninput 3\nadd\nstore a\npush 00000001\nneg\nload a\nsub\npush ff7fffff\nmin\ninput 0\nmax\nstore pic\n"
	if got := impl.ProgramText(p); got != want {
		t.Errorf("got %q, want %q", got, want)
	}
}

func spansOf(list ...float32) []impl.Span {
	var spans []impl.Span
	for i := 0; i < len(list); i += 2 {
		spans = append(spans, impl.Span{Low: list[i], High: list[i+1]})
	}
	return spans
}

func TestP11KnownProofs(t *testing.T) {
	const text = "a = in0 + in1\nb = in0 - in1\nc = in0 * in1\nd = in0 < in1\ne = min(in0, in1)\nf = max(in0, in1)\ng = pick(in0, in1, in2)\nh = -in0\ni = 5"
	p := programOf(t, text)
	for _, c := range []struct {
		inputs [4]impl.Span
		want   []impl.Span
	}{
		{[4]impl.Span{{Low: 1, High: 2}, {Low: 4, High: 8}, {Low: 7, High: 9}},
			spansOf(below(5), above(10), below(-7), above(-2), below(4), above(16), 1, 1, 1, 2, 4, 8, 4, 8, -2, -1, 5, 5)},
		{[4]impl.Span{{Low: -2, High: 3}, {Low: 1, High: 4}, {Low: 0, High: 2}},
			spansOf(below(-1), above(7), below(-6), above(2), below(-8), above(12), 0, 1, -2, 3, 1, 4, 0, 4, -3, 2, 5, 5)},
		{[4]impl.Span{{Low: -2, High: 0}, {Low: -4, High: -3}, {Low: 0, High: 2}},
			spansOf(below(-6), above(-3), below(1), above(4), -tiny, above(8), 0, 0, -4, -3, -2, 0, 0, 2, negZero, 2, 5, 5)},
		{[4]impl.Span{{Low: tiny, High: 1}, {Low: 5, High: 5}, {Low: 6, High: 6}},
			spansOf(below(5), above(6), below(-5), above(-4), 4*tiny, above(5), 1, 1, tiny, 1, 5, 5, 5, 5, -1, -tiny, 5, 5)},
		{[4]impl.Span{{Low: 0, High: tiny}, {Low: 5, High: 5}, {Low: 6, High: 6}},
			spansOf(below(5), above(5), below(-5), above(-5), -tiny, 6*tiny, 1, 1, 0, tiny, 5, 5, 5, 6, -tiny, negZero, 5, 5)},
		{[4]impl.Span{{Low: negZero, High: 0}, {Low: 0, High: negZero}, {Low: big, High: big}},
			spansOf(-tiny, tiny, -tiny, tiny, -tiny, tiny, 0, 0, negZero, 0, negZero, 0, big, big, negZero, 0, 5, 5)},
		{[4]impl.Span{{Low: -big, High: big}, {Low: -big, High: big}, {Low: -1, High: 1}},
			spansOf(-inf, inf, -inf, inf, -inf, inf, 0, 1, -big, big, -big, big, -big, big, -big, big, 5, 5)},
	} {
		spans, code := impl.ProveProgram(p, c.inputs)
		areSpans(t, fmt.Sprint(c.inputs), spans, c.want, code, impl.OK)
	}
}

// Of both sides of a pick that may be either, ends that are equal are taken from the second number; of OpMin and OpMax from the first.
func TestP11EqualEndsInProofs(t *testing.T) {
	p := programOf(t, "a = min(in0, in1)\nb = max(in0, in1)\nc = pick(in2, in0, in1)")
	for _, c := range []struct {
		s, t impl.Span
		want []impl.Span
	}{
		{impl.Span{Low: 0, High: 0}, impl.Span{Low: negZero, High: negZero}, spansOf(0, 0, 0, 0, 0, 0)},
		{impl.Span{Low: negZero, High: negZero}, impl.Span{Low: 0, High: 0}, spansOf(negZero, negZero, negZero, negZero, negZero, negZero)},
		{impl.Span{Low: 0, High: negZero}, impl.Span{Low: negZero, High: 0}, spansOf(0, negZero, 0, negZero, 0, negZero)},
		{impl.Span{Low: -1, High: 0}, impl.Span{Low: negZero, High: 1}, spansOf(-1, 0, negZero, 1, -1, 1)},
	} {
		spans, code := impl.ProveProgram(p, [4]impl.Span{c.s, c.t, {Low: 0, High: 1}})
		areSpans(t, fmt.Sprint(c.s, c.t), spans, c.want, code, impl.OK)
	}
}

// Products of two infinite spans in the middle of a program have NaN among their ends.
func TestP11InfiniteSpansInProofs(t *testing.T) {
	p := programOf(t, "a = in0 * in0\nb = a - a\nc = a * 0\nd = pick(b, 1, 2)\ne = max(min(c, 3), 1)")
	whole := impl.Span{Low: -inf, High: inf}
	spans, code := impl.ProveProgram(p, [4]impl.Span{{Low: big, High: big}})
	areSpans(t, "too great", spans, []impl.Span{{Low: big, High: inf}, whole, whole, {Low: 1, High: 2}, {Low: 1, High: 3}}, code, impl.OK)
	values, code := impl.RunProgram(p, [4]float32{big})
	areNumbers(t, "too great", values, []float32{inf, nan, nan, 2, nan}, code, impl.OK)
}

func TestP11ProofsAreAsTold(t *testing.T) {
	d := dice(113)
	for range 6000 {
		p := programOf(t, d.goodSource())
		var inputs [4]impl.Span
		for i := range inputs {
			if inputs[i] = d.smallSpan(); d.roll(4) == 0 {
				inputs[i] = d.finiteSpan()
			}
		}
		spans, code := impl.ProveProgram(p, inputs)
		areSpans(t, impl.ProgramText(p), spans, modelProve(p, inputs), code, impl.OK)
		for _, s := range spans {
			if !impl.ValidSpan(s) {
				t.Fatalf("%q with %v: got %v, which is not valid", impl.ProgramText(p), inputs, s)
			}
		}
	}
}

// finiteSpan may have great ends, but no infinite ones.
func (d *dice) finiteSpan() impl.Span {
	for {
		if s := d.span(); isGood(s.Low) && isGood(s.High) {
			return s
		}
	}
}

// If all inputs lie in their spans, all values lie in the spans that are proved, as long as no number on the stack is NaN.
func TestP11ValuesLieInProvedSpans(t *testing.T) {
	d := dice(114)
	checked, left := 0, 0
	for range 5000 {
		p := programOf(t, d.goodSource())
		var inputs [4]impl.Span
		for i := range inputs {
			if inputs[i] = d.smallSpan(); d.roll(5) == 0 {
				inputs[i] = d.finiteSpan()
			}
		}
		spans, _ := impl.ProveProgram(p, inputs)
		for range 12 {
			var given [4]float32
			for i, s := range inputs {
				given[i] = d.inside(s)
			}
			values, _ := impl.RunProgram(p, given)
			if _, met := modelRun(p, given); met {
				left++
				continue
			}
			for i, a := range values {
				if checked++; !impl.InSpan(spans[i], a) {
					t.Fatalf("%q with %v: the value %v of %s does not lie in %v", impl.ProgramText(p), given, a, p.Names[i], spans[i])
				}
			}
		}
	}
	if checked < 50000 || left == 0 {
		t.Errorf("only %d values were checked, and %d runs had NaN", checked, left)
	}
}

func TestP11IsProved(t *testing.T) {
	p := programOf(t, "heat = in0\nzero = 0 * 1\nlow = max(in1, 0)")
	inputs := [4]impl.Span{{Low: 1, High: 2}, {Low: negZero, High: negZero}}
	for _, c := range []struct {
		name      string
		low, high float32
		want      bool
	}{
		{"heat", 1, 2, true}, {"heat", 0, 3, true}, {"heat", above(1), 2, false}, {"heat", 1, below(2), false}, {"heat", below(1), above(2), true}, {"heat", -inf, inf, true},
		{"heat", 3, 4, false}, {"heat", -1, 0, false}, {"heat", 2, 2, false}, {"heat", 1, 1, false}, {"heat", inf, inf, false}, {"heat", -inf, -inf, false}, {"heat", -inf, 2, true}, {"heat", 1, inf, true},
		{"zero", 0, 0, false}, {"zero", -tiny, tiny, true}, {"zero", negZero, tiny, false}, {"zero", -tiny, 0, false},
		{"low", 0, 0, true}, {"low", negZero, negZero, true}, {"low", 0, negZero, true}, {"low", negZero, 0, true}, {"low", tiny, 1, false}, {"low", -1, -tiny, false},
	} {
		if got, code := impl.IsProved(p, inputs, c.name, impl.Span{Low: c.low, High: c.high}); got != c.want || code != impl.OK {
			t.Errorf("%s within %v and %v: got %v and the code %d", c.name, c.low, c.high, got, code)
		}
	}
	for _, name := range []string{"", "hea", "in0", "x"} {
		if got, code := impl.IsProved(p, inputs, name, impl.Span{Low: -inf, High: inf}); got || code != impl.ErrNotFound {
			t.Errorf("%q: got %v and the code %d", name, got, code)
		}
	}
	d := dice(115)
	for range 5000 {
		p, inputs, bounds := programOf(t, d.goodSource()), [4]impl.Span{d.smallSpan(), d.smallSpan(), d.smallSpan(), d.finiteSpan()}, d.span()
		name := p.Names[d.roll(len(p.Names))]
		if spans := modelProve(p, inputs); d.roll(3) == 0 {
			bounds = spans[slices.Index(p.Names, name)]
		}
		if got, code := impl.IsProved(p, inputs, name, bounds); got != modelIsProved(p, inputs, name, bounds) || code != impl.OK {
			t.Fatalf("%q with %v: %s within %v: got %v and the code %d", impl.ProgramText(p), inputs, name, bounds, got, code)
		}
	}
}

func TestP11NarrowInput(t *testing.T) {
	text := "x = in0\nheat = pick(in0 < 20, in1 * 2, 0)\nhole = pick(in0 < 4, 0, pick(in0 < 5, 9, 0))\nholes = pick(in0 < 2, 0, pick(in0 < 3, 9, pick(in0 < 5, 0, pick(in0 < 6, 9, 0))))\nno = 9"
	p := programOf(t, text)
	for _, c := range []struct {
		name   string
		input  impl.Span
		bounds impl.Span
		parts  int64
		want   impl.Span
		code   int64
	}{
		{"heat", impl.Span{Low: 16, High: 24}, impl.Span{Low: 0, High: 1}, 8, impl.Span{Low: 20, High: 24}, impl.OK},
		{"heat", impl.Span{Low: 16, High: 24}, impl.Span{Low: 0, High: 1}, 64, impl.Span{Low: 20, High: 24}, impl.OK},
		{"heat", impl.Span{Low: 16, High: 24}, impl.Span{Low: 0, High: 1}, 3, impl.Span{Low: plus(16, times(over(2, 3), 8)), High: 24}, impl.OK},
		{"heat", impl.Span{Low: 16, High: 24}, impl.Span{Low: 0, High: 1}, 1, impl.Span{}, impl.ErrNotFound},
		{"heat", impl.Span{Low: 16, High: 24}, impl.Span{Low: -1, High: 17}, 1, impl.Span{Low: 16, High: 24}, impl.OK},
		{"heat", impl.Span{Low: 16, High: 24}, impl.Span{Low: -1, High: 17}, 64, impl.Span{Low: 16, High: 24}, impl.OK},
		{"x", impl.Span{Low: 0, High: 10}, impl.Span{Low: 3, High: 6}, 10, impl.Span{Low: 3, High: 6}, impl.OK},
		{"x", impl.Span{Low: 0, High: 10}, impl.Span{Low: 3, High: below(6)}, 10, impl.Span{Low: 3, High: 5}, impl.OK},
		{"x", impl.Span{Low: 0, High: 10}, impl.Span{Low: above(3), High: 6}, 10, impl.Span{Low: 4, High: 6}, impl.OK},
		{"x", impl.Span{Low: 0, High: 10}, impl.Span{Low: 0, High: 1}, 10, impl.Span{Low: 0, High: 1}, impl.OK},
		{"x", impl.Span{Low: 0, High: 10}, impl.Span{Low: 9, High: 10}, 10, impl.Span{Low: 9, High: 10}, impl.OK},
		{"x", impl.Span{Low: 0, High: 10}, impl.Span{Low: 9, High: below(10)}, 10, impl.Span{}, impl.ErrNotFound},
		{"hole", impl.Span{Low: 0, High: 10}, impl.Span{}, 10, impl.Span{Low: 5, High: 10}, impl.OK},
		{"hole", impl.Span{Low: 0, High: 9}, impl.Span{}, 9, impl.Span{Low: 5, High: 9}, impl.OK},
		{"hole", impl.Span{Low: 0, High: 8}, impl.Span{}, 8, impl.Span{Low: 0, High: 3}, impl.OK},
		{"hole", impl.Span{Low: 1, High: 8}, impl.Span{}, 7, impl.Span{Low: 5, High: 8}, impl.OK},
		{"holes", impl.Span{Low: 0, High: 8}, impl.Span{}, 8, impl.Span{Low: 6, High: 8}, impl.OK},
		{"holes", impl.Span{Low: 0, High: 7}, impl.Span{}, 7, impl.Span{Low: 0, High: 1}, impl.OK},
		{"no", impl.Span{Low: 0, High: 8}, impl.Span{Low: 0, High: 8}, 8, impl.Span{}, impl.ErrNotFound},
		{"no", impl.Span{Low: 0, High: 8}, impl.Span{Low: 0, High: 9}, 8, impl.Span{Low: 0, High: 8}, impl.OK},
		{"x", impl.Span{Low: 5, High: 5}, impl.Span{Low: 5, High: 5}, 64, impl.Span{Low: 5, High: 5}, impl.OK},
		{"x", impl.Span{Low: 5, High: 5}, impl.Span{Low: 6, High: 6}, 64, impl.Span{}, impl.ErrNotFound},
		{"x", impl.Span{Low: negZero, High: negZero}, impl.Span{}, 1, impl.Span{Low: 0, High: negZero}, impl.OK},
		{"x", impl.Span{Low: negZero, High: 0}, impl.Span{}, 2, impl.Span{Low: 0, High: 0}, impl.OK},
		{"x", impl.Span{Low: 0, High: negZero}, impl.Span{}, 2, impl.Span{Low: 0, High: negZero}, impl.OK},
		{"x", impl.Span{Low: 1, High: above(1)}, impl.Span{Low: 1, High: 1}, 64, impl.Span{Low: 1, High: 1}, impl.OK},
		{"x", impl.Span{Low: 1, High: above(1)}, impl.Span{Low: above(1), High: 2}, 64, impl.Span{Low: above(1), High: above(1)}, impl.OK},
		{"x", impl.Span{Low: 0, High: tiny}, impl.Span{}, 4, impl.Span{Low: 0, High: 0}, impl.OK},
		{"x", impl.Span{Low: 0, High: big}, impl.Span{Low: 0, High: big}, 64, impl.Span{Low: 0, High: big}, impl.OK},
		{"x", impl.Span{Low: -1, High: big}, impl.Span{Low: -inf, High: inf}, 64, impl.Span{Low: -1, High: big}, impl.OK},
		{"x", impl.Span{Low: -big, High: big}, impl.Span{Low: -inf, High: inf}, 1, impl.Span{}, impl.ErrState},
		{"x", impl.Span{Low: -big, High: big}, impl.Span{Low: -inf, High: inf}, 2, impl.Span{}, impl.ErrState},
		{"no", impl.Span{Low: -big, High: 1e32}, impl.Span{}, 64, impl.Span{}, impl.ErrState},
	} {
		inputs := [4]impl.Span{c.input, {Low: 0, High: 8}}
		got, code := impl.NarrowInput(p, inputs, 0, c.name, c.bounds, c.parts)
		isSpan(t, fmt.Sprint(c.name, c.input, c.bounds, c.parts), got, c.want, code, c.code)
	}
}

// Each input may be the one that becomes narrower; the others stay as they are.
func TestP11NarrowEachInput(t *testing.T) {
	p := programOf(t, "x = in0 + in1 * 2 + in2 * 4 + in3 * 8")
	inputs := [4]impl.Span{{Low: 0, High: 8}, {Low: 0, High: 8}, {Low: 0, High: 8}, {Low: 0, High: 8}}
	for input, want := range []float32{4, 6, 7, 7} {
		most := float32(120 - 8*int(1<<input) + int(want)*int(1<<input))
		got, code := impl.NarrowInput(p, inputs, int64(input), "x", impl.Span{Low: -1, High: most + 0.5}, 8)
		isSpan(t, fmt.Sprint(input), got, impl.Span{Low: 0, High: want}, code, impl.OK)
	}
}

func TestP11NarrowInputIsAsTold(t *testing.T) {
	d := dice(116)
	codes := map[int64]int{}
	for range 5000 {
		p := programOf(t, d.goodSource())
		inputs := [4]impl.Span{d.smallSpan(), d.smallSpan(), d.smallSpan(), d.smallSpan()}
		input, parts := d.roll(4), 1+d.roll(64)
		switch d.roll(12) {
		case 0, 1, 2:
			inputs[input] = d.finiteSpan()
		case 3:
			inputs[input] = impl.Span{Low: d.pick(-big, -1e38), High: d.pick(1e35, 1e38, 3e38, big)}
		}
		name := p.Names[d.roll(len(p.Names))]
		// Bounds near a value are reached by some of the parts.
		near, _ := impl.ValueIn(p, [4]float32{d.inside(inputs[0]), d.inside(inputs[1]), d.inside(inputs[2]), d.inside(inputs[3])}, name)
		bounds := impl.Span{Low: near - d.pick(0, 1, 10, d.share()*5), High: near + d.pick(tiny, 1, 10, d.share()*5)}
		if !modelValidSpan(bounds) {
			continue
		}
		want, wantCode := modelNarrow(p, inputs, input, name, bounds, parts)
		got, code := impl.NarrowInput(p, inputs, int64(input), name, bounds, int64(parts))
		isSpan(t, fmt.Sprintf("%q %v %d %s %v %d", impl.ProgramText(p), inputs, input, name, bounds, parts), got, want, code, wantCode)
		codes[code]++
		if code == impl.OK && !sameSpan(got, inputs[input]) {
			codes[-1]++
		}
	}
	for _, code := range []int64{impl.OK, impl.ErrNotFound, impl.ErrState, -1} {
		if codes[code] < 50 {
			t.Errorf("too few with the code %d: %v", code, codes)
		}
	}
}
