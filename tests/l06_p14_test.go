package tests

import (
	"fmt"
	"math"
	"slices"
	"strings"
	"testing"

	"loop.example/g01229/impl"
)

// Promise 14: journals are replayed, and other marks are told.

func isJournal(t *testing.T, name string, got, want []impl.Entry, code, wantCode int64) {
	t.Helper()
	if !slices.Equal(got, want) || code != wantCode {
		t.Errorf("%s: got the journal %v and the code %d, want %v and %d", name, got, code, want, wantCode)
	}
}

func actEntry(kind, a, b int64) impl.Entry { return impl.Entry{Act: impl.Act{Kind: kind, A: a, B: b}} }

func markEntry(check uint32) impl.Entry { return impl.Entry{Mark: true, Check: check} }

// These checks were calculated from the texts of the example in exampleText and tickedText.
func TestP14KnownChecks(t *testing.T) {
	before, code := impl.CheckOf(exampleHouse())
	isCount(t, "the example", int64(before), 0x7018af4b, code, impl.OK)
	h, _ := impl.TickHouse(exampleHouse())
	behind, code := impl.CheckOf(h)
	isCount(t, "the example behind a tick", int64(behind), 0xcebc1de3, code, impl.OK)
	journal, after, code := impl.KeepJournal(exampleHouse(), []impl.Act{{Kind: impl.AcMute}, {Kind: impl.AcWait, A: 1}}, 1)
	isJournal(t, "the example", journal, []impl.Entry{actEntry(impl.AcMute, 0, 0), markEntry(0x7018af4b), actEntry(impl.AcWait, 1, 0), markEntry(0xcebc1de3)}, code, impl.OK)
	isHouse(t, "the example", after, h, code, impl.OK)
	if text := impl.JournalText(journal); text != "mute 0\nmark 7018af4b\nwait 1\nmark cebc1de3\n" {
		t.Errorf("got the text %q", text)
	}
}

func TestP14ChecksAreAsTold(t *testing.T) {
	d := dice(631)
	met := map[uint32]bool{}
	for range 500 {
		h := d.house()
		check, code := impl.CheckOf(h)
		isCount(t, "CheckOf", int64(check), int64(modelCheck(h)), code, impl.OK)
		met[check] = true
		h.Tick++
		if other, _ := impl.CheckOf(h); other == check {
			t.Error("another tick has the same check")
		}
	}
	if len(met) < 499 {
		t.Errorf("only %d checks", len(met))
	}
}

// marksBehind tells behind how many acts there are marks.
func marksBehind(journal []impl.Entry) []int {
	var marks []int
	acts := 0
	for _, e := range journal {
		if e.Mark {
			marks = append(marks, acts)
		} else {
			acts++
		}
	}
	return marks
}

func TestP14MarksAreWhereTheyAreTold(t *testing.T) {
	for _, c := range []struct {
		acts  int
		every int64
		marks []int
	}{
		{0, 1, nil}, {0, 100, nil}, {1, 1, []int{1}}, {1, 2, []int{1}}, {1, 100, []int{1}}, {2, 1, []int{1, 2}}, {2, 2, []int{2}}, {2, 3, []int{2}}, {3, 2, []int{2, 3}}, {4, 2, []int{2, 4}}, {5, 2, []int{2, 4, 5}},
		{6, 3, []int{3, 6}}, {7, 3, []int{3, 6, 7}}, {99, 50, []int{50, 99}}, {100, 50, []int{50, 100}}, {100, 99, []int{99, 100}}, {100, 100, []int{100}}, {100, 51, []int{51, 100}}, {99, 100, []int{99}},
	} {
		acts := slices.Repeat([]impl.Act{{Kind: impl.AcWait, A: 1}, {Kind: impl.AcDamper, B: 3}, {Kind: impl.AcMute}}, 34)[:c.acts]
		journal, after, code := impl.KeepJournal(exampleHouse(), acts, c.every)
		name := fmt.Sprint(c.acts, " acts, every ", c.every)
		want, wantAfter := modelKeep(exampleHouse(), acts, int(c.every))
		isJournal(t, name, journal, want, code, impl.OK)
		isHouse(t, name, after, wantAfter, code, impl.OK)
		if got := marksBehind(journal); !slices.Equal(got, c.marks) {
			t.Errorf("%s: got marks behind %v, want %v", name, got, c.marks)
		}
	}
}

func TestP14JournalsAtTheirLimit(t *testing.T) {
	for _, c := range []struct {
		acts  int
		every int64
		code  int64
	}{
		{75, 1, impl.OK}, {76, 1, impl.ErrLimit}, {100, 1, impl.ErrLimit}, {100, 2, impl.OK}, {99, 2, impl.OK}, {74, 1, impl.OK}, {100, 3, impl.OK}, {101, 100, impl.ErrRange}, {101, 1, impl.ErrRange}, {76, 2, impl.OK}, {77, 101, impl.ErrRange}, {76, 0, impl.ErrRange},
	} {
		acts := slices.Repeat([]impl.Act{{Kind: impl.AcMute}}, c.acts)
		journal, after, code := impl.KeepJournal(exampleHouse(), acts, c.every)
		name := fmt.Sprint(c.acts, " acts, every ", c.every)
		if c.code != impl.OK {
			isJournal(t, name, journal, nil, code, c.code)
			isHouse(t, name, after, impl.House{}, code, c.code)
			continue
		}
		want, _ := modelKeep(exampleHouse(), acts, int(c.every))
		isJournal(t, name, journal, want, code, impl.OK)
		again, done, code := impl.ReplayJournal(exampleHouse(), journal)
		isHouseAt(t, name, again, after, done, int64(len(journal)), code, impl.OK)
	}
}

func TestP14JournalsOfActsThatCannotBeDone(t *testing.T) {
	h := coldHouse()
	for i := range 6 {
		for _, c := range []struct {
			act  impl.Act
			code int64
		}{
			{impl.Act{Kind: impl.AcMute, A: 2}, impl.ErrRange}, {impl.Act{Kind: impl.AcKindle}, impl.ErrNotFound}, {impl.Act{Kind: impl.AcWait, A: 201}, impl.ErrRange}, {impl.Act{Kind: impl.AcMute, B: 1}, impl.ErrInvalid}, {impl.Act{}, impl.ErrInvalid},
		} {
			acts := slices.Repeat([]impl.Act{{Kind: impl.AcWait, A: 1}}, 6)
			acts[i] = c.act
			for every := int64(1); every < 8; every++ {
				journal, after, code := impl.KeepJournal(h, acts, every)
				isJournal(t, fmt.Sprint(c.act), journal, nil, code, c.code)
				isHouse(t, fmt.Sprint(c.act), after, impl.House{}, code, c.code)
			}
		}
	}
}

func TestP14JournalsAreKeptAndReplayed(t *testing.T) {
	d := dice(632)
	entries := 0
	for range 250 {
		h := d.house()
		h.Sums.Smoky /= 2
		acts, want := d.doableActs(h, d.roll(12))
		every := 1 + d.roll(5)
		journal, after, code := impl.KeepJournal(h, acts, int64(every))
		wantJournal, _ := modelKeep(h, acts, every)
		isJournal(t, "kept", journal, wantJournal, code, impl.OK)
		isHouse(t, "kept", after, want, code, impl.OK)
		again, done, code := impl.ReplayJournal(h, journal)
		isHouseAt(t, "replayed", again, after, done, int64(len(journal)), code, impl.OK)
		done2, count, code := impl.DoActs(h, acts)
		isHouseAt(t, "done", done2, after, count, int64(len(acts)), code, impl.OK)
		read, code := impl.ReadJournal(impl.JournalText(journal))
		isJournal(t, "read", read, journal, code, impl.OK)
		mark, code := impl.LastMark(journal)
		if len(acts) > 0 {
			isCount(t, "the last mark", mark, int64(len(journal)-1), code, impl.OK)
		} else {
			isCount(t, "no mark", mark, 0, code, impl.ErrNotFound)
		}
		// A journal is replayed in parts as well, and from the text of a house.
		half := d.roll(len(journal) + 1)
		first, _, code := impl.ReplayJournal(h, journal[:half])
		isCode(t, "the first part", code, impl.OK)
		second, done, code := impl.ReplayJournal(first, journal[half:])
		isHouseAt(t, "in parts", second, after, done, int64(len(journal)-half), code, impl.OK)
		entries += len(journal)
	}
	if entries < 1000 {
		t.Errorf("only %d entries", entries)
	}
}

func TestP14JournalsAreReplayedFromTexts(t *testing.T) {
	d := dice(633)
	for range 100 {
		h := d.house()
		acts, _ := d.doableActs(h, 6)
		journal, after, code := impl.KeepJournal(h, acts, 2)
		isCode(t, "kept", code, impl.OK)
		read, code := impl.ReadHouse(impl.HouseText(h))
		isCode(t, "read", code, impl.OK)
		lines, _ := impl.ReadJournal(impl.JournalText(journal))
		again, done, code := impl.ReplayJournal(read, lines)
		isHouseAt(t, "replayed", again, withEndedSources(after), done, int64(len(journal)), code, impl.OK)
	}
}

// isReplayedTo checks that a journal goes wrong at an entry.
func isReplayedTo(t *testing.T, name string, h impl.House, journal []impl.Entry, at, want int64) {
	t.Helper()
	got, done, code := impl.ReplayJournal(h, journal)
	isHouseAt(t, name, got, impl.House{}, done, at, code, want)
}

func TestP14OtherMarksAreTold(t *testing.T) {
	d := dice(634)
	for range 60 {
		h := d.house()
		acts, _ := d.doableActs(h, 1+d.roll(8))
		journal, _, _ := impl.KeepJournal(h, acts, 2)
		for i, e := range journal {
			if !e.Mark {
				continue
			}
			for _, other := range []uint32{e.Check + 1, e.Check - 1, e.Check ^ 1<<31, ^e.Check, uint32(d.roll(1 << 30))} {
				changed := slices.Clone(journal)
				changed[i].Check = other
				isReplayedTo(t, "another mark", h, changed, int64(i), impl.ErrProof)
			}
		}
	}
	journal, _, _ := impl.KeepJournal(fullHouse(), []impl.Act{{Kind: impl.AcWait, A: 3}, {Kind: impl.AcMute, A: 1}}, 1)
	for _, c := range goodHouses() {
		if sameHouses(c.house, fullHouse()) || len(c.house.Hearths) < 2 {
			continue
		}
		if _, code := modelTicks(c.house, 3); code == impl.OK {
			isReplayedTo(t, c.name, c.house, journal, 1, impl.ErrProof)
		}
	}
	// Sources that differ by a newline at the end are told by no mark.
	again, done, code := impl.ReplayJournal(withEndedSources(fullHouse()), journal)
	want, _ := modelTicks(withEndedSources(fullHouse()), 3)
	isHouseAt(t, "a newline more", again, want, done, 4, code, impl.OK)
}

func TestP14MarksAheadOfActs(t *testing.T) {
	h := exampleHouse()
	check, _ := impl.CheckOf(h)
	got, done, code := impl.ReplayJournal(h, []impl.Entry{markEntry(check), markEntry(check), actEntry(impl.AcMute, 0, 0), markEntry(check)})
	isHouseAt(t, "marks ahead", got, h, done, 4, code, impl.OK)
	isReplayedTo(t, "another mark ahead", h, []impl.Entry{markEntry(check + 1), actEntry(impl.AcMute, 0, 0)}, 0, impl.ErrProof)
	got, done, code = impl.ReplayJournal(h, slices.Repeat([]impl.Entry{markEntry(check)}, 150))
	isHouseAt(t, "only marks", got, h, done, 150, code, impl.OK)
	isReplayedTo(t, "a mark too many", h, slices.Repeat([]impl.Entry{markEntry(check)}, 151), 0, impl.ErrRange)
	got, done, code = impl.ReplayJournal(h, nil)
	isHouseAt(t, "nothing", got, h, done, 0, code, impl.OK)
	got, done, code = impl.ReplayJournal(h, []impl.Entry{actEntry(impl.AcWait, 1, 0), actEntry(impl.AcWait, 1, 0)})
	want, _ := modelTicks(h, 2)
	isHouseAt(t, "only acts", got, want, done, 2, code, impl.OK)
}

// noEntries are none of both.
func noEntries() []impl.Entry {
	entries := []impl.Entry{
		{}, {Check: 1}, {Check: 1, Act: impl.Act{Kind: impl.AcMute}}, {Check: math.MaxUint32, Act: impl.Act{Kind: impl.AcWait}},
		{Mark: true, Check: 0x7018af4b, Act: impl.Act{Kind: 1}}, {Mark: true, Check: 0x7018af4b, Act: impl.Act{A: 1}}, {Mark: true, Check: 0x7018af4b, Act: impl.Act{B: -1}}, {Mark: true, Act: impl.Act{Kind: impl.AcMute}},
	}
	for _, bad := range badActs() {
		entries = append(entries, impl.Entry{Act: bad})
		if bad != (impl.Act{}) {
			entries = append(entries, impl.Entry{Mark: true, Act: bad})
		}
	}
	return entries
}

func TestP14EntriesThatAreNone(t *testing.T) {
	h := exampleHouse()
	check, _ := impl.CheckOf(h)
	for _, bad := range noEntries() {
		for i := range 4 {
			journal := []impl.Entry{actEntry(impl.AcMute, 0, 0), markEntry(check), actEntry(impl.AcWait, 0, 0), markEntry(check)}
			journal[i] = bad
			isReplayedTo(t, fmt.Sprint(bad), h, journal, int64(i), impl.ErrInvalid)
			if text := impl.JournalText(journal); text != "" {
				t.Errorf("%v: got the text %q", bad, text)
			}
		}
	}
}

// Of several entries that have an error the first one is told, whatever its error.
func TestP14TheFirstErrorIsTold(t *testing.T) {
	h := exampleHouse()
	check, _ := impl.CheckOf(h)
	wrong := map[int64]impl.Entry{
		impl.ErrInvalid: {}, impl.ErrProof: markEntry(check + 1), impl.ErrRange: actEntry(impl.AcMute, 1, 0), impl.ErrNotFound: actEntry(impl.AcKindle, 0, 0),
	}
	for code, first := range wrong {
		for _, second := range wrong {
			isReplayedTo(t, fmt.Sprint(first, second), h, []impl.Entry{markEntry(check), first, second}, 1, code)
			isReplayedTo(t, fmt.Sprint(first, second), h, []impl.Entry{first, markEntry(check), second}, 0, code)
		}
	}
	isReplayedTo(t, "a state", tickedTo(h, 1000000000), []impl.Entry{actEntry(impl.AcMute, 0, 0), actEntry(impl.AcWait, 0, 0), actEntry(impl.AcWait, 1, 0)}, 2, impl.ErrState)
	loads := slices.Repeat([]impl.Entry{actEntry(impl.AcLoad, 0, 5)}, 150)
	isReplayedTo(t, "a limit", h, loads, 6, impl.ErrLimit)
}

func TestP14LastMark(t *testing.T) {
	act, mark := actEntry(impl.AcMute, 0, 0), markEntry(0)
	for _, c := range []struct {
		journal  []impl.Entry
		at, code int64
	}{
		{nil, 0, impl.ErrNotFound}, {[]impl.Entry{}, 0, impl.ErrNotFound}, {[]impl.Entry{act}, 0, impl.ErrNotFound}, {[]impl.Entry{mark}, 0, impl.OK}, {[]impl.Entry{act, mark}, 1, impl.OK}, {[]impl.Entry{mark, act}, 0, impl.OK},
		{[]impl.Entry{mark, act, mark, act, act}, 2, impl.OK}, {slices.Repeat([]impl.Entry{mark}, 150), 149, impl.OK}, {slices.Repeat([]impl.Entry{mark}, 151), 0, impl.ErrRange}, {slices.Repeat([]impl.Entry{act}, 150), 0, impl.ErrNotFound},
		{slices.Repeat([]impl.Entry{act}, 151), 0, impl.ErrRange}, {slices.Repeat([]impl.Entry{mark, act}, 100000), 0, impl.ErrRange}, {append([]impl.Entry{mark}, slices.Repeat([]impl.Entry{act}, 149)...), 0, impl.OK},
	} {
		at, code := impl.LastMark(c.journal)
		isCount(t, fmt.Sprint(len(c.journal), " entries"), at, c.at, code, c.code)
	}
}

// entry is valid.
func (d *dice) entry() impl.Entry {
	if d.roll(3) == 0 {
		return markEntry(uint32(d.roll(1<<16))<<16 | uint32(d.roll(1<<16)))
	}
	return impl.Entry{Act: d.anyAct()}
}

func TestP14TextsOfJournals(t *testing.T) {
	isJournalText := func(text string, journal []impl.Entry) {
		t.Helper()
		if got := impl.JournalText(journal); got != text {
			t.Errorf("%v: got the text %q, want %q", journal, got, text)
		}
		got, code := impl.ReadJournal(text)
		isJournal(t, fmt.Sprintf("%q", text), got, journal, code, impl.OK)
	}
	isJournalText("", nil)
	isJournalText("mark 00000000\n", []impl.Entry{markEntry(0)})
	isJournalText("mark ffffffff\nmark 0a0b0c0d\nmark 7fc00001\n", []impl.Entry{markEntry(math.MaxUint32), markEntry(0x0a0b0c0d), markEntry(0x7fc00001)})
	isJournalText("load 0 8\nmark 00000001\nwait 200\n", []impl.Entry{actEntry(1, 0, 8), markEntry(1), actEntry(9, 200, 0)})
	isJournalText("kindle 0\nrake 1\nclean 2\npane 3 4\nbrain 5 6\nmute 7\ndamper 8 9\n", []impl.Entry{actEntry(2, 0, 0), actEntry(3, 1, 0), actEntry(4, 2, 0), actEntry(5, 3, 4), actEntry(6, 5, 6), actEntry(7, 7, 0), actEntry(8, 8, 9)})
	d := dice(635)
	for range 500 {
		var journal []impl.Entry
		for range d.roll(12) * d.roll(14) {
			journal = append(journal, d.entry())
		}
		isJournalText(modelJournalText(journal), journal)
	}
}

func TestP14TextsOfJournalsAtTheirLimit(t *testing.T) {
	line := "mark 0000000f\n"
	for _, count := range []int{149, 150, 151, 300} {
		text := strings.Repeat(line, count)
		want, wantCode, wantText := slices.Repeat([]impl.Entry{markEntry(15)}, count), int64(impl.OK), text
		if count > 150 {
			wantCode, wantText = impl.ErrRange, ""
		}
		if got := impl.JournalText(want); got != wantText {
			t.Errorf("%d entries: got the text %q", count, got)
		}
		if count > 150 {
			want = nil
		}
		got, code := impl.ReadJournal(text)
		isJournal(t, fmt.Sprint(count, " lines"), got, want, code, wantCode)
	}
	for text, want := range map[string]int64{
		strings.Repeat(line, 150) + "\n":                          impl.ErrRange,
		strings.Repeat(line, 150) + "mark":                        impl.ErrRange,
		strings.Repeat(line, 149) + "mark 0000000f":               impl.ErrSyntax,
		strings.Repeat("\n", 150):                                 impl.ErrSyntax,
		strings.Repeat("\n", 151):                                 impl.ErrRange,
		strings.Repeat("x\n", 151):                                impl.ErrRange,
		strings.Repeat(line, 149) + "x\n":                         impl.ErrSyntax,
		"x\n" + strings.Repeat(line, 150):                         impl.ErrRange,
		strings.Repeat("wait 1\n", 75) + strings.Repeat(line, 76): impl.ErrRange,
	} {
		got, code := impl.ReadJournal(text)
		isJournal(t, fmt.Sprintf("%q", text), got, nil, code, want)
	}
}

func TestP14TextsThatAreNoJournals(t *testing.T) {
	texts := []string{
		"\n", "\n\n", "mark 00000001", "mute 0", "mute 0\n\n", "\nmute 0\n", "mute 0\n\nmute 0\n", "mute 0\nmark 00000001", "mute 0\r\n", "mark 0000001\n", "mark 000000001\n", "mark 0000000A\n", "mark 0000000g\n", "mark \n", "mark\n", "mark  00000001\n",
		" mark 00000001\n", "mark 00000001 \n", "mark 00000001 0\n", "Mark 00000001\n", "mark 0x000001\n", "mark +0000001\n", "mark -0000001\n", "mark 1\n", "mark 100000000\n", "mark ffffffff0\n", "mark00000001\n", "marks 00000001\n", "00000001\n", "mark 0000_001\n",
		"mark 00000001\nmark 00000001", "mute 0 mark 00000001\n", "mark ffffffffffffffffffff\n",
	}
	for _, text := range textsOfNoActs() {
		if !strings.HasPrefix(text, "mark") {
			texts = append(texts, text+"\n", "mark 00000001\n"+text+"\nmute 0\n")
		}
	}
	for _, text := range texts {
		got, code := impl.ReadJournal(text)
		isJournal(t, fmt.Sprintf("%q", text), got, nil, code, impl.ErrSyntax)
	}
}

func TestP14SpoiledTextsOfJournals(t *testing.T) {
	d := dice(636)
	good := 0
	for range 6000 {
		text := d.spoiled(modelJournalText([]impl.Entry{d.entry(), d.entry(), d.entry()}))
		got, code := impl.ReadJournal(text)
		if code == impl.OK {
			good++
			if modelJournalText(got) != text || impl.JournalText(got) != text {
				t.Errorf("%q: got %v", text, got)
			}
			continue
		}
		isJournal(t, fmt.Sprintf("%q", text), got, nil, code, impl.ErrSyntax)
	}
	if good < 100 || good > 4000 {
		t.Errorf("%d good texts", good)
	}
}

// A journal is the same in each of many runs, whatever the goroutines do.
func TestP14JournalsAreTheSameAgain(t *testing.T) {
	acts := slices.Repeat([]impl.Act{{Kind: impl.AcWait, A: 1}, {Kind: impl.AcPane, A: 2, B: 7}, {Kind: impl.AcDamper, A: 1, B: 9}}, 4)
	want, wantAfter := modelKeep(fullHouse(), acts, 5)
	for range 200 {
		journal, after, code := impl.KeepJournal(fullHouse(), acts, 5)
		isJournal(t, "again", journal, want, code, impl.OK)
		isHouse(t, "again", after, wantAfter, code, impl.OK)
	}
}
