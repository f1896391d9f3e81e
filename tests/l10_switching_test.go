package tests

import (
	"fmt"
	"iter"
	"math/rand"
	"slices"
	"strings"
	"testing"
	"unsafe"

	"loop.example/g00879/impl"
)

// The oracles below do not use what they check. Lengths come from the table that the tests of
// chapter 9 type anew. There are two ways to the best segmentation: the short messages are searched,
// and of all segmentations those are kept that the document keeps, rule by rule; for the long ones
// whole segmentations are compared.

// division is a segmentation and its length.
type division struct {
	list []impl.Segment
	bits int64
}

// searchSets have bytes with values in one, two and three modes (TestModesOfBytes), among which all
// messages of up to so many bytes are searched.
var searchSets = []struct {
	bytes   string
	longest int
}{
	{"1 Aa*", 6}, {"1a", 9}, {"1A", 9}, {"A a", 8}, {"1*", 9}, {"Z\n/", 7}, {"\x800 ", 7}, {"\xc3\xa9a", 7},
}

// bits is the length of a segment of so many bytes.
func (r modeRow) bits(count int) int64 {
	full := len(r.widths)
	bits := 3 + 8 + count/full*r.widths[full-1]
	if left := count % full; left > 0 {
		bits += r.widths[left-1]
	}
	return int64(bits)
}

// starts are the segments with which a message can begin.
func starts(message string) iter.Seq2[impl.Segment, int64] {
	return func(yield func(impl.Segment, int64) bool) {
		for _, r := range modeTable {
			for size := 1; size <= min(255, len(message)) && r.valueOf(message[size-1]) >= 0; size++ {
				if !yield(r.segment(message[:size]), r.bits(size)) {
					return
				}
			}
		}
	}
}

// eachDivision visits all segmentations; a list that is to be kept has to be cloned.
func eachDivision(message string, before division, visit func(division)) {
	if message == "" {
		visit(before)
		return
	}
	for x, bits := range starts(message) {
		eachDivision(message[len(x.Text):], division{append(before.list, x), before.bits + bits}, visit)
	}
}

func shortest(message string) [][]impl.Segment {
	var lists [][]impl.Segment
	least := int64(-1)
	eachDivision(message, division{}, func(d division) {
		if least == -1 || d.bits < least {
			least, lists = d.bits, nil
		}
		if d.bits == least {
			lists = append(lists, slices.Clone(d.list))
		}
	})
	return lists
}

// kept are the lists for which a rule yields the least number. Where these are not all, it counts.
func kept(lists [][]impl.Segment, count *int, rule func(list []impl.Segment) int) [][]impl.Segment {
	least := rule(slices.MinFunc(lists, func(a, b []impl.Segment) int { return rule(a) - rule(b) }))
	out := slices.DeleteFunc(slices.Clone(lists), func(list []impl.Segment) bool { return rule(list) != least })
	if len(out) < len(lists) {
		*count++
	}
	return out
}

// rulesUsed counts the messages for which a rule leaves fewer segmentations than there were before it.
type rulesUsed struct{ fewest, longestFirst, longestLater, mode int }

func searchedBest(message string, used *rulesUsed) []impl.Segment {
	lists := kept(shortest(message), &used.fewest, func(list []impl.Segment) int { return len(list) })
	longest := &used.longestFirst
	for at := 0; len(lists) > 1; at++ {
		lists = kept(lists, longest, func(list []impl.Segment) int { return -len(list[at].Text) })
		lists = kept(lists, &used.mode, func(list []impl.Segment) int { return int(list[at].Mode) })
		longest = &used.longestLater
	}
	return lists[0]
}

func (d division) isBefore(e division) bool {
	if d.bits != e.bits {
		return d.bits < e.bits
	}
	if len(d.list) != len(e.list) {
		return len(d.list) < len(e.list)
	}
	for i, x := range d.list {
		if y := e.list[i]; len(x.Text) != len(y.Text) {
			return len(x.Text) > len(y.Text)
		} else if x.Mode != y.Mode {
			return x.Mode < y.Mode
		}
	}
	return false
}

// oracleBest goes through the rests of a message from the last one on.
func oracleBest(message string) []impl.Segment {
	best := make([]division, len(message)+1)
	for at := range slices.Backward([]byte(message)) {
		for x, bits := range starts(message[at:]) {
			rest := best[at+len(x.Text)]
			bits += rest.bits
			if best[at].list != nil && (bits > best[at].bits || bits == best[at].bits && len(rest.list) >= len(best[at].list)) {
				continue
			}
			next := division{slices.Concat([]impl.Segment{x}, rest.list), bits}
			if best[at].list == nil || next.isBefore(best[at]) {
				best[at] = next
			}
		}
	}
	return best[0].list
}

// segmentsText shows segments in messages of failing tests.
func segmentsText(list []impl.Segment) string {
	var out []string
	for _, x := range list {
		out = append(out, fmt.Sprintf("%d %q", x.Mode, x.Text))
	}
	return strings.Join(out, ", ")
}

func lengthOf(list []impl.Segment) int64 {
	sum := int64(0)
	for _, x := range list {
		sum += modeTable[x.Mode-1].bits(len(x.Text))
	}
	return sum
}

func joinedTexts(list []impl.Segment) string {
	out := ""
	for _, x := range list {
		out += x.Text
	}
	return out
}

func writtenSegments(list []impl.Segment) string {
	out := ""
	for _, x := range list {
		out += modeTable[x.Mode-1].written(x.Text)
	}
	return out
}

// boundSegments is the segmentation that the section of LengthBound describes.
func boundSegments(message string) []impl.Segment {
	var list []impl.Segment
	for at := 0; at < len(message); at += 255 {
		list = append(list, impl.Segment{Mode: oracleNarrowest(message), Text: message[at:min(at+255, len(message))]})
	}
	return list
}

func hasBest(t *testing.T, message string, want []impl.Segment) {
	t.Helper()
	if list, code := impl.BestSegments(message); code != impl.ErrNone || !slices.Equal(list, want) {
		t.Fatalf("BestSegments %q yields %s and %d, and not %s", message, segmentsText(list), code, segmentsText(want))
	}
	if length, code := impl.BestLength(message); code != impl.ErrNone || length != lengthOf(want) {
		t.Fatalf("BestLength %q yields %d and %d, and not %d", message, length, code, lengthOf(want))
	}
}

// joins checks everything that is to be said of the segmentation of a message.
func joins(t *testing.T, list []impl.Segment, message string) {
	t.Helper()
	if text, code := impl.JoinSegments(list); code != impl.ErrNone || text != message {
		t.Fatalf("JoinSegments %s yields %q and %d, and not %q", segmentsText(list), text, code, message)
	}
	if length, code := impl.SegmentsLength(list); code != impl.ErrNone || length != lengthOf(list) {
		t.Fatalf("SegmentsLength %s yields %d and %d, and not %d", segmentsText(list), length, code, lengthOf(list))
	}
	isSegmentation(t, message, list, true)
}

func joinsNot(t *testing.T, list []impl.Segment, want int64) {
	t.Helper()
	if text, code := impl.JoinSegments(list); code != want || text != "" {
		t.Fatalf("JoinSegments of %d segments yields %.40q and %d instead of the error %d", len(list), text, code, want)
	}
}

func hasNoLength(t *testing.T, list []impl.Segment, want int64) {
	t.Helper()
	if length, code := impl.SegmentsLength(list); code != want || length != 0 {
		t.Fatalf("SegmentsLength of %d segments yields %d and %d instead of the error %d", len(list), length, code, want)
	}
	joinsNot(t, list, want)
}

func isSegmentation(t *testing.T, message string, list []impl.Segment, want bool) {
	t.Helper()
	if impl.IsSegmentation(message, list) != want {
		t.Fatalf("IsSegmentation %.500q %.500s yields %v", message, segmentsText(list), !want)
	}
}

func hasBound(t *testing.T, message string) {
	t.Helper()
	want := int64(0)
	for _, x := range boundSegments(message) {
		want += impl.SegmentLength(x)
	}
	bound, code := impl.LengthBound(message)
	if code != impl.ErrNone || bound != want || bound != lengthOf(boundSegments(message)) {
		t.Fatalf("LengthBound %q yields %d and %d, and not %d", message, bound, code, want)
	}
	if length, _ := impl.BestLength(message); length > bound {
		t.Fatalf("BestLength %q is %d, which is more than the bound %d", message, length, bound)
	}
}

func checkBest(t *testing.T, message string) []impl.Segment {
	t.Helper()
	best := oracleBest(message)
	hasBest(t, message, best)
	joins(t, best, message)
	hasBound(t, message)
	return best
}

func writesMessage(t *testing.T, before []int64, message string, want string) []int64 {
	t.Helper()
	list, code := impl.WriteMessage(before, message)
	if code != impl.ErrNone || len(list) != len(before)+len(want) || !slices.Equal(list[:len(before)], before) || oracleText(list[len(before):]) != want {
		t.Fatalf("WriteMessage %v %q yields %v and %d, and not %s behind the list", before, message, list, code, want)
	}
	return list
}

func writesNoMessage(t *testing.T, list []int64, message string, want int64) {
	t.Helper()
	if out, code := impl.WriteMessage(list, message); code != want || len(out) != 0 {
		t.Fatalf("WriteMessage %d bits and %d bytes yields %d bits and %d instead of the error %d", len(list), len(message), len(out), code, want)
	}
}

// isTooLong checks what all functions say of a message with too many bytes.
func isTooLong(t *testing.T, message string) {
	t.Helper()
	if list, code := impl.BestSegments(message); code != impl.ErrLimit || len(list) != 0 {
		t.Fatalf("BestSegments of %d bytes yields %d segments and %d", len(message), len(list), code)
	}
	if length, code := impl.BestLength(message); code != impl.ErrLimit || length != 0 {
		t.Fatalf("BestLength of %d bytes yields %d and %d", len(message), length, code)
	}
	if bound, code := impl.LengthBound(message); code != impl.ErrLimit || bound != 0 {
		t.Fatalf("LengthBound of %d bytes yields %d and %d", len(message), bound, code)
	}
	for _, list := range [][]int64{nil, {}, {1, 0}, make([]int64, impl.MaxBits)} {
		writesNoMessage(t, list, message, impl.ErrLimit)
	}
	for _, list := range [][]impl.Segment{nil, {}, boundSegments(message), {{Mode: impl.ModeBytes, Text: message}}, boundSegments(message[:400])} {
		isSegmentation(t, message, list, false)
	}
}

// someRuns is a message of so many bytes in runs, each of characters of one mode or of one byte.
func someRuns(source *rand.Rand, length int, longestRun int) string {
	out := ""
	for len(out) < length {
		r := modeTable[source.Intn(4)]
		run := r.someText(source, 1+source.Intn(longestRun))
		if source.Intn(3) == 0 {
			run = strings.Repeat([]string{"0", "A", "a", " ", "*", "\xff", "\n"}[source.Intn(7)], len(run))
		}
		out += run
	}
	return out[:length]
}

// someDivision is any segmentation of a message; its segments have at most so many bytes.
func someDivision(source *rand.Rand, message string, longest int) []impl.Segment {
	var list []impl.Segment
	for message != "" {
		var all []impl.Segment
		for x := range starts(message[:min(len(message), longest)]) {
			all = append(all, x)
		}
		x := all[source.Intn(len(all))]
		list = append(list, x)
		message = message[len(x.Text):]
	}
	return list
}

func someSegments(source *rand.Rand, count int, longest int) []impl.Segment {
	list := make([]impl.Segment, count)
	for i := range list {
		r := modeTable[source.Intn(4)]
		list[i] = r.segment(r.someText(source, 1+source.Intn(longest)))
	}
	return list
}

func withSegment(list []impl.Segment, at int, x impl.Segment) []impl.Segment {
	out := slices.Clone(list)
	out[at] = x
	return out
}

// longMessages have lengths around the limits, in one mode, in several in turn, in short and in long
// runs, and with bytes from 128 on.
func longMessages(source *rand.Rand) []string {
	var out []string
	for _, length := range []int{1, 2, 253, 254, 255, 256, 257, 258, 300, 398, 399, 400} {
		for _, r := range modeTable {
			out = append(out, strings.Repeat(r.characters[1:2], length), r.someText(source, length))
		}
		for _, run := range []int{2, 8, 40, 300} {
			out = append(out, someRuns(source, length, run), someRuns(source, length, run))
		}
		out = append(out, strings.Repeat(" ", length), strings.Repeat("1Aa*", 100)[:length], strings.Repeat("11AAAaaa****  ", 30)[:length])
	}
	for i, odd := range oddTexts {
		mixed := strings.Repeat(odd+"12345678"+odd+"abcdef AB", 20)
		out = append(out, mixed[i:i+256-i], mixed[:min(400, len(mixed))], strings.Repeat(odd, 200)[:200])
	}
	return out
}

func TestMaxMessage(t *testing.T) {
	if impl.MaxMessage != 400 {
		t.Error("MaxMessage is", impl.MaxMessage)
	}
}

// No byte has a value in four modes, as no digit has one in ModeLower. No text has the same length in
// two modes, so that the rule of the smallest mode never has a choice to make.
func TestModesOfBytes(t *testing.T) {
	bytes := ""
	for _, set := range searchSets {
		bytes += set.bytes
	}
	searched := map[int]bool{}
	for b := range 256 {
		modes := 0
		for _, r := range modeTable {
			if impl.CharacterValue(r.mode, int64(b)) >= 0 {
				modes++
			}
		}
		if modes < 1 || modes > 3 {
			t.Error("the byte", b, "has values in", modes, "modes")
		}
		if strings.IndexByte(bytes, byte(b)) >= 0 {
			searched[modes] = true
		}
	}
	if len(searched) != 3 {
		t.Error("the numbers of modes of the bytes that are searched are", searched)
	}
	for count := 1; count <= impl.MaxSegmentText; count++ {
		digits, letters, lower, bytes := modeTable[0].bits(count), modeTable[1].bits(count), modeTable[2].bits(count), modeTable[3].bits(count)
		if digits >= letters || lower >= letters || letters >= bytes {
			t.Error(count, "bytes have the lengths", digits, letters, lower, bytes)
		}
	}
}

func TestSegmentationExamples(t *testing.T) {
	hasBest(t, "123456abcdefgh", []impl.Segment{{Mode: impl.ModeDigits, Text: "123456"}, {Mode: impl.ModeLower, Text: "abcdefgh"}})
	hasBest(t, "a1b", []impl.Segment{{Mode: impl.ModeBytes, Text: "a1b"}})
}

// Segmentations and their lengths, found by hand.
func TestBestSegmentsByHand(t *testing.T) {
	digits := func(text string) impl.Segment { return impl.Segment{Mode: impl.ModeDigits, Text: text} }
	letters := func(text string) impl.Segment { return impl.Segment{Mode: impl.ModeLetters, Text: text} }
	lower := func(text string) impl.Segment { return impl.Segment{Mode: impl.ModeLower, Text: text} }
	bytes := func(text string) impl.Segment { return impl.Segment{Mode: impl.ModeBytes, Text: text} }
	many := func(text string, count int) string { return strings.Repeat(text, count) }
	for _, x := range []struct {
		length int64
		want   []impl.Segment
	}{
		{0, nil},
		{11 + 4, []impl.Segment{digits("1")}}, {11 + 6, []impl.Segment{letters("A")}}, {11 + 5, []impl.Segment{lower("a")}}, {11 + 8, []impl.Segment{bytes("*")}},
		// A space and a newline are small letters, and ! is a letter.
		{11 + 5, []impl.Segment{lower(" ")}}, {11 + 5, []impl.Segment{lower("\n")}}, {11 + 6, []impl.Segment{letters("!")}}, {11 + 8, []impl.Segment{bytes("\x80")}}, {11 + 16, []impl.Segment{bytes("é")}},
		{31 + 51, []impl.Segment{digits("123456"), lower("abcdefgh")}},
		{35, []impl.Segment{bytes("a1b")}},
		// It pays to change the mode: 34 and not 35. It does not pay: 35 and not 36.
		{18 + 16, []impl.Segment{digits("11"), lower("a")}}, {35, []impl.Segment{bytes("1aa")}}, {27, []impl.Segment{bytes("1a")}},
		// 50 bits in both ways: there are fewer segments in one of them.
		{50, []impl.Segment{letters("AB12345")}}, {22 + 31, []impl.Segment{letters("AB"), digits("123456")}},
		{28 + 22, []impl.Segment{letters("12345AB")}}, {31 + 22, []impl.Segment{digits("123456"), letters("AB")}},
		// 59 bits wherever the space is: it belongs to the first segment.
		{33 + 26, []impl.Segment{letters("AAA "), lower("aaa")}}, {31 + 28, []impl.Segment{lower("aaa "), letters("AAA")}},
		// An even number of letters is better.
		{33 + 31, []impl.Segment{letters("AAAA"), lower(" aaa")}}, {31 + 33, []impl.Segment{lower("aaa "), letters("AAAA")}},
		{861 + 15, []impl.Segment{digits(many("1", 255)), digits("1")}}, {861 + 11 + 48*10 + 4, []impl.Segment{digits(many("1", 255)), digits(many("1", 145))}},
		{1408 + 22, []impl.Segment{letters(many("A", 254)), letters("AA")}}, {1408 + 11 + 73*11, []impl.Segment{letters(many("A", 254)), letters(many("A", 146))}},
		{1286 + 16, []impl.Segment{lower(many("a", 255)), lower("a")}}, {1286 + 11 + 145*5, []impl.Segment{lower(many("a", 255)), lower(many("a", 145))}},
		{2051 + 19, []impl.Segment{bytes(many("*", 255)), bytes("*")}}, {2051 + 11 + 145*8, []impl.Segment{bytes(many("\xff", 255)), bytes(many("\xff", 145))}},
	} {
		message := joinedTexts(x.want)
		hasBest(t, message, x.want)
		if length, _ := impl.BestLength(message); length != x.length {
			t.Errorf("BestLength %q is %d and not %d", message, length, x.length)
		}
	}
}

// So many bytes of a narrower mode stay in the wider one; with one more it pays to change.
func TestStayInAWiderMode(t *testing.T) {
	for _, x := range []struct {
		before, run, behind string
		stay                int
		segments            int
	}{
		{"AA", "1", "", 5, 2}, {"AAA", "1", "", 5, 2}, {"", "1", "AA", 5, 2}, {"", "1", "AAA", 5, 2},
		{"AA", "1", "AA", 10, 3}, {"**", "1", "", 2, 2}, {"**", "A", "", 4, 2}, {"**", "a", "", 3, 2}, {"", "a", "**", 3, 2},
		{"*", "a", "*", 7, 3}, {"*", "1", "*", 4, 3}, {"*", "A", "*", 9, 3},
	} {
		for count := range x.stay + 8 {
			message := x.before + strings.Repeat(x.run, count) + x.behind
			list, code := impl.BestSegments(message)
			want := 1
			if count > x.stay {
				want = x.segments
			}
			if message == "" {
				want = 0
			}
			if code != impl.ErrNone || len(list) != want {
				t.Errorf("BestSegments %q yields %s and %d, and not %d segments", message, segmentsText(list), code, want)
			}
		}
	}
}

// All messages of few bytes, against a search of all their segmentations.
func TestBestOfAllSegmentations(t *testing.T) {
	for _, set := range searchSets {
		t.Run(fmt.Sprintf("%q", set.bytes), func(t *testing.T) {
			t.Parallel()
			var used rulesUsed
			var each func(message string)
			each = func(message string) {
				want := searchedBest(message, &used)
				hasBest(t, message, want)
				if !slices.Equal(oracleBest(message), want) {
					t.Fatalf("the oracles do not agree on %q", message)
				}
				for i := range len(set.bytes) {
					if len(message) < set.longest {
						each(message + set.bytes[i:i+1])
					}
				}
			}
			each("")
			if used.mode != 0 {
				t.Error("the mode decides", used.mode, "times")
			}
			if set.bytes == "A a" && (used.fewest == 0 || used.longestFirst == 0) {
				t.Error("the rules that have been used are", used)
			}
		})
	}
}

// Longer messages of several runs: the first segment is found by its length, or one behind it.
func TestBestOfSomeLongerMessages(t *testing.T) {
	t.Parallel()
	source := rand.New(rand.NewSource(301))
	var used rulesUsed
	for _, message := range []string{"aaaa AAA aaa", "AAA aaa AAA", "****aaa AAA", "111AAA aaa", "aaa AAA aaa"} {
		hasBest(t, message, searchedBest(message, &used))
	}
	for range 150 {
		message := someRuns(source, 7+source.Intn(4), 5)
		hasBest(t, message, searchedBest(message, &used))
	}
	if used.fewest == 0 || used.longestFirst == 0 || used.longestLater == 0 {
		t.Error("the rules that have been used are", used)
	}
}

// Three runs of different bytes, with every length of a group that is left over in each.
func TestChangesOfMode(t *testing.T) {
	t.Parallel()
	kinds := []string{"1", "A", "a", " ", "*"}
	for _, one := range kinds {
		for _, two := range kinds {
			for _, three := range kinds {
				if one == two || two == three {
					continue
				}
				for size := range 7 * 16 * 7 {
					checkBest(t, strings.Repeat(one, size%7)+strings.Repeat(two, size/7%16)+strings.Repeat(three, size/112))
				}
			}
		}
	}
}

// Longer runs, between which it pays to change the mode, with every length left over.
func TestChangesOfModeInLongRuns(t *testing.T) {
	t.Parallel()
	source := rand.New(rand.NewSource(302))
	for range 1500 {
		message := ""
		for range 2 + source.Intn(5) {
			message += modeTable[source.Intn(3)].someText(source, 6+source.Intn(20)) + strings.Repeat(" ", source.Intn(3))
		}
		checkBest(t, message)
	}
}

func TestBestOfLongMessages(t *testing.T) {
	t.Parallel()
	for _, message := range longMessages(rand.New(rand.NewSource(303))) {
		checkBest(t, message)
	}
}

func TestBestOfEveryLength(t *testing.T) {
	t.Parallel()
	source := rand.New(rand.NewSource(304))
	for length := range impl.MaxMessage + 1 {
		checkBest(t, someRuns(source, length, 30))
		checkBest(t, modeTable[length%4].someText(source, length))
	}
}

// No two best parts are shorter together. They are as short where a segment of the best segmentation
// ends.
func TestBestOfTwoParts(t *testing.T) {
	t.Parallel()
	source := rand.New(rand.NewSource(305))
	messages := []string{strings.Repeat("1", 400), strings.Repeat("A", 400), strings.Repeat("a", 257), strings.Repeat("\x80", 400)}
	for _, run := range []int{3, 10, 10, 25, 60, 300} {
		messages = append(messages, someRuns(source, 400, run), someRuns(source, 260, run))
	}
	for _, message := range messages {
		best := oracleBest(message)
		end, ends := 0, map[int]bool{0: true}
		for _, x := range best {
			end += len(x.Text)
			ends[end] = true
		}
		whole, _ := impl.BestLength(message)
		for at := range len(message) + 1 {
			one, first := impl.BestLength(message[:at])
			two, second := impl.BestLength(message[at:])
			if first != impl.ErrNone || second != impl.ErrNone || one+two < whole || ends[at] && one+two != whole {
				t.Fatalf("BestLength %q is %d, but %d and %d with a part of %d bytes", message, whole, one, two, at)
			}
		}
	}
}

func TestNoOtherSegmentationIsShorter(t *testing.T) {
	t.Parallel()
	source := rand.New(rand.NewSource(306))
	for _, message := range longMessages(source) {
		best, _ := impl.BestLength(message)
		for range 10 {
			list := someDivision(source, message, 1+source.Intn(255))
			joins(t, list, message)
			if length, _ := impl.SegmentsLength(list); length < best {
				t.Fatalf("SegmentsLength %s is %d, but BestLength %d", segmentsText(list), length, best)
			}
		}
	}
}

// Messages of too many bytes, also such that are short when they lose their upper bits.
func TestMessagesThatAreTooLong(t *testing.T) {
	t.Parallel()
	source := rand.New(rand.NewSource(307))
	for _, r := range modeTable {
		for _, length := range []int{401, 402, 510, 511, 512, 513, 1000, 1 << 16, 1<<16 + 1, 1<<16 + 400} {
			returns(t, "a function of chapter 10", func() { isTooLong(t, r.someText(source, length)) })
		}
	}
	for _, message := range []string{someRuns(source, 401, 20), strings.Repeat("é", 201), strings.Repeat("\xff", 401), strings.Repeat("€", 134)} {
		isTooLong(t, message)
		checkBest(t, message[:400])
	}
	// 201 runes are too many bytes, but 200 are not.
	checkBest(t, strings.Repeat("é", 200))
}

func TestLengthBoundByHand(t *testing.T) {
	for _, x := range []struct {
		message string
		want    int64
	}{
		{"", 0}, {"1", 15}, {"123456abcdefgh", 123}, {"a b", 26}, {"A1", 22}, {" ", 16}, {"a1", 27}, {"\x80", 19},
		{strings.Repeat("1", 254), 11 + 847}, {strings.Repeat("1", 255), 861}, {strings.Repeat("1", 256), 861 + 15}, {strings.Repeat("1", 400), 861 + 495},
		{strings.Repeat("A", 255), 1414}, {strings.Repeat("A", 256), 1414 + 17}, {strings.Repeat("A", 400), 1414 + 11 + 798},
		{strings.Repeat("a", 255), 1286}, {strings.Repeat("a", 256), 1286 + 16}, {strings.Repeat("a", 400), 1286 + 736},
		{strings.Repeat("*", 255), 2051}, {strings.Repeat("*", 256), 2051 + 19}, {strings.Repeat("*", 400), 2051 + 1171},
		// One byte anywhere widens the mode of both segments.
		{strings.Repeat("1", 399) + "A", 1414 + 11 + 798}, {"A" + strings.Repeat("1", 255), 1414 + 17}, {strings.Repeat("1", 255) + "a", 2051 + 19}, {"*" + strings.Repeat("a", 399), 2051 + 1171},
	} {
		if bound, code := impl.LengthBound(x.message); code != impl.ErrNone || bound != x.want {
			t.Errorf("LengthBound %q yields %d and %d, and not %d", x.message, bound, code, x.want)
		}
		hasBound(t, x.message)
	}
}

func TestLengthBoundOfEveryLength(t *testing.T) {
	t.Parallel()
	source := rand.New(rand.NewSource(308))
	for length := range impl.MaxMessage + 1 {
		for _, r := range modeTable {
			text := r.someText(source, length)
			hasBound(t, text)
			if length > 0 {
				at, b := source.Intn(length), string([]byte{byte(source.Intn(256))})
				hasBound(t, text[:at]+b+text[at+1:])
				hasBound(t, text[:length-1]+b)
			}
		}
	}
}

// All segmentations of short messages, the best one or not.
func TestAllSegmentationsJoin(t *testing.T) {
	t.Parallel()
	for _, message := range []string{"", "1", "1A", "1 a*", "111", "A a1", "\x80\xff12", "  1 ", "é1a"} {
		count := 0
		eachDivision(message, division{}, func(d division) {
			joins(t, d.list, message)
			count++
			for i, x := range d.list {
				isSegmentation(t, message, slices.Delete(slices.Clone(d.list), i, i+1), false)
				isSegmentation(t, message, slices.Insert(slices.Clone(d.list), i, x), false)
				isSegmentation(t, message, slices.Insert(slices.Clone(d.list), i, impl.Segment{Mode: x.Mode}), false)
				for _, mode := range append([]int64{0, 5, -1}, noModes...) {
					isSegmentation(t, message, withSegment(d.list, i, impl.Segment{Mode: mode, Text: x.Text}), false)
				}
			}
			isSegmentation(t, message+"1", d.list, false)
			isSegmentation(t, "1"+message, d.list, false)
			if message != "" {
				isSegmentation(t, message[1:], d.list, false)
				isSegmentation(t, message[:len(message)-1], d.list, false)
			}
		})
		if count == 0 {
			t.Errorf("%q has no segmentation", message)
		}
	}
}

// A segment is in the one mode, but not in the other one.
func TestSegmentationInEveryMode(t *testing.T) {
	for _, r := range modeTable {
		for _, s := range modeTable {
			for i := range len(r.characters) {
				text := r.characters[i : i+1]
				isSegmentation(t, text, []impl.Segment{s.segment(text)}, s.hasAll(text))
				isSegmentation(t, "A"+text, []impl.Segment{{Mode: impl.ModeLetters, Text: "A"}, s.segment(text)}, s.hasAll(text))
			}
		}
	}
}

func TestNoSegments(t *testing.T) {
	for _, none := range [][]impl.Segment{nil, {}, make([]impl.Segment, 0, 5)} {
		joins(t, none, "")
		for _, message := range []string{"1", " ", "\x00", strings.Repeat("1", 400)} {
			isSegmentation(t, message, none, false)
		}
		isTooLong(t, strings.Repeat("1", 401))
	}
	list, code := impl.BestSegments("")
	length, second := impl.BestLength("")
	bound, third := impl.LengthBound("")
	if len(list) != 0 || length != 0 || bound != 0 || code != impl.ErrNone || second != impl.ErrNone || third != impl.ErrNone {
		t.Error("the best segmentation of the empty message is", list, length, bound, code, second, third)
	}
	for _, mode := range []int64{0, 1, 2, 3, 4, 5} {
		isSegmentation(t, "", []impl.Segment{{Mode: mode}}, false)
		isSegmentation(t, "", []impl.Segment{{Mode: mode, Text: "1"}}, false)
	}
}

// Lists of MaxMessage segments and of more. Their texts may be longer than a message.
func TestManySegments(t *testing.T) {
	t.Parallel()
	source := rand.New(rand.NewSource(309))
	for _, count := range []int{1, 2, 3, 10, 398, 399, 400} {
		for range 5 {
			list := someSegments(source, count, 1)
			joins(t, list, joinedTexts(list))
			long := someSegments(source, count, 255)
			if length, code := impl.SegmentsLength(long); code != impl.ErrNone || length != lengthOf(long) {
				t.Error("SegmentsLength of", count, "segments yields", length, code)
			}
		}
	}
	longest := slices.Repeat([]impl.Segment{modeTable[3].segment(strings.Repeat("*", 255))}, 400)
	if length, code := impl.SegmentsLength(longest); code != impl.ErrNone || length != 400*2051 {
		t.Error("SegmentsLength of the longest segments yields", length, code)
	}
	joinsNot(t, longest, impl.ErrLimit)
	for _, count := range []int{401, 402, 512, 656, 1000, 1<<16 + 1} {
		list := someSegments(source, count, 1)
		hasNoLength(t, list, impl.ErrLimit)
		isSegmentation(t, joinedTexts(list), list, false)
		isSegmentation(t, joinedTexts(list[:400]), list, false)
		isSegmentation(t, "", list, false)
	}
}

// Texts that join to as many bytes as a message may have, and to one more.
func TestJoinSegmentsUpToLimit(t *testing.T) {
	t.Parallel()
	source := rand.New(rand.NewSource(310))
	for range 100 {
		message := someRuns(source, 400, 1+source.Intn(300))
		list := someDivision(source, message, 1+source.Intn(255))
		joins(t, list, message)
		one := someSegments(source, 1, 1)[0]
		for _, at := range []int{0, len(list) / 2, len(list)} {
			more := slices.Insert(slices.Clone(list), at, one)
			joinsNot(t, more, impl.ErrLimit)
			isSegmentation(t, joinedTexts(more), more, false)
			isSegmentation(t, message, more, false)
			if length, code := impl.SegmentsLength(more); len(more) <= 400 && (code != impl.ErrNone || length != lengthOf(more)) {
				t.Fatal("SegmentsLength of", len(more), "segments yields", length, code)
			}
		}
		joins(t, list[1:], message[len(list[0].Text):])
	}
	bytes := modeTable[3]
	for one := 145; one <= 255; one++ {
		first, second, third := bytes.someText(source, one), bytes.someText(source, 400-one), bytes.someText(source, 401-one)
		joins(t, []impl.Segment{bytes.segment(first), bytes.segment(second)}, first+second)
		if len(third) <= 255 {
			joinsNot(t, []impl.Segment{bytes.segment(first), bytes.segment(third)}, impl.ErrLimit)
		}
	}
}

// One segment that is not valid, at the beginning, in the middle and at the end; together with too
// many segments, and with texts that are too long.
func TestSegmentsThatAreNotValid(t *testing.T) {
	t.Parallel()
	source := rand.New(rand.NewSource(311))
	many, long, full := someSegments(source, 401, 1), someSegments(source, 400, 255), someSegments(source, 400, 1)
	for i, x := range invalidSegments(source) {
		returns(t, "a function of chapter 10", func() {
			lists := [][]impl.Segment{someSegments(source, 1+source.Intn(4), 20)}
			if i%200 == 0 {
				lists = append(lists, long[:5], long, full)
			}
			for _, list := range lists {
				for _, at := range []int{0, len(list) / 2, len(list) - 1} {
					broken := withSegment(list, at, x)
					hasNoLength(t, broken, impl.ErrInvalid)
					isSegmentation(t, joinedTexts(broken), broken, false)
				}
			}
			if i%20 == 0 {
				for _, at := range []int{0, 200, 399, 400} {
					hasNoLength(t, withSegment(many, at, x), impl.ErrLimit)
				}
			}
			hasNoLength(t, []impl.Segment{x}, impl.ErrInvalid)
			isSegmentation(t, x.Text, []impl.Segment{x}, false)
			isSegmentation(t, "", []impl.Segment{x}, false)
		})
	}
	hasNoLength(t, make([]impl.Segment, 1), impl.ErrInvalid)
	hasNoLength(t, make([]impl.Segment, 400), impl.ErrInvalid)
	hasNoLength(t, make([]impl.Segment, 401), impl.ErrLimit)
	isSegmentation(t, "", make([]impl.Segment, 400), false)
}

// Lists whose texts join to another message of the same length.
func TestSegmentsOfAnotherMessage(t *testing.T) {
	t.Parallel()
	source := rand.New(rand.NewSource(312))
	for _, message := range longMessages(source) {
		list := someDivision(source, message, 1+source.Intn(40))
		isSegmentation(t, message, list, true)
		for _, at := range []int{0, len(message) / 2, len(message) - 1} {
			other := message[:at] + string([]byte{message[at] ^ 1}) + message[at+1:]
			isSegmentation(t, other, list, false)
			isSegmentation(t, message, boundSegments(other), false)
			isSegmentation(t, other, boundSegments(other), true)
		}
		slices.Reverse(list)
		isSegmentation(t, message, list, joinedTexts(list) == message)
	}
	isSegmentation(t, "12", []impl.Segment{{Mode: impl.ModeDigits, Text: "2"}, {Mode: impl.ModeDigits, Text: "1"}}, false)
	isSegmentation(t, "a", []impl.Segment{{Mode: impl.ModeLetters, Text: "A"}}, false)
	isSegmentation(t, strings.Repeat("1", 256), []impl.Segment{{Mode: impl.ModeDigits, Text: strings.Repeat("1", 256)}}, false)
}

// writtenInTurn is the message written segment by segment.
func writtenInTurn(t *testing.T, before []int64, message string) []int64 {
	t.Helper()
	out := slices.Clone(before)
	for _, x := range oracleBest(message) {
		next, code := impl.WriteSegment(out, x)
		if code != impl.ErrNone {
			t.Fatal("WriteSegment yields", code)
		}
		out = next
	}
	return out
}

func checkWritten(t *testing.T, before []int64, message string) {
	t.Helper()
	best := oracleBest(message)
	list := writesMessage(t, before, message, writtenSegments(best))
	if !slices.Equal(list, writtenInTurn(t, before, message)) {
		t.Fatalf("WriteMessage %v %q does not write the segments in turn", before, message)
	}
	at := int64(len(before))
	for _, x := range best {
		next := at + lengthOf([]impl.Segment{x})
		readsSegment(t, list, at, x, next)
		at = next
	}
	if at != int64(len(list)) {
		t.Fatalf("WriteMessage %q ends at %d and not at %d", message, len(list), at)
	}
}

func TestWriteMessage(t *testing.T) {
	t.Parallel()
	source := rand.New(rand.NewSource(313))
	writesMessage(t, []int64{1}, "12", "001"+"00000010"+"0001100")
	writesMessage(t, nil, "11a", "001"+"00000010"+"0001011"+"011"+"00000001"+"00000")
	for _, before := range [][]int64{nil, {}, {0}, {1}, randomBits(source, 1000)} {
		writesMessage(t, before, "", "")
		for range 100 {
			checkWritten(t, before, someRuns(source, source.Intn(60), 1+source.Intn(20)))
		}
	}
	for _, message := range longMessages(source) {
		checkWritten(t, randomBits(source, source.Intn(4000)), message)
	}
}

// Lists that leave exactly the room that is needed, one bit less and one more, and none.
func TestWriteMessageUpToLimit(t *testing.T) {
	t.Parallel()
	source := rand.New(rand.NewSource(314))
	full := randomBits(source, impl.MaxBits)
	writesMessage(t, full, "", "")
	for _, message := range append(longMessages(source), "1", "A", "a", " ", "*", "11a", "123456abcdefgh") {
		want := writtenSegments(oracleBest(message))
		room := impl.MaxBits - len(want)
		writesMessage(t, full[:room], message, want)
		writesMessage(t, full[:room-1], message, want)
		for _, count := range []int{room + 1, room + 2, impl.MaxBits - 1, impl.MaxBits} {
			writesNoMessage(t, full[:count], message, impl.ErrLimit)
		}
	}
}

// The longest message that is written takes less room than its bound does.
func TestWriteMessageWithinLessThanItsBound(t *testing.T) {
	message := strings.Repeat("A", 400)
	want := writtenSegments([]impl.Segment{modeTable[1].segment(message[:254]), modeTable[1].segment(message[254:])})
	bound, _ := impl.LengthBound(message)
	if int64(len(want)) >= bound {
		t.Fatal("the bound", bound, "is not more than", len(want))
	}
	writesMessage(t, make([]int64, impl.MaxBits-len(want)), message, want)
}

// A list that is no bit list comes before a message that is too long.
func TestWriteMessageErrors(t *testing.T) {
	t.Parallel()
	for _, broken := range brokenLists() {
		for _, message := range []string{"", "1", "11a", strings.Repeat("*", 400), strings.Repeat("*", 401), strings.Repeat("1", 1000)} {
			returns(t, "WriteMessage", func() { writesNoMessage(t, broken, message, impl.ErrInvalid) })
		}
	}
}

// guardedSegments is an argument with spare capacity, and a record of both.
type guardedSegments struct{ list, whole, copy []impl.Segment }

func guardSegments(list []impl.Segment) guardedSegments {
	whole := slices.Concat(list, slices.Repeat([]impl.Segment{{Mode: filler, Text: "behind"}}, 8))
	return guardedSegments{list: whole[:len(list)], whole: whole, copy: slices.Clone(whole)}
}

func (g guardedSegments) check(t *testing.T) {
	t.Helper()
	if !slices.Equal(g.whole, g.copy) {
		t.Fatal("an argument or the memory behind it has changed")
	}
}

// No list of segments is changed, nor the memory behind it.
func TestSegmentListsStay(t *testing.T) {
	t.Parallel()
	source := rand.New(rand.NewSource(315))
	lists := [][]impl.Segment{nil, {}, someSegments(source, 401, 1), someSegments(source, 400, 1), someSegments(source, 400, 255), someSegments(source, 3, 20), {{Mode: impl.ModeDigits, Text: "1"}, {}}, {{Mode: 7, Text: "1"}, {Mode: impl.ModeBytes, Text: "1"}}}
	for _, list := range lists {
		g := guardSegments(list)
		length, first := impl.SegmentsLength(g.list)
		text, second := impl.JoinSegments(g.list)
		impl.IsSegmentation(joinedTexts(list), g.list)
		impl.IsSegmentation("1", g.list)
		g.check(t)
		again, third := impl.SegmentsLength(slices.Clone(list))
		same, fourth := impl.JoinSegments(slices.Clone(list))
		if length != again || first != third || text != same || second != fourth {
			t.Error("another list of the same segments has another result")
		}
	}
}

func overlaps(a, b string) bool {
	first, second := uintptr(unsafe.Pointer(unsafe.StringData(a))), uintptr(unsafe.Pointer(unsafe.StringData(b)))
	return a != "" && b != "" && first < second+uintptr(len(b)) && second < first+uintptr(len(a))
}

// Results are new memory: a segmentation stays as it is when another one is overwritten, and no text
// is a part of a text of the argument.
func TestSegmentationsAreNew(t *testing.T) {
	t.Parallel()
	source := rand.New(rand.NewSource(316))
	for _, message := range append(longMessages(source), "", "11a") {
		first, _ := impl.BestSegments(message)
		want := slices.Clone(first)
		for i := range first[:cap(first)] {
			first[:cap(first)][i] = impl.Segment{Mode: filler, Text: "changed"}
		}
		second, _ := impl.BestSegments(message)
		for i := range first[:cap(first)] {
			first[:cap(first)][i] = impl.Segment{Mode: filler - 1}
		}
		if !slices.Equal(second, want) {
			t.Fatalf("BestSegments %q yields %s, and not %s as before", message, segmentsText(second), segmentsText(want))
		}
		text, _ := impl.JoinSegments(second)
		for _, x := range second {
			if overlaps(x.Text, message) || overlaps(x.Text, text) {
				t.Fatalf("the texts of %q share memory", message)
			}
		}
	}
}

// No bit list is changed, nor the memory behind it, and results are new memory.
func TestWriteMessageArgumentsAndResults(t *testing.T) {
	t.Parallel()
	source := rand.New(rand.NewSource(317))
	for _, message := range []string{"", "1", "11a", "AAA aaa", strings.Repeat("1", 300), someRuns(source, 400, 20)} {
		for _, before := range [][]int64{nil, {}, {1}, randomBits(source, 40)} {
			g := guard(before)
			unshared(t, "WriteMessage", func() []int64 { out, _ := impl.WriteMessage(g.list, message); return out }, g)
			checkWritten(t, g.list, message)
			g.check(t, "WriteMessage")
		}
		for _, list := range [][]int64{{2}, {0, 1, -1}, make([]int64, impl.MaxBits+1), randomBits(source, impl.MaxBits)} {
			g := guard(list)
			impl.WriteMessage(g.list, message)
			impl.WriteMessage(g.list, strings.Repeat("1", 401))
			g.check(t, "WriteMessage")
		}
	}
}

// switchingAnswers are the results of all functions of the chapter, as a text.
func switchingAnswers(list []int64, message string, segments []impl.Segment) string {
	best, first := impl.BestSegments(message)
	length, second := impl.BestLength(message)
	sum, third := impl.SegmentsLength(segments)
	text, fourth := impl.JoinSegments(segments)
	written, fifth := impl.WriteMessage(list, message)
	bound, sixth := impl.LengthBound(message)
	return fmt.Sprintf("%s %d %d %d %d %d %q %d %v %v %v %d %d %d", segmentsText(best), first, length, second, sum, third, text, fourth,
		impl.IsSegmentation(message, segments), impl.IsSegmentation(text, segments), written, fifth, bound, sixth)
}

// No call changes what a later one yields, or one at the same time.
func TestSegmentationsKeepNoState(t *testing.T) {
	t.Parallel()
	source := rand.New(rand.NewSource(318))
	var calls []func() string
	for _, length := range []int{0, 1, 2, 3, 10, 40, 255, 256, 400, 401} {
		for range 3 {
			message := someRuns(source, length, 1+source.Intn(40))
			for _, segments := range [][]impl.Segment{someDivision(source, message, 30), someSegments(source, 3, 9), someSegments(source, 401, 1), {{}}} {
				list := randomBits(source, 1+source.Intn(20))
				calls = append(calls, func() string { return switchingAnswers(list, message, segments) }, func() string { return switchingAnswers(with(list, 0, 2), message, segments) })
			}
		}
	}
	answersStay(t, source, calls)
}
