package tests

import (
	"fmt"
	"math"
	"math/rand"
	"slices"
	"strconv"
	"strings"
	"testing"

	"loop.example/g00879/impl"
)

// The oracles below do not use what they check: the table of the document is typed anew, with all
// powers and widths, and bits are written and read as texts.

// modeRow is a row of the table. At the index n, powers has the number of characters to the power of
// n, and widths the bits of a group of n + 1.
type modeRow struct {
	mode       int64
	characters string
	powers     []int64
	widths     []int
}

var modeTable = []modeRow{
	{1, "0123456789", []int64{1, 10, 100, 1000}, []int{4, 7, 10}},
	{2, "0123456789" + "ABCDEFGHIJKLMNOPQRSTUVWXYZ" + " !#&()+-/", []int64{1, 45, 2025}, []int{6, 11}},
	{3, "abcdefghijklmnopqrstuvwxyz" + " \n,.'?", []int64{1, 32}, []int{5}},
	{4, allBytes(), []int64{1, 256}, []int{8}},
}

// noModes are numbers of no mode of text; the last ones are such when they lose their upper bits.
var noModes = slices.Concat(extremes, []int64{0, 5, 6, 7, 8, 9, 10, 11, 12, -2, -3, -4, 255, 256, 257, 258, 259, 260, 1<<16 + 4, 1<<32 + 1, 1<<32 + 2, 1<<32 + 3, 1<<32 + 4, math.MinInt64 + 3})

// oddTexts have bytes from 128 on, some of them in no valid UTF-8; the runes of the second row have
// the last eight bits of the characters 0, A, a and space.
var oddTexts = []string{
	"\x80", "\xff", "\xc3", "é", "\xe2\x82", "€", "\xf0\x9f\x98", "😀", "\xef\xbf\xbd", "\xed\xa0\x80", "\xc0\xb0", "\xc1\x81", "\xfe\xfe", "\x7f\x80",
	"\u0130", "\u0141", "\u0161", "\u0120", "\u0230\u0330", "\U00010030", "\uff10\uff11", "\u00a0", "\u2019", "\u212a", "\u017f",
}

func allBytes() string {
	out := make([]byte, 256)
	for i := range out {
		out[i] = byte(i)
	}
	return string(out)
}

func (r modeRow) segment(text string) impl.Segment { return impl.Segment{Mode: r.mode, Text: text} }

func (r modeRow) valueOf(b byte) int64 { return int64(strings.IndexByte(r.characters, b)) }

func (r modeRow) hasAll(text string) bool {
	for i := range len(text) {
		if r.valueOf(text[i]) < 0 {
			return false
		}
	}
	return true
}

// written is the text of the bits of a segment, character by character.
func (r modeRow) written(text string) string {
	out := fmt.Sprintf("%03b%08b", r.mode, len(text))
	number, inGroup := int64(0), 0
	for i := range len(text) {
		size := min(len(r.widths), len(text)-i+inGroup)
		number += r.valueOf(text[i]) * r.powers[size-1-inGroup]
		inGroup++
		if inGroup == size {
			out += fmt.Sprintf("%0*b", r.widths[size-1], number)
			number, inGroup = 0, 0
		}
	}
	return out
}

// segmentFound is a segment that is read, and where it ends; or nothing.
type segmentFound struct {
	segment impl.Segment
	next    int64
	found   bool
}

// oracleSegment reads numbers from the text of the bits; where it ends too early, there is nothing.
func oracleSegment(list []int64, at int64) segmentFound {
	rest := oracleText(list[at:])
	enough := true
	take := func(width int) int64 {
		if len(rest) < width {
			enough = false
			return 0
		}
		number, _ := strconv.ParseInt(rest[:width], 2, 64)
		rest = rest[width:]
		return number
	}
	mode, left := take(3), take(8)
	if !enough || mode < 1 || mode > 4 || left == 0 {
		return segmentFound{}
	}
	r, text := modeTable[mode-1], ""
	for left > 0 {
		size := min(len(r.widths), int(left))
		number := take(r.widths[size-1])
		if !enough || number >= r.powers[size] {
			return segmentFound{}
		}
		for _, power := range slices.Backward(r.powers[:size]) {
			text += r.characters[number/power : number/power+1]
			number %= power
		}
		left -= int64(size)
	}
	return segmentFound{r.segment(text), int64(len(list) - len(rest)), true}
}

func oracleText(list []int64) string {
	out := make([]byte, len(list))
	for i, bit := range list {
		out[i] = "01"[bit]
	}
	return string(out)
}

func oracleNarrowest(text string) int64 {
	for _, i := range []int{0, 2, 1} {
		if modeTable[i].hasAll(text) {
			return modeTable[i].mode
		}
	}
	return 4
}

func (r modeRow) someText(source *rand.Rand, length int) string {
	out := make([]byte, length)
	for i := range out {
		out[i] = r.characters[source.Intn(len(r.characters))]
	}
	return string(out)
}

// texts of a length: with the least and the greatest numbers, and others.
func (r modeRow) texts(source *rand.Rand, length int) []string {
	first, last := r.characters[:1], r.characters[len(r.characters)-1:]
	return []string{strings.Repeat(first, length), strings.Repeat(last, length), r.someText(source, length), r.someText(source, length)}
}

// strangers are the bytes that have no value in a mode.
func (r modeRow) strangers() []byte {
	var out []byte
	for b := range 256 {
		if r.valueOf(byte(b)) < 0 {
			out = append(out, byte(b))
		}
	}
	return out
}

func writes(t *testing.T, before []int64, x impl.Segment, want string) []int64 {
	t.Helper()
	list, code := impl.WriteSegment(before, x)
	if code != impl.ErrNone || len(list) != len(before)+len(want) {
		t.Fatalf("WriteSegment %d bits %d %q yields %d bits and %d, and not %d more", len(before), x.Mode, x.Text, len(list), code, len(want))
	}
	if !slices.Equal(list[:len(before)], before) || !slices.Equal(list[len(before):], bitsOf(t, want)) {
		t.Fatalf("WriteSegment %v %d %q yields %v", before, x.Mode, x.Text, list)
	}
	return list
}

func writesNot(t *testing.T, list []int64, x impl.Segment, want int64) {
	t.Helper()
	if out, code := impl.WriteSegment(list, x); code != want || len(out) != 0 {
		t.Fatalf("WriteSegment %d bits %d %q yields %d bits and %d instead of the error %d", len(list), x.Mode, x.Text, len(out), code, want)
	}
}

func readsSegment(t *testing.T, list []int64, at int64, want impl.Segment, next int64) {
	t.Helper()
	if x, end, code := impl.ReadSegment(list, at); code != impl.ErrNone || x != want || end != next {
		t.Fatalf("ReadSegment %v at %d yields %d %q, %d and %d, and not %d %q and %d", list, at, x.Mode, x.Text, end, code, want.Mode, want.Text, next)
	}
}

func readsNoSegment(t *testing.T, list []int64, at int64, want int64) {
	t.Helper()
	if x, end, code := impl.ReadSegment(list, at); code != want || x != (impl.Segment{}) || end != 0 {
		t.Fatalf("ReadSegment %d bits at %d yields %d %q, %d and %d instead of the error %d", len(list), at, x.Mode, x.Text, end, code, want)
	}
}

// checkRead holds ReadSegment against the oracle; what is read is written with the same bits.
func checkRead(t *testing.T, list []int64, at int64) segmentFound {
	t.Helper()
	want := oracleSegment(list, at)
	if !want.found {
		readsNoSegment(t, list, at, impl.ErrSyntax)
		return want
	}
	readsSegment(t, list, at, want.segment, want.next)
	writes(t, list[:at], want.segment, oracleText(list[at:want.next]))
	return want
}

func isSegment(t *testing.T, x impl.Segment, want bool) {
	t.Helper()
	if impl.IsSegment(x) != want {
		t.Fatalf("IsSegment %d %q yields %v", x.Mode, x.Text, !want)
	}
	if length := impl.SegmentLength(x); (length == -1) == want {
		t.Fatalf("SegmentLength %d %q yields %d", x.Mode, x.Text, length)
	}
}

// comesBack writes a segment behind some bits, and reads it with other bits behind it.
func (r modeRow) comesBack(t *testing.T, before []int64, text string, behind []int64) {
	t.Helper()
	x, want := r.segment(text), r.written(text)
	isSegment(t, x, true)
	if length := impl.SegmentLength(x); length != int64(len(want)) {
		t.Fatalf("SegmentLength %d %q yields %d and not %d", x.Mode, text, length, len(want))
	}
	list := writes(t, before, x, want)
	at, next := int64(len(before)), int64(len(list))
	readsSegment(t, list, at, x, next)
	list = slices.Concat(list, behind)
	readsSegment(t, list, at, x, next)
	writes(t, before, x, oracleText(list[at:next]))
}

func TestModeLimits(t *testing.T) {
	for want, mode := range []int64{impl.ModeEnd, impl.ModeDigits, impl.ModeLetters, impl.ModeLower, impl.ModeBytes, impl.ModeAppend} {
		if mode != int64(want) {
			t.Error("the mode with the number", want, "is", mode)
		}
	}
	if impl.ModeWidth != 3 || impl.MaxSegmentText != 255 {
		t.Error("limits", impl.ModeWidth, impl.MaxSegmentText)
	}
}

func TestModeName(t *testing.T) {
	names := []string{"end", "digits", "letters", "lower", "bytes", "append"}
	for mode, want := range names {
		if name := impl.ModeName(int64(mode)); name != want {
			t.Error("ModeName", mode, "yields", name)
		}
	}
	for _, mode := range noModes {
		if mode == 0 || mode == 5 {
			continue
		}
		returns(t, "ModeName", func() {
			if name := impl.ModeName(mode); name != "" {
				t.Error("ModeName", mode, "yields", name)
			}
		})
	}
}

func TestSegmentExamples(t *testing.T) {
	if value := impl.CharacterValue(impl.ModeLetters, 32); value != 36 {
		t.Error("the value of a space in ModeLetters is", value)
	}
	if length := impl.SegmentLength(impl.Segment{Mode: impl.ModeDigits, Text: "1234"}); length != 3+8+14 {
		t.Error("four digits take", length, "bits")
	}
	if mode := impl.NarrowestMode(""); mode != impl.ModeDigits {
		t.Error("the mode of the empty string is", mode)
	}
}

func TestCharacterValueByHand(t *testing.T) {
	for _, x := range []struct {
		mode  int64
		b     byte
		value int64
	}{
		{impl.ModeDigits, '0', 0}, {impl.ModeDigits, '7', 7}, {impl.ModeDigits, '9', 9}, {impl.ModeDigits, '/', -1}, {impl.ModeDigits, ':', -1}, {impl.ModeDigits, 'A', -1}, {impl.ModeDigits, 0, -1},
		{impl.ModeLetters, '0', 0}, {impl.ModeLetters, '9', 9}, {impl.ModeLetters, 'A', 10}, {impl.ModeLetters, 'Z', 35}, {impl.ModeLetters, ' ', 36}, {impl.ModeLetters, '!', 37},
		{impl.ModeLetters, '#', 38}, {impl.ModeLetters, '&', 39}, {impl.ModeLetters, '(', 40}, {impl.ModeLetters, ')', 41}, {impl.ModeLetters, '+', 42}, {impl.ModeLetters, '-', 43}, {impl.ModeLetters, '/', 44},
		{impl.ModeLetters, 'a', -1}, {impl.ModeLetters, '"', -1}, {impl.ModeLetters, '$', -1}, {impl.ModeLetters, '*', -1}, {impl.ModeLetters, ',', -1}, {impl.ModeLetters, '.', -1}, {impl.ModeLetters, ':', -1}, {impl.ModeLetters, '@', -1}, {impl.ModeLetters, '[', -1}, {impl.ModeLetters, '\n', -1}, {impl.ModeLetters, '?', -1},
		{impl.ModeLower, 'a', 0}, {impl.ModeLower, 'z', 25}, {impl.ModeLower, ' ', 26}, {impl.ModeLower, '\n', 27}, {impl.ModeLower, ',', 28}, {impl.ModeLower, '.', 29}, {impl.ModeLower, 39, 30}, {impl.ModeLower, '?', 31},
		{impl.ModeLower, 'A', -1}, {impl.ModeLower, '0', -1}, {impl.ModeLower, '`', -1}, {impl.ModeLower, '{', -1}, {impl.ModeLower, '\r', -1}, {impl.ModeLower, '!', -1}, {impl.ModeLower, '"', -1},
		{impl.ModeBytes, 0, 0}, {impl.ModeBytes, '0', 48}, {impl.ModeBytes, 127, 127}, {impl.ModeBytes, 128, 128}, {impl.ModeBytes, 255, 255},
	} {
		if value := impl.CharacterValue(x.mode, int64(x.b)); value != x.value {
			t.Error("CharacterValue", x.mode, x.b, "yields", value, "and not", x.value)
		}
	}
}

// Every mode and every byte. Different bytes of a mode have different values, from 0 on.
func TestCharacterValue(t *testing.T) {
	for _, r := range modeTable {
		var values []int64
		for b := range 256 {
			value := impl.CharacterValue(r.mode, int64(b))
			if value != r.valueOf(byte(b)) {
				t.Error("CharacterValue", r.mode, b, "yields", value)
			}
			if value != -1 {
				values = append(values, value)
			}
		}
		slices.Sort(values)
		if !slices.Equal(values, numbersUpTo(r.powers[1])) {
			t.Error("the values of the mode", r.mode, "are", values)
		}
	}
	for i, want := range []int{10, 45, 32, 256} {
		if len(modeTable[i].characters) != want {
			t.Error("the mode", i+1, "has", len(modeTable[i].characters), "characters")
		}
	}
}

// Numbers that are no bytes, also such that are when they lose their upper bits, and U+FFFD, which a
// range over a string yields for bytes that are no valid UTF-8.
func TestCharacterValueOfNoByte(t *testing.T) {
	numbers := slices.Concat(extremes, []int64{-255, -208, -48, -2, 256, 257, 0xfffd, 0x10ffff, 1<<32 + '0', 1<<32 + 'A', 1<<32 + 'a', 1<<32 + 255, 1<<63 - 256 + '0', math.MinInt64 + '0', math.MinInt64 + 'a'})
	for b := range int64(256) {
		numbers = append(numbers, b-256, b+256, b+1<<16)
	}
	for _, r := range modeTable {
		for _, b := range numbers {
			returns(t, "CharacterValue", func() {
				if value := impl.CharacterValue(r.mode, b); value != -1 {
					t.Error("CharacterValue", r.mode, b, "yields", value)
				}
			})
		}
	}
}

func TestCharacterValueOfNoMode(t *testing.T) {
	for _, mode := range noModes {
		for b := int64(-1); b <= 256; b++ {
			returns(t, "CharacterValue", func() {
				if value := impl.CharacterValue(mode, b); value != -1 {
					t.Error("CharacterValue", mode, b, "yields", value)
				}
			})
		}
		for _, b := range extremes {
			if value := impl.CharacterValue(mode, b); value != -1 {
				t.Error("CharacterValue", mode, b, "yields", value)
			}
		}
	}
}

// The bits of segments, and their lengths, found by hand.
func TestSegmentsByHand(t *testing.T) {
	for _, x := range []struct {
		mode int64
		text string
		want string
	}{
		{impl.ModeDigits, "0", "001" + "00000001" + "0000"}, {impl.ModeDigits, "9", "001" + "00000001" + "1001"},
		{impl.ModeDigits, "12", "001" + "00000010" + "0001100"}, {impl.ModeDigits, "99", "001" + "00000010" + "1100011"}, {impl.ModeDigits, "01", "001" + "00000010" + "0000001"},
		{impl.ModeDigits, "100", "001" + "00000011" + "0001100100"}, {impl.ModeDigits, "999", "001" + "00000011" + "1111100111"}, {impl.ModeDigits, "007", "001" + "00000011" + "0000000111"},
		{impl.ModeDigits, "1234", "001" + "00000100" + "0001111011" + "0100"}, {impl.ModeDigits, "51298", "001" + "00000101" + "1000000000" + "1100010"},
		{impl.ModeLetters, "/", "010" + "00000001" + "101100"}, {impl.ModeLetters, "0", "010" + "00000001" + "000000"},
		{impl.ModeLetters, "//", "010" + "00000010" + "11111101000"}, {impl.ModeLetters, "10", "010" + "00000010" + "00000101101"}, {impl.ModeLetters, "01", "010" + "00000010" + "00000000001"},
		{impl.ModeLetters, "A0 ", "010" + "00000011" + "00111000010" + "100100"},
		{impl.ModeLower, "a", "011" + "00000001" + "00000"}, {impl.ModeLower, "?b\n", "011" + "00000011" + "11111" + "00001" + "11011"},
		{impl.ModeBytes, "\x00", "100" + "00000001" + "00000000"}, {impl.ModeBytes, "\xffA", "100" + "00000010" + "11111111" + "01000001"}, {impl.ModeBytes, "é", "100" + "00000010" + "11000011" + "10101001"},
	} {
		r := modeTable[x.mode-1]
		if r.written(x.text) != x.want {
			t.Fatalf("the oracle writes %q in the mode %d as %s", x.text, x.mode, r.written(x.text))
		}
		for _, before := range [][]int64{nil, {}, {0}, {1, 1}, bitsOf(t, "0100101")} {
			r.comesBack(t, before, x.text, nil)
			r.comesBack(t, before, x.text, []int64{1, 0, 1})
		}
	}
}

// The bits behind the count, for the first lengths and the last one.
func TestSegmentLengthByHand(t *testing.T) {
	for i, lengths := range [][]int64{{4, 7, 10, 14, 17, 20, 24}, {6, 11, 17, 22, 28}, {5, 10, 15, 20}, {8, 16, 24, 32}} {
		r := modeTable[i]
		for before, length := range lengths {
			if n := impl.SegmentLength(r.segment(strings.Repeat(r.characters[:1], before+1))); n != 3+8+length {
				t.Error("SegmentLength of", before+1, "bytes in the mode", r.mode, "is", n)
			}
		}
		longest := []int64{85 * 10, 127*11 + 6, 255 * 5, 255 * 8}[i]
		if n := impl.SegmentLength(r.segment(strings.Repeat(r.characters[1:2], 255))); n != 3+8+longest {
			t.Error("SegmentLength of 255 bytes in the mode", r.mode, "is", n)
		}
	}
}

// Texts of every length: at the start of a list, behind other bits and in front of other bits.
func TestSegmentsComeBack(t *testing.T) {
	t.Parallel()
	source := rand.New(rand.NewSource(209))
	for _, r := range modeTable {
		for length := 1; length <= impl.MaxSegmentText; length++ {
			for _, text := range r.texts(source, length) {
				r.comesBack(t, nil, text, randomBits(source, 1+source.Intn(40)))
				r.comesBack(t, randomBits(source, 1+source.Intn(40)), text, nil)
				r.comesBack(t, randomBits(source, source.Intn(2000)), text, randomBits(source, source.Intn(2000)))
			}
		}
	}
}

// Every group of every mode and size, alone and as the last one.
func TestAllGroupsComeBack(t *testing.T) {
	t.Parallel()
	source := rand.New(rand.NewSource(210))
	for _, r := range modeTable {
		var each func(group string)
		each = func(group string) {
			if group != "" {
				r.comesBack(t, nil, group, nil)
				r.comesBack(t, []int64{1}, r.someText(source, len(r.widths))+group, []int64{1, 1})
			}
			if len(group) < len(r.widths) {
				for i := range len(r.characters) {
					each(group + r.characters[i:i+1])
				}
			}
		}
		each("")
	}
}

// Segments one after another, read from where the one before it ends.
func TestSegmentsInOneList(t *testing.T) {
	t.Parallel()
	source := rand.New(rand.NewSource(211))
	for range 300 {
		list := randomBits(source, source.Intn(20))
		at := int64(len(list))
		var all []impl.Segment
		for {
			r := modeTable[source.Intn(4)]
			text := r.someText(source, 1+source.Intn(1<<(1+source.Intn(7))))
			if len(list)+len(r.written(text)) > impl.MaxBits {
				break
			}
			list = writes(t, list, r.segment(text), r.written(text))
			all = append(all, r.segment(text))
		}
		for _, x := range all {
			next := at + impl.SegmentLength(x)
			readsSegment(t, list, at, x, next)
			at = next
		}
		if at != int64(len(list)) {
			t.Fatal("the last segment ends at", at, "and not at", len(list))
		}
	}
}

// numbered is a list with the head of a segment, and its groups as numbers.
func (r modeRow) numbered(t *testing.T, count int, numbers ...int64) []int64 {
	t.Helper()
	text := fmt.Sprintf("%03b%08b", r.mode, count)
	for _, number := range numbers {
		size := min(count, len(r.widths))
		text += fmt.Sprintf("%0*b", r.widths[size-1], number)
		count -= size
	}
	if count != 0 {
		t.Fatal(count, "characters have no number")
	}
	return bitsOf(t, text)
}

// Every number of a group: alone, behind other groups, in front of and between them.
func TestReadSegmentOfEveryNumber(t *testing.T) {
	t.Parallel()
	for _, r := range modeTable {
		full, tooGreat := len(r.widths), 0
		for size, width := range r.widths {
			size++
			for number := range int64(1) << width {
				greatest := r.powers[full] - 1
				lists := [][]int64{r.numbered(t, size, number), r.numbered(t, full+size, 0, number), r.numbered(t, 2*full+size, greatest, 1, number)}
				if size == full {
					lists = append(lists, r.numbered(t, full+1, number, 0), r.numbered(t, 2*full, number, greatest), r.numbered(t, 2*full+1, 1, number, 2))
				}
				for _, list := range lists {
					if found := checkRead(t, list, 0).found; found != (number < r.powers[size]) {
						t.Fatal("the number", number, "in the mode", r.mode, "as", size, "characters is read:", found)
					} else if !found {
						tooGreat++
					}
				}
			}
		}
		if (tooGreat > 0) != (r.mode <= 2) {
			t.Error("in the mode", r.mode, tooGreat, "numbers are too great")
		}
	}
}

// The limits of the groups of digits and letters, which are no powers of 2.
func TestReadSegmentAtTheLimitsOfGroups(t *testing.T) {
	for _, x := range []struct {
		mode  int64
		limit int64
		text  string
	}{
		{impl.ModeDigits, 10, "9"}, {impl.ModeDigits, 100, "99"}, {impl.ModeDigits, 1000, "999"},
		{impl.ModeLetters, 45, "/"}, {impl.ModeLetters, 2025, "//"},
	} {
		r, size := modeTable[x.mode-1], len(x.text)
		list := r.numbered(t, size, x.limit-1)
		readsSegment(t, list, 0, r.segment(x.text), int64(len(list)))
		for _, number := range []int64{x.limit, x.limit + 1, 1<<r.widths[size-1] - 1} {
			readsNoSegment(t, r.numbered(t, size, number), 0, impl.ErrSyntax)
		}
	}
}

// Every mode of 3 bits with every count, and what comes then.
func TestReadSegmentOfEveryHead(t *testing.T) {
	t.Parallel()
	source := rand.New(rand.NewSource(212))
	found, lost := map[int64]int{}, map[int64]int{}
	for mode := range int64(8) {
		for count := range int64(256) {
			head := bitsOf(t, fmt.Sprintf("%03b%08b", mode, count))
			for _, body := range [][]int64{make([]int64, 2040), slices.Repeat([]int64{1}, 2040), randomBits(source, 2040), randomBits(source, 2040), randomBits(source, source.Intn(2040)), nil} {
				for _, before := range [][]int64{nil, randomBits(source, 1+source.Intn(20))} {
					if checkRead(t, slices.Concat(before, head, body), int64(len(before))).found {
						found[mode]++
					} else {
						lost[mode]++
					}
				}
			}
		}
	}
	for mode := range int64(8) {
		if isText := mode >= 1 && mode <= 4; lost[mode] == 0 || (found[mode] > 500) != isText || found[mode] > 0 != isText {
			t.Error("in the mode", mode, found[mode], "segments are found, and", lost[mode], "are not")
		}
	}
}

// Without bytes there is no segment, whatever comes then; nor is there one in another mode.
func TestReadSegmentOfNoTextAndNoMode(t *testing.T) {
	ones, zeros := slices.Repeat([]int64{1}, 60), make([]int64, 60)
	for mode := range int64(8) {
		for _, body := range [][]int64{nil, ones, zeros, ones[:1], zeros[:4]} {
			readsNoSegment(t, append(bitsOf(t, fmt.Sprintf("%03b%08b", mode, 0)), body...), 0, impl.ErrSyntax)
		}
	}
	for _, mode := range []int64{impl.ModeEnd, impl.ModeAppend, 6, 7} {
		for _, count := range []int64{1, 2, 3, 4} {
			for _, body := range [][]int64{ones, zeros} {
				readsNoSegment(t, append(bitsOf(t, fmt.Sprintf("%03b%08b", mode, count)), body...), 0, impl.ErrSyntax)
			}
		}
	}
}

// Lists that end within the mode, the count or a group: every place for short texts, and for longer
// ones those around the last group.
func TestReadSegmentOfCutLists(t *testing.T) {
	t.Parallel()
	source := rand.New(rand.NewSource(213))
	for _, r := range modeTable {
		for length := 1; length <= impl.MaxSegmentText; length++ {
			x := r.segment(r.someText(source, length))
			before := randomBits(source, source.Intn(30))
			list := writes(t, before, x, r.written(x.Text))
			at, whole := int64(len(before)), len(list)-len(before)
			readsSegment(t, list, at, x, int64(len(list)))
			for cut := range whole {
				if length <= 12 || cut < 24 || cut >= whole-24 || source.Intn(40) == 0 {
					readsNoSegment(t, list[:len(before)+cut], at, impl.ErrSyntax)
				}
			}
		}
	}
}

// Any bits from any index on, with heads of short texts among them.
func TestReadSegmentOfAnyBits(t *testing.T) {
	t.Parallel()
	source := rand.New(rand.NewSource(214))
	found, lost := 0, 0
	for range 3000 {
		list := randomBits(source, 20+source.Intn(150))
		if source.Intn(2) == 0 {
			copy(list[source.Intn(8):], bitsOf(t, fmt.Sprintf("%03b%08b", 1+source.Intn(4), 1+source.Intn(12))))
		}
		for at := range len(list) + 1 {
			if checkRead(t, list, int64(at)).found {
				found++
			} else {
				lost++
			}
		}
	}
	if found < 1000 || lost < 1000 {
		t.Error(found, "segments are found, and", lost, "are not")
	}
}

// At the end of the longest list there is room for a segment, and no more behind it.
func TestReadSegmentOfLongLists(t *testing.T) {
	t.Parallel()
	source := rand.New(rand.NewSource(215))
	for _, r := range modeTable {
		for _, length := range []int{1, 2, 3, 4, 100, 254, 255} {
			text := r.someText(source, length)
			at := impl.MaxBits - len(r.written(text))
			list := writes(t, randomBits(source, at), r.segment(text), r.written(text))
			readsSegment(t, list, int64(at), r.segment(text), impl.MaxBits)
			readsNoSegment(t, list[:impl.MaxBits-1], int64(at), impl.ErrSyntax)
			readsNoSegment(t, list, impl.MaxBits, impl.ErrSyntax)
			readsNoSegment(t, list, impl.MaxBits+1, impl.ErrRange)
			readsNoSegment(t, append(slices.Clone(list), 0), int64(at), impl.ErrInvalid)
		}
	}
}

// A list that is no bit list comes before an index out of range, and that before what is written.
func TestReadSegmentErrors(t *testing.T) {
	t.Parallel()
	segment := modeTable[0].numbered(t, 2, 12)
	for _, broken := range append(brokenLists(), append(slices.Clone(segment), 2), append([]int64{-1}, segment...), with(segment, 17, 2), with(segment, 2, -1)) {
		for _, at := range append([]int64{0, 1, -1, int64(len(broken)), int64(len(broken)) + 1}, extremes...) {
			returns(t, "ReadSegment", func() { readsNoSegment(t, broken, at, impl.ErrInvalid) })
		}
	}
	for _, list := range [][]int64{nil, {}, {1}, segment[:3], segment, slices.Concat(segment, segment), make([]int64, impl.MaxBits)} {
		count := int64(len(list))
		for _, at := range append([]int64{-1, -2, -count, -count - 1, count + 1, count + 2, 2*count + 1, impl.MaxBits + 1, 1 << 16, 1<<32 + count}, extremes...) {
			if at != 0 {
				returns(t, "ReadSegment", func() { readsNoSegment(t, list, at, impl.ErrRange) })
			}
		}
		readsNoSegment(t, list, count, impl.ErrSyntax)
	}
	readsSegment(t, segment, 0, modeTable[0].segment("12"), 18)
	for at := int64(1); at <= 18; at++ {
		readsNoSegment(t, segment, at, impl.ErrSyntax)
	}
}

// invalidSegments have no mode of text, no text, too much of it, or a byte without a value.
func invalidSegments(source *rand.Rand) []impl.Segment {
	list := []impl.Segment{{}}
	for _, mode := range noModes {
		for _, text := range []string{"", "1", "12", "A", "a ", "\x00", strings.Repeat("1", 255), strings.Repeat("1", 256)} {
			list = append(list, impl.Segment{Mode: mode, Text: text})
		}
	}
	for _, r := range modeTable {
		for _, length := range []int{0, 256, 257, 258, 300, 511, 512, 513, 1000, 1 << 16, 1<<16 + 1} {
			list = append(list, r.segment(r.someText(source, length)))
		}
		for _, b := range r.strangers() {
			for _, length := range []int{1, 2, 3, 4, 5, 6, 100, 255} {
				text := r.someText(source, length)
				for _, at := range []int{0, length / 2, length - 1} {
					list = append(list, r.segment(text[:at]+string([]byte{b})+text[at+1:]))
				}
			}
		}
		if r.mode == impl.ModeBytes {
			continue
		}
		for _, odd := range oddTexts {
			text := r.someText(source, 3)
			list = append(list, r.segment(odd), r.segment(odd+text), r.segment(text+odd), r.segment(text+odd+text), r.segment(strings.Repeat(odd, 20)))
		}
	}
	return list
}

func TestInvalidSegments(t *testing.T) {
	t.Parallel()
	for _, x := range invalidSegments(rand.New(rand.NewSource(216))) {
		returns(t, "a function of chapter 9", func() {
			isSegment(t, x, false)
			writesNot(t, nil, x, impl.ErrRange)
			writesNot(t, []int64{1, 0, 1}, x, impl.ErrRange)
		})
	}
}

// A byte at every place of a text of every kind of length.
func TestStrangersAtEveryPlace(t *testing.T) {
	t.Parallel()
	source := rand.New(rand.NewSource(217))
	for _, r := range modeTable[:3] {
		strangers := r.strangers()
		for _, length := range []int{1, 2, 3, 4, 5, 6, 7, 8, 9, 128, 253, 254, 255} {
			text := r.someText(source, length)
			isSegment(t, r.segment(text), true)
			for at := range length {
				b := strangers[source.Intn(len(strangers))]
				x := r.segment(text[:at] + string([]byte{b}) + text[at+1:])
				isSegment(t, x, false)
				writesNot(t, nil, x, impl.ErrRange)
			}
		}
	}
}

// Texts with bytes from 128 on are read back in ModeBytes as they are, valid UTF-8 or not.
func TestOddTexts(t *testing.T) {
	t.Parallel()
	source := rand.New(rand.NewSource(218))
	bytes := modeTable[3]
	for _, odd := range oddTexts {
		for _, text := range []string{odd, odd + "1", "1" + odd, "a" + odd + "B", odd + odd, odd + "\xff", "\x80" + odd, strings.Repeat(odd, 30)} {
			if mode := impl.NarrowestMode(text); mode != impl.ModeBytes {
				t.Errorf("NarrowestMode %q yields %d", text, mode)
			}
			for _, r := range modeTable[:3] {
				isSegment(t, r.segment(text), false)
				writesNot(t, nil, r.segment(text), impl.ErrRange)
			}
			bytes.comesBack(t, randomBits(source, source.Intn(10)), text, randomBits(source, source.Intn(10)))
		}
	}
	for length := 1; length <= impl.MaxSegmentText; length++ {
		text := make([]byte, length)
		for i := range text {
			text[i] = byte(128 + source.Intn(128))
		}
		bytes.comesBack(t, nil, string(text), nil)
	}
}

// Lists that leave exactly the room that is needed, one bit less and one more, and none.
func TestWriteSegmentUpToLimit(t *testing.T) {
	t.Parallel()
	source := rand.New(rand.NewSource(219))
	full := randomBits(source, impl.MaxBits)
	for _, r := range modeTable {
		for length := 1; length <= impl.MaxSegmentText; length++ {
			text := r.someText(source, length)
			want := r.written(text)
			room := impl.MaxBits - len(want)
			writes(t, full[:room], r.segment(text), want)
			writesNot(t, full[:room+1], r.segment(text), impl.ErrLimit)
			if length%50 == 1 || length > 250 || length < 5 {
				writes(t, full[:room-1], r.segment(text), want)
				writesNot(t, full[:room+2], r.segment(text), impl.ErrLimit)
				writesNot(t, full[:impl.MaxBits-1], r.segment(text), impl.ErrLimit)
				writesNot(t, full, r.segment(text), impl.ErrLimit)
			}
		}
	}
}

// A list that is no bit list comes before a segment that is not valid, and that before the limit.
func TestWriteSegmentErrors(t *testing.T) {
	t.Parallel()
	source := rand.New(rand.NewSource(220))
	full := make([]int64, impl.MaxBits)
	invalid := invalidSegments(source)
	for _, broken := range brokenLists() {
		for _, r := range modeTable {
			writesNot(t, broken, r.segment(r.characters[:1]), impl.ErrInvalid)
			writesNot(t, broken, r.segment(r.someText(source, 255)), impl.ErrInvalid)
		}
		for range 20 {
			writesNot(t, broken, invalid[source.Intn(len(invalid))], impl.ErrInvalid)
		}
		writesNot(t, broken, impl.Segment{}, impl.ErrInvalid)
	}
	for i, x := range invalid {
		if i%20 == 0 || x.Mode < 1 || x.Mode > 4 {
			writesNot(t, full, x, impl.ErrRange)
			writesNot(t, full[:impl.MaxBits-11], x, impl.ErrRange)
		}
	}
}

func narrows(t *testing.T, text string, want int64) {
	t.Helper()
	if mode := impl.NarrowestMode(text); mode != want {
		t.Fatalf("NarrowestMode of %d bytes %.40q yields %d and not %d", len(text), text, mode, want)
	}
}

func TestNarrowestModeByHand(t *testing.T) {
	for _, x := range []struct {
		text string
		want int64
	}{
		{"", impl.ModeDigits}, {"0", impl.ModeDigits}, {"0123456789", impl.ModeDigits},
		{"a", impl.ModeLower}, {"a b", impl.ModeLower}, {" ", impl.ModeLower}, {"   ", impl.ModeLower}, {"\n", impl.ModeLower}, {"it's, well?\n.", impl.ModeLower},
		{"A", impl.ModeLetters}, {"A1", impl.ModeLetters}, {"1 2", impl.ModeLetters}, {"12/34", impl.ModeLetters}, {"A B", impl.ModeLetters}, {"!#&()+-/", impl.ModeLetters}, {"1 ", impl.ModeLetters}, {" 1", impl.ModeLetters}, {"!", impl.ModeLetters},
		{"a1", impl.ModeBytes}, {"1a", impl.ModeBytes}, {"aA", impl.ModeBytes}, {"1\n", impl.ModeBytes}, {"1.5", impl.ModeBytes}, {"a!", impl.ModeBytes}, {"A\n", impl.ModeBytes}, {"\x00", impl.ModeBytes}, {"*", impl.ModeBytes}, {"é", impl.ModeBytes}, {"\xff", impl.ModeBytes}, {"1\xb0", impl.ModeBytes},
	} {
		narrows(t, x.text, x.want)
	}
}

// All texts of one byte and of two, and longer ones of two modes and of all bytes.
func TestNarrowestMode(t *testing.T) {
	t.Parallel()
	source := rand.New(rand.NewSource(221))
	for a := range 256 {
		narrows(t, string([]byte{byte(a)}), oracleNarrowest(string([]byte{byte(a)})))
		for b := range 256 {
			text := string([]byte{byte(a), byte(b)})
			narrows(t, text, oracleNarrowest(text))
		}
	}
	seen := map[int64]int{}
	for range 20000 {
		one, two := modeTable[source.Intn(4)], modeTable[source.Intn(3)]
		text := one.someText(source, source.Intn(6)) + two.someText(source, source.Intn(6))
		mode := oracleNarrowest(text)
		narrows(t, text, mode)
		seen[mode]++
		// Of the modes in which the text is a segment, the one that is returned is the first.
		for _, earlier := range []int64{impl.ModeDigits, impl.ModeLower, impl.ModeLetters, impl.ModeBytes} {
			if text != "" {
				isSegment(t, impl.Segment{Mode: earlier, Text: text}, modeTable[earlier-1].hasAll(text))
			}
			if earlier == mode {
				break
			}
		}
	}
	for mode := int64(1); mode <= 4; mode++ {
		if seen[mode] < 1000 {
			t.Error("the mode", mode, "is there", seen[mode], "times")
		}
	}
}

// Texts may be longer than those of segments; one byte anywhere changes the mode.
func TestNarrowestModeOfLongTexts(t *testing.T) {
	t.Parallel()
	source := rand.New(rand.NewSource(222))
	for _, r := range modeTable {
		for _, length := range []int{254, 255, 256, 257, 400, 401, 1000, 100000} {
			text := r.someText(source, length)
			narrows(t, text, oracleNarrowest(text))
			for _, b := range []string{"0", "A", "a", " ", "\n", "!", "*", "\x80"} {
				for _, at := range []int{0, 1, length / 2, length - 2, length - 1} {
					changed := text[:at] + b + text[at+1:]
					narrows(t, changed, oracleNarrowest(changed))
				}
			}
		}
	}
}

// Nil and empty lists are the same value: a segment has room in both, and none is in them.
func TestSegmentsOfNoList(t *testing.T) {
	for _, none := range [][]int64{nil, {}} {
		for _, r := range modeTable {
			writes(t, none, r.segment(r.characters[1:3]), r.written(r.characters[1:3]))
		}
		readsNoSegment(t, none, 0, impl.ErrSyntax)
		readsNoSegment(t, none, 1, impl.ErrRange)
		readsNoSegment(t, none, -1, impl.ErrRange)
		writesNot(t, none, impl.Segment{}, impl.ErrRange)
	}
}

// No argument is changed, nor the memory behind it, and results are new memory.
func TestSegmentArgumentsAndResults(t *testing.T) {
	t.Parallel()
	source := rand.New(rand.NewSource(223))
	for _, r := range modeTable {
		for _, length := range []int{1, 2, 3, 4, 7, 255} {
			x := r.segment(r.someText(source, length))
			written := bitsOf(t, r.written(x.Text))
			for _, before := range [][]int64{nil, {}, {1}, randomBits(source, 30), written} {
				g := guard(before)
				unshared(t, "WriteSegment", func() []int64 { out, _ := impl.WriteSegment(g.list, x); return out }, g)
				writes(t, g.list, x, r.written(x.Text))
				h := guard(slices.Concat(before, written))
				readsSegment(t, h.list, int64(len(before)), x, int64(len(h.list)))
				readsNoSegment(t, h.list[:len(h.list)-1], int64(len(before)), impl.ErrSyntax)
				readsNoSegment(t, h.list, int64(len(h.list))+1, impl.ErrRange)
				h.check(t, "ReadSegment")
			}
			for _, list := range [][]int64{{2}, {0, 1, -1}, append(slices.Clone(written), 3)} {
				g := guard(list)
				writesNot(t, g.list, x, impl.ErrInvalid)
				readsNoSegment(t, g.list, 0, impl.ErrInvalid)
				g.check(t, "a function of chapter 9")
			}
			g := guard(slices.Repeat([]int64{1}, impl.MaxBits-len(written)+1))
			writesNot(t, g.list, x, impl.ErrLimit)
			writesNot(t, g.list, impl.Segment{Mode: x.Mode}, impl.ErrRange)
			g.check(t, "WriteSegment")
		}
	}
}

// The text of a segment that is read stays as it is when the list is overwritten.
func TestReadSegmentKeepsItsText(t *testing.T) {
	source := rand.New(rand.NewSource(224))
	for _, r := range modeTable {
		text := r.someText(source, 40)
		list := bitsOf(t, r.written(text))
		x, _, code := impl.ReadSegment(list, 0)
		scribble(list)
		if code != impl.ErrNone || x != r.segment(text) {
			t.Errorf("ReadSegment yields %d %q and %d and not %q", x.Mode, x.Text, code, text)
		}
	}
}

// segmentAnswers are the results of all functions of the chapter, as a text.
func segmentAnswers(list []int64, at int64, x impl.Segment) string {
	written, first := impl.WriteSegment(list, x)
	read, next, second := impl.ReadSegment(list, at)
	answers := fmt.Sprintf("%v %d %v %d %d %q %d %d", impl.IsSegment(x), impl.SegmentLength(x), written, first, read.Mode, read.Text, next, second)
	for i := range len(x.Text) {
		answers += fmt.Sprint(" ", impl.CharacterValue(x.Mode, int64(x.Text[i])))
	}
	return answers + fmt.Sprintf(" %s %d", impl.ModeName(x.Mode), impl.NarrowestMode(x.Text))
}

// No call changes what a later one yields, or one at the same time.
func TestSegmentsKeepNoState(t *testing.T) {
	t.Parallel()
	source := rand.New(rand.NewSource(225))
	var calls []func() string
	for _, r := range modeTable {
		for _, length := range []int{0, 1, 2, 3, 40, 255, 256} {
			text := r.someText(source, length)
			for _, x := range []impl.Segment{r.segment(text), modeTable[source.Intn(4)].segment(text), {Mode: 5, Text: text}} {
				before := randomBits(source, source.Intn(20))
				list := slices.Concat(before, bitsOf(t, r.written(text)))
				at := int64(len(before) - source.Intn(2))
				calls = append(calls, func() string { return segmentAnswers(list, at, x) }, func() string { return segmentAnswers(with(list, 0, 2), at, x) })
			}
		}
	}
	answersStay(t, source, calls)
}
