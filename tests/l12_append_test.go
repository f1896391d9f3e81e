package tests

import (
	"fmt"
	"maps"
	"math"
	"math/rand"
	"runtime"
	"slices"
	"strconv"
	"strings"
	"testing"

	"loop.example/g00879/impl"
)

// The oracles below do not use what they check: heads are texts of bits that are typed out anew, the
// bits of a text come from the oracles of chapters 9 and 10, and the longest text of a part is sought
// among all beginnings, whose least numbers of bits are found from the front.

func oraclePart(x impl.Part) bool {
	if x.Count < 1 || x.Count > 8 || x.Parity < 0 || x.Parity > 255 || len(x.Text) > 400 {
		return false
	}
	return x.Index >= 0 && x.Index <= x.Count-1
}

// oracleParity counts the bytes that have a bit.
func oracleParity(message string) int64 {
	parity := int64(0)
	for _, power := range []byte{1, 2, 4, 8, 16, 32, 64, 128} {
		count := 0
		for i := range len(message) {
			if message[i]/power%2 == 1 {
				count++
			}
		}
		if count%2 == 1 {
			parity += int64(power)
		}
	}
	return parity
}

// headText are the bits of a head, also of one that no part has.
func headText(index, count, parity int64) string {
	return "101" + fmt.Sprintf("%03b%03b%08b", index, count-1, parity)
}

// partText are the bits of a part, without what follows its segments.
func partText(x impl.Part) string {
	return headText(x.Index, x.Count, x.Parity) + writtenSegments(oracleBest(x.Text))
}

// oracleDecode reads a part from the text of its bits.
func oracleDecode(t *testing.T, f impl.Field, elements []int64) (impl.Part, int64) {
	t.Helper()
	if code := oracleElementsError(f, elements); code != impl.ErrNone {
		return impl.Part{}, code
	}
	text := elementsText(f, elements)
	x := impl.Part{Count: 1}
	isHeaded := strings.HasPrefix(text, "101")
	if isHeaded {
		if len(text) < 17 {
			return impl.Part{}, impl.ErrSyntax
		}
		x.Index, _ = strconv.ParseInt(text[3:6], 2, 64)
		last, _ := strconv.ParseInt(text[6:9], 2, 64)
		x.Count = last + 1
		x.Parity, _ = strconv.ParseInt(text[9:17], 2, 64)
		if x.Index > last {
			return impl.Part{}, impl.ErrSyntax
		}
		text = text[17:]
	}
	segments, code := oracleSegments(t, text)
	if code != impl.ErrNone {
		return impl.Part{}, code
	}
	x.Text = joinedTexts(segments)
	if !isHeaded {
		x.Parity = oracleParity(x.Text)
	}
	return x, impl.ErrNone
}

// leastBits are, for each number of bytes, those of the best segmentation of so many bytes at the
// beginning of a message.
func leastBits(message string) []int64 {
	least := make([]int64, len(message)+1)
	for end := 1; end <= len(message); end++ {
		least[end] = math.MaxInt64
		for _, r := range modeTable {
			for at := end - 1; at >= max(0, end-255) && r.valueOf(message[at]) >= 0; at-- {
				least[end] = min(least[end], least[at]+r.bits(end-at))
			}
		}
	}
	return least
}

// divided is a message, and leastBits of those of its rests that have been asked for.
type divided struct {
	message string
	rests   map[int][]int64
}

func dividedOf(message string) divided { return divided{message, map[int][]int64{}} }

func (d divided) leastFrom(at int) []int64 {
	if d.rests[at] == nil {
		d.rests[at] = leastBits(d.message[at:])
	}
	return d.rests[at]
}

// texts are those of the parts, as many as there would have to be; or none if a byte has no room.
func (d divided) texts(room int) []string {
	var texts []string
	for at := 0; at < len(d.message) || len(texts) == 0; {
		longest := 0
		for size, bits := range d.leastFrom(at) {
			if bits <= int64(room) {
				longest = size
			}
		}
		if longest == 0 && at < len(d.message) {
			return nil
		}
		texts = append(texts, d.message[at:at+longest])
		at += longest
	}
	return texts
}

// count is the number of parts that there would have to be, or 0 if there can be none.
func (d divided) count(f impl.Field, capacity int) int {
	room := capacity * oracleWidth(f)
	if room < 17 || room > 8192 {
		return 0
	}
	return len(d.texts(room - 17))
}

func partsOf(texts []string) []impl.Part {
	parity := oracleParity(strings.Join(texts, ""))
	var list []impl.Part
	for i, text := range texts {
		list = append(list, impl.Part{Index: int64(i), Count: int64(len(texts)), Parity: parity, Text: text})
	}
	return list
}

func (d divided) split(f impl.Field, capacity int64) ([]impl.Part, int64) {
	switch {
	case !oracleField(f):
		return nil, impl.ErrInvalid
	case capacity < 1 || capacity > 1500:
		return nil, impl.ErrRange
	case len(d.message) > 400:
		return nil, impl.ErrLimit
	}
	count := d.count(f, int(capacity))
	if count < 1 || count > 8 {
		return nil, impl.ErrLimit
	}
	return partsOf(d.texts(int(capacity)*oracleWidth(f) - 17)), impl.ErrNone
}

func oraclePartsError(list []impl.Part) int64 {
	if len(list) == 0 || len(list) > 8 {
		return impl.ErrLimit
	}
	if slices.ContainsFunc(list, func(x impl.Part) bool { return !oraclePart(x) }) {
		return impl.ErrInvalid
	}
	for _, x := range list {
		for _, y := range list {
			if x.Count != y.Count || x.Parity != y.Parity {
				return impl.ErrState
			}
		}
	}
	return impl.ErrNone
}

// oracleJoin puts the parts in their order.
func oracleJoin(list []impl.Part) (string, int64) {
	if code := oraclePartsError(list); code != impl.ErrNone {
		return "", code
	}
	inOrder := slices.Clone(list)
	slices.SortStableFunc(inOrder, func(x, y impl.Part) int { return int(x.Index - y.Index) })
	message := ""
	for i, x := range inOrder {
		if x.Index != int64(i) {
			return "", impl.ErrState
		}
		message += x.Text
	}
	switch {
	case int64(len(list)) != list[0].Count:
		return "", impl.ErrState
	case oracleParity(message) != list[0].Parity:
		return "", impl.ErrDamage
	case len(message) > 400:
		return "", impl.ErrLimit
	}
	return message, impl.ErrNone
}

func oracleMissing(list []impl.Part) ([]int64, int64) {
	if code := oraclePartsError(list); code != impl.ErrNone {
		return nil, code
	}
	var missing []int64
	for index := int64(0); index < list[0].Count; index++ {
		if !slices.ContainsFunc(list, func(x impl.Part) bool { return x.Index == index }) {
			missing = append(missing, index)
		}
	}
	return missing, impl.ErrNone
}

// partsText shows parts in messages of failing tests.
func partsText(list []impl.Part) string {
	var out []string
	for _, x := range list {
		out = append(out, fmt.Sprintf("%d of %d with %d %q", x.Index, x.Count, x.Parity, x.Text))
	}
	return strings.Join(out, ", ")
}

func decodesPart(t *testing.T, f impl.Field, elements []int64, want impl.Part) {
	t.Helper()
	if x, code := impl.DecodePart(f, elements); code != impl.ErrNone || x != want {
		t.Fatalf("DecodePart %v %v yields %v and %d, and not %v", f, elements, x, code, want)
	}
	if !impl.IsPart(want) {
		t.Fatalf("DecodePart %v %v yields %v, which is not valid", f, elements, want)
	}
}

func decodesNoPart(t *testing.T, f impl.Field, elements []int64, want int64) {
	t.Helper()
	if x, code := impl.DecodePart(f, elements); code != want || x != (impl.Part{}) {
		t.Fatalf("DecodePart %v %v yields %v and %d instead of the error %d", f, elements, x, code, want)
	}
}

// checkDecode holds DecodePart against the oracle.
func checkDecode(t *testing.T, f impl.Field, elements []int64) int64 {
	t.Helper()
	want, code := oracleDecode(t, f, elements)
	if code == impl.ErrNone {
		decodesPart(t, f, elements, want)
	} else {
		decodesNoPart(t, f, elements, code)
	}
	return code
}

// partLoad is a part, and the text of its bits.
type partLoad struct {
	part    impl.Part
	written string
}

func partLoadOf(x impl.Part) partLoad { return partLoad{x, partText(x)} }

// size is the least capacity that has room.
func (l partLoad) size(f impl.Field) int {
	size := 1
	for size*oracleWidth(f) < len(l.written) {
		size++
	}
	return size
}

// comesBack checks the payload in a capacity that has room, and what is read from it.
func (l partLoad) comesBack(t *testing.T, f impl.Field, capacity int) {
	t.Helper()
	want := cut(t, f, filled(l.written, capacity*oracleWidth(f)))
	elements, code := impl.EncodePart(f, l.part, int64(capacity))
	if code != impl.ErrNone || !slices.Equal(elements, want) {
		t.Fatalf("EncodePart %v %v %d yields %v and %d, and not %v", f, l.part, capacity, elements, code, want)
	}
	decodesPart(t, f, elements, l.part)
}

// hasSize checks the least capacity. It reports whether there is one.
func (l partLoad) hasSize(t *testing.T, f impl.Field) bool {
	t.Helper()
	size := l.size(f)
	if size > 1500 {
		encodesNoPart(t, f, l.part, 1500, impl.ErrLimit)
		return false
	}
	for less := 1; less < 4 && less < size; less++ {
		encodesNoPart(t, f, l.part, int64(size-less), impl.ErrLimit)
	}
	l.comesBack(t, f, size)
	return true
}

func encodesNoPart(t *testing.T, f impl.Field, x impl.Part, capacity int64, want int64) {
	t.Helper()
	if elements, code := impl.EncodePart(f, x, capacity); code != want || len(elements) != 0 {
		t.Fatalf("EncodePart %v %.60v %d yields %d elements and %d instead of the error %d", f, x, capacity, len(elements), code, want)
	}
}

// checkSplit holds SplitMessage against the oracle.
func checkSplit(t *testing.T, f impl.Field, d divided, capacity int64) ([]impl.Part, int64) {
	t.Helper()
	want, code := d.split(f, capacity)
	list, got := impl.SplitMessage(f, d.message, capacity)
	if got != code || !slices.Equal(list, want) {
		t.Fatalf("SplitMessage %v %q %d yields %s and %d, and not %s and %d", f, d.message, capacity, partsText(list), got, partsText(want), code)
	}
	return want, code
}

func splitsNot(t *testing.T, f impl.Field, message string, capacity int64, want int64) {
	t.Helper()
	if list, code := impl.SplitMessage(f, message, capacity); code != want || len(list) != 0 {
		t.Fatalf("SplitMessage %v %.40q %d yields %d parts and %d instead of the error %d", f, message, capacity, len(list), code, want)
	}
}

func joinsParts(t *testing.T, list []impl.Part, want string) {
	t.Helper()
	if message, code := impl.JoinParts(list); code != impl.ErrNone || message != want {
		t.Fatalf("JoinParts %s yields %q and %d, and not %q", partsText(list), message, code, want)
	}
}

func joinsNoParts(t *testing.T, list []impl.Part, want int64) {
	t.Helper()
	if message, code := impl.JoinParts(list); code != want || message != "" {
		t.Fatalf("JoinParts %.500s yields %q and %d instead of the error %d", partsText(list), message, code, want)
	}
}

func misses(t *testing.T, list []impl.Part, want ...int64) {
	t.Helper()
	if missing, code := impl.MissingParts(list); code != impl.ErrNone || !slices.Equal(missing, want) {
		t.Fatalf("MissingParts %.500s yields %v and %d, and not %v", partsText(list), missing, code, want)
	}
}

func missesNot(t *testing.T, list []impl.Part, want int64) {
	t.Helper()
	if missing, code := impl.MissingParts(list); code != want || len(missing) != 0 {
		t.Fatalf("MissingParts %.500s yields %v and %d instead of the error %d", partsText(list), missing, code, want)
	}
}

// checkParts holds both functions that have a list of parts against their oracles.
func checkParts(t *testing.T, list []impl.Part) (join int64, missing int64) {
	t.Helper()
	message, join := oracleJoin(list)
	if join == impl.ErrNone {
		joinsParts(t, list, message)
	} else {
		joinsNoParts(t, list, join)
	}
	indices, missing := oracleMissing(list)
	if missing == impl.ErrNone {
		misses(t, list, indices...)
	} else {
		missesNot(t, list, missing)
	}
	return join, missing
}

func shuffled(source *rand.Rand, list []impl.Part) []impl.Part {
	out := slices.Clone(list)
	source.Shuffle(len(out), func(i, j int) { out[i], out[j] = out[j], out[i] })
	return out
}

// comesBackInAnyOrder checks the parts of a message in their order, in the opposite one and in others,
// and where one of them is left out.
func comesBackInAnyOrder(t *testing.T, source *rand.Rand, list []impl.Part, message string) {
	t.Helper()
	opposite := slices.Clone(list)
	slices.Reverse(opposite)
	for _, order := range [][]impl.Part{list, opposite, shuffled(source, list), shuffled(source, list)} {
		joinsParts(t, order, message)
		misses(t, order)
		for i, x := range order {
			rest := slices.Concat(order[:i], order[i+1:])
			if len(rest) == 0 {
				joinsNoParts(t, rest, impl.ErrLimit)
				missesNot(t, rest, impl.ErrLimit)
				continue
			}
			joinsNoParts(t, rest, impl.ErrState)
			misses(t, rest, x.Index)
		}
	}
}

// hasParts checks the parts of a message in a capacity that leads to some: their payloads, that a
// Text with one byte more has no room, and that the message comes back from what is read.
func (d divided) hasParts(t *testing.T, source *rand.Rand, f impl.Field, capacity int) []impl.Part {
	t.Helper()
	list, code := checkSplit(t, f, d, int64(capacity))
	if code != impl.ErrNone {
		t.Fatalf("%q has no parts in %d elements of %v", d.message, capacity, f)
	}
	var read []impl.Part
	at := 0
	for i, x := range list {
		at += len(x.Text)
		if i < len(list)-1 {
			longer := x
			longer.Text += d.message[at : at+1]
			encodesNoPart(t, f, longer, int64(capacity), impl.ErrLimit)
		}
		partLoadOf(x).comesBack(t, f, capacity)
		elements, _ := impl.EncodePart(f, x, int64(capacity))
		y, _ := impl.DecodePart(f, elements)
		read = append(read, y)
	}
	comesBackInAnyOrder(t, source, read, d.message)
	return list
}

// shortMessages are of one mode and of several, with the empty one.
func shortMessages(source *rand.Rand) []string {
	messages := []string{"", "1", "A", "a", "*", "12", "a1b", "123456abcdefgh", "1234567890123", "AAA aaa", "it's 12:30, well?\n", "\x00", "\x80\xff"}
	for _, r := range modeTable {
		messages = append(messages, r.someText(source, 17), r.someText(source, 60))
	}
	for range 12 {
		messages = append(messages, someRuns(source, 1+source.Intn(80), 1+source.Intn(12)))
	}
	return messages
}

// greatMessages have MaxMessage bytes, or almost.
func greatMessages(source *rand.Rand) []string {
	var messages []string
	for _, r := range modeTable {
		messages = append(messages, r.someText(source, 400))
	}
	return append(messages, someRuns(source, 400, 8), someRuns(source, 400, 60), someRuns(source, 399, 300), strings.Repeat("11AAAaaa****  ", 30)[:400])
}

func TestMaxParts(t *testing.T) {
	if impl.MaxParts != 8 {
		t.Error("MaxParts is", impl.MaxParts)
	}
}

func hasParity(t *testing.T, message string, want int64) {
	t.Helper()
	if parity := impl.MessageParity(message); parity != want || oracleParity(message) != want {
		t.Fatalf("MessageParity %.40q yields %d, and not %d", message, parity, want)
	}
}

// Every byte, and every two bytes; what stands twice is 0.
func TestMessageParityOfBytes(t *testing.T) {
	hasParity(t, "", 0)
	hasParity(t, "ab", 3)
	hasParity(t, "abc", 96)
	hasParity(t, "\xff\x0f", 240)
	for a := range 256 {
		hasParity(t, string([]byte{byte(a)}), int64(a))
		for b := range 256 {
			hasParity(t, string([]byte{byte(a), byte(b)}), int64(a^b))
		}
		hasParity(t, string([]byte{byte(a), 77, byte(a)}), 77)
	}
}

// Strings of all lengths, also those that are no messages, and of no valid UTF-8.
func TestMessageParityOfAnyString(t *testing.T) {
	t.Parallel()
	source := rand.New(rand.NewSource(501))
	for length := range 600 {
		message := modeTable[3].someText(source, length)
		parity := oracleParity(message)
		hasParity(t, message, parity)
		hasParity(t, message+message, 0)
		hasParity(t, message+"\x80", parity^128)
		hasParity(t, "\x01"+message, parity^1)
	}
	for _, odd := range oddTexts {
		hasParity(t, odd, oracleParity(odd))
		hasParity(t, strings.Repeat(odd, 301), oracleParity(odd))
	}
	hasParity(t, strings.Repeat("a", 1<<20), 0)
	hasParity(t, strings.Repeat("a", 1<<20+1), 'a')
}

// All parts with an Index, a Count, a Parity and a length of the Text around the limits.
func TestIsPart(t *testing.T) {
	t.Parallel()
	parities := slices.Concat(extremes, []int64{-2, 0, 1, 2, 127, 128, 254, 255, 256, 257, 511, 512, 1<<16 + 5, 1<<32 + 5, math.MinInt64 + 5})
	numbers := slices.Concat(extremes, []int64{-9, -8, -2, 0, 1, 2, 3, 4, 5, 6, 7, 8, 9, 10, 15, 16, 17, 1<<8 + 1, 1<<16 + 1, 1<<32 + 7, math.MinInt64 + 3})
	texts := []string{"", "1", "é\xff", strings.Repeat("*", 399), strings.Repeat("1", 400), strings.Repeat("1", 401), strings.Repeat("a", 656), strings.Repeat("*", 1<<16)}
	valid := 0
	for _, index := range numbers {
		for _, count := range numbers {
			for _, parity := range parities {
				for _, text := range texts {
					x := impl.Part{Index: index, Count: count, Parity: parity, Text: text}
					if impl.IsPart(x) != oraclePart(x) {
						t.Fatalf("IsPart %.60v yields %v", x, !oraclePart(x))
					}
					if oraclePart(x) {
						valid++
					}
				}
			}
		}
	}
	if want := (8 + 7 + 6 + 5 + 4 + 3 + 2 + 1) * 7 * 5; valid != want {
		t.Error(valid, "parts are valid, and not", want)
	}
}

func TestIsPartByHand(t *testing.T) {
	for _, x := range []struct {
		part impl.Part
		want bool
	}{
		{impl.Part{}, false}, {impl.Part{Count: 1}, true}, {impl.Part{Index: 1, Count: 1}, false}, {impl.Part{Index: 7, Count: 8, Parity: 255}, true},
		{impl.Part{Index: 8, Count: 8}, false}, {impl.Part{Index: 8, Count: 9}, false}, {impl.Part{Count: 9}, false}, {impl.Part{Index: -1, Count: 1}, false},
		{impl.Part{Index: -1}, false}, {impl.Part{Count: 1, Parity: 256}, false}, {impl.Part{Count: 1, Parity: -1}, false},
		// The Parity need not be that of the Text, not even of a single part.
		{impl.Part{Count: 1, Parity: 5, Text: "1"}, true}, {impl.Part{Count: 2, Parity: 5, Text: ""}, true},
	} {
		if impl.IsPart(x.part) != x.want || oraclePart(x.part) != x.want {
			t.Errorf("IsPart %v is not %v", x.part, x.want)
		}
	}
}

// Payloads of the capacities from the least one on, found by hand.
func TestPartsByHand(t *testing.T) {
	for _, x := range []struct {
		size     int64
		part     impl.Part
		payloads [][]int64
	}{
		// 101 001 001 00000011 001 00000010 0001100, and then one bit is left.
		{16, impl.Part{Index: 1, Count: 2, Parity: 3, Text: "12"}, [][]int64{
			{10, 4, 8, 1, 9, 0, 2, 1, 8}, {10, 4, 8, 1, 9, 0, 2, 1, 8, 3}, {10, 4, 8, 1, 9, 0, 2, 1, 8, 3, 4}, {10, 4, 8, 1, 9, 0, 2, 1, 8, 3, 4, 13},
		}},
		// 101 000 000 00000000, and then three bits are left.
		{16, impl.Part{Count: 1}, [][]int64{{10, 0, 0, 0, 0}, {10, 0, 0, 0, 0, 13}, {10, 0, 0, 0, 0, 13, 3}}},
		// 101 111 111 11111111, and then no bit is left.
		{3, impl.Part{Index: 7, Count: 8, Parity: 255}, [][]int64{
			{1, 0, 1, 1, 1, 1, 1, 1, 1, 1, 1, 1, 1, 1, 1, 1, 1}, {1, 0, 1, 1, 1, 1, 1, 1, 1, 1, 1, 1, 1, 1, 1, 1, 1, 0},
			{1, 0, 1, 1, 1, 1, 1, 1, 1, 1, 1, 1, 1, 1, 1, 1, 1, 0, 0}, {1, 0, 1, 1, 1, 1, 1, 1, 1, 1, 1, 1, 1, 1, 1, 1, 1, 0, 0, 0},
			{1, 0, 1, 1, 1, 1, 1, 1, 1, 1, 1, 1, 1, 1, 1, 1, 1, 0, 0, 0, 1},
		}},
		// 101 010 110 10000001 011 00000001 00010, and then three bits are left.
		{31, impl.Part{Index: 2, Count: 7, Parity: 129, Text: "c"}, [][]int64{{10, 11, 4, 0, 11, 0, 1, 1, 0}, {10, 11, 4, 0, 11, 0, 1, 1, 0, 13}}},
		// 101 011 100 01011010 100 00000001 00101010, and then four bits are left.
		{256, impl.Part{Index: 3, Count: 5, Parity: 90, Text: "*"}, [][]int64{{174, 45, 64, 18, 161}, {174, 45, 64, 18, 161, 166}}},
		// 101 000 000 00000000, and then one bit is left.
		{521, impl.Part{Count: 1}, [][]int64{{320, 0}, {320, 0, 105}}},
	} {
		f := fieldOf(t, x.size)
		for _, want := range x.payloads {
			elements, code := impl.EncodePart(f, x.part, int64(len(want)))
			if code != impl.ErrNone || !slices.Equal(elements, want) {
				t.Errorf("EncodePart %v %v %d yields %v and %d", f, x.part, len(want), elements, code)
			}
			decodesPart(t, f, want, x.part)
		}
		encodesNoPart(t, f, x.part, int64(len(x.payloads[0])-1), impl.ErrLimit)
	}
}

// modeTexts are the empty text, and texts of each mode and of several.
func modeTexts(source *rand.Rand) []string {
	texts := []string{"", "12", "a1b", "123456abcdefgh", "\xff\x00", someRuns(source, 40, 9)}
	for _, r := range modeTable {
		texts = append(texts, r.someText(source, 1), r.someText(source, 2+source.Intn(30)))
	}
	return texts
}

// Every Index and Count, with the Parities at both ends and others, and texts of all modes.
func TestPartsOfEveryIndexAndCount(t *testing.T) {
	for _, f := range fieldsOfWidths(t) {
		t.Run(fmt.Sprint("width ", oracleWidth(f)), func(t *testing.T) {
			t.Parallel()
			source := rand.New(rand.NewSource(502))
			for count := int64(1); count <= 8; count++ {
				for index := range count {
					for _, parity := range []int64{0, 1, 127, 128, 254, 255, source.Int63n(256)} {
						for _, text := range modeTexts(source) {
							l := partLoadOf(impl.Part{Index: index, Count: count, Parity: parity, Text: text})
							if !l.hasSize(t, f) {
								t.Fatalf("%v has no payload", l.part)
							}
							size := l.size(f)
							l.comesBack(t, f, size+1+source.Intn(4))
							if source.Intn(20) == 0 {
								l.comesBack(t, f, size+source.Intn(mostElements(f)-size+1))
							}
						}
					}
				}
			}
		})
	}
}

func TestPartsOfEveryParity(t *testing.T) {
	t.Parallel()
	for _, f := range payloadFields(t) {
		for parity := range int64(256) {
			for _, text := range []string{"", "12"} {
				partLoadOf(impl.Part{Index: 5, Count: 6, Parity: parity, Text: text}).hasSize(t, f)
				partLoadOf(impl.Part{Count: 1, Parity: parity, Text: text}).hasSize(t, f)
			}
		}
	}
}

// Every number of bits is left in the last element behind the segments, and behind it there are up to
// three more elements.
func TestBitsLeftBehindAPart(t *testing.T) {
	t.Parallel()
	source := rand.New(rand.NewSource(503))
	var loads []partLoad
	for _, message := range shortMessages(source) {
		for range 2 {
			count := 1 + source.Int63n(8)
			loads = append(loads, partLoadOf(impl.Part{Index: source.Int63n(count), Count: count, Parity: source.Int63n(256), Text: message}))
		}
	}
	for _, f := range payloadFields(t) {
		left := map[int]int{}
		for _, l := range loads {
			l.hasSize(t, f)
			size := l.size(f)
			for capacity := size; capacity <= size+3; capacity++ {
				left[capacity*oracleWidth(f)-len(l.written)]++
				l.comesBack(t, f, capacity)
			}
		}
		for count := range 4 * oracleWidth(f) {
			if left[count] == 0 {
				t.Error("no part in", f, "leaves", count, "bits")
			}
		}
	}
}

// Texts of up to MaxMessage bytes. In a field of few elements some of them have no payload.
func TestPartsWithLongTexts(t *testing.T) {
	t.Parallel()
	source := rand.New(rand.NewSource(504))
	var loads []partLoad
	for _, message := range append(greatMessages(source), someRuns(source, 255, 300), someRuns(source, 256, 20), strings.Repeat("*", 399)) {
		loads = append(loads, partLoadOf(impl.Part{Index: 2, Count: 3, Parity: 77, Text: message}))
	}
	for _, f := range fieldsOfWidths(t) {
		lost := 0
		for _, l := range loads {
			if !l.hasSize(t, f) {
				lost++
				continue
			}
			l.comesBack(t, f, mostElements(f))
		}
		if (lost > 0) != (oracleWidth(f) <= 2) {
			t.Error(lost, "parts have no payload in", f)
		}
	}
}

// In a small field, parts whose payload has just MaxStream elements, or would have one more: without
// a head, there is room for 17 bits more.
func TestPartsUpToMaxStream(t *testing.T) {
	t.Parallel()
	for _, size := range []int64{3, 5, 7} {
		f := fieldOf(t, size)
		room := 1500*oracleWidth(f) - 17
		for bits := room - 3; bits <= room+20; bits++ {
			text := written(t, bits).message
			l := partLoadOf(impl.Part{Count: 1, Parity: 9, Text: text})
			if l.hasSize(t, f) != (bits <= room) {
				t.Error("a part with a text of", bits, "bits has no payload, or one too many, in", f)
			}
			if bits > room && bits <= room+17 && loadOf(text).size(f) > 1500 {
				t.Error("the text of", bits, "bits has no payload of its own")
			}
		}
	}
}

// As many elements as have MaxBits bits, or almost; one more has too many, up to MaxStream.
func TestPartsUpToMaxBits(t *testing.T) {
	t.Parallel()
	source := rand.New(rand.NewSource(505))
	exact := 0
	for _, f := range payloadFields(t) {
		most := mostElements(f)
		if most*oracleWidth(f) == impl.MaxBits {
			exact++
		}
		for _, text := range []string{"", "1", "11a", someRuns(source, 120, 10)} {
			l := partLoadOf(impl.Part{Index: 3, Count: 4, Parity: 200, Text: text})
			d := dividedOf(text)
			for _, capacity := range []int{most - 1, most} {
				l.comesBack(t, f, capacity)
				if list := d.hasParts(t, source, f, capacity); len(list) != 1 {
					t.Error("there are", len(list), "parts")
				}
			}
			for _, capacity := range []int64{int64(most) + 1, int64(most) + 2, (int64(most) + 1500) / 2, 1499, 1500} {
				if capacity > int64(most) && capacity <= 1500 {
					encodesNoPart(t, f, l.part, capacity, impl.ErrLimit)
					splitsNot(t, f, text, capacity, impl.ErrLimit)
				}
			}
			encodesNoPart(t, f, l.part, 1501, impl.ErrRange)
			splitsNot(t, f, text, 1501, impl.ErrRange)
		}
	}
	if exact == 0 {
		t.Error("no capacity has MaxBits bits")
	}
}

// invalidParts have one thing each that no part has.
func invalidParts() []impl.Part {
	broken := []impl.Part{
		{}, {Index: 1, Count: 1}, {Index: 8, Count: 8}, {Index: 2, Count: 2, Text: "12"}, {Index: -1, Count: 1}, {Index: -1, Count: 8}, {Index: -8, Count: 8},
		{Count: 9}, {Index: 8, Count: 9}, {Count: 16}, {Count: -1}, {Index: -2, Count: -1}, {Index: -1, Count: 0},
		{Count: 1, Parity: -1}, {Count: 1, Parity: 256}, {Index: 7, Count: 8, Parity: 257}, {Index: 7, Count: 8, Parity: 512, Text: "1"},
		{Count: 1, Text: strings.Repeat("1", 401)}, {Index: 7, Count: 8, Parity: 255, Text: strings.Repeat("*", 401)}, {Count: 1, Text: strings.Repeat("a", 656)}, {Count: 1, Text: strings.Repeat("A", 1<<16)},
		// They would do without their upper bits.
		{Index: 1 << 32, Count: 1}, {Index: 8 + 1, Count: 2}, {Count: 1<<32 + 1}, {Count: 8 + 2}, {Count: 1<<8 + 2}, {Count: 1, Parity: 1 << 32}, {Index: math.MinInt64 + 1, Count: 2}, {Index: 1, Count: math.MinInt64 + 2}, {Count: 1, Parity: math.MinInt64 + 5},
	}
	for _, extreme := range extremes {
		broken = append(broken, impl.Part{Index: extreme, Count: 1}, impl.Part{Count: extreme}, impl.Part{Index: extreme, Count: extreme}, impl.Part{Count: 1, Parity: extreme}, impl.Part{Index: extreme - 1, Count: extreme})
	}
	return broken
}

// A part that is not valid and a capacity out of range come before everything but the field, and both
// have one error.
func TestEncodePartErrors(t *testing.T) {
	t.Parallel()
	good := []impl.Part{{Count: 1}, {Index: 7, Count: 8, Parity: 255, Text: "12"}, {Count: 1, Text: strings.Repeat("*", 400)}}
	for _, f := range fieldsOfWidths(t) {
		for _, x := range invalidParts() {
			if oraclePart(x) {
				t.Fatal("this part is valid:", x)
			}
			returns(t, "EncodePart", func() {
				for _, capacity := range []int64{1, 5, 200, int64(mostElements(f)), 1500, 0, -1, 1501, math.MaxInt64} {
					encodesNoPart(t, f, x, capacity, impl.ErrRange)
				}
			})
		}
		for _, x := range good {
			for _, capacity := range noCapacities() {
				returns(t, "EncodePart", func() { encodesNoPart(t, f, x, capacity, impl.ErrRange) })
			}
			encodesNoPart(t, f, x, 1, impl.ErrLimit)
		}
	}
}

// A field that is not valid comes before everything else.
func TestPartErrorsOfInvalidFields(t *testing.T) {
	t.Parallel()
	for _, f := range brokenFields() {
		returns(t, "a function of chapter 12", func() {
			for _, capacity := range append([]int64{1, 9, 1000, 1500}, noCapacities()...) {
				for _, x := range []impl.Part{{}, {Count: 1}, {Index: 1, Count: 2, Parity: 3, Text: "12"}, {Count: 9, Text: strings.Repeat("1", 401)}} {
					encodesNoPart(t, f, x, capacity, impl.ErrInvalid)
				}
				for _, message := range []string{"", "12", strings.Repeat("*", 400), strings.Repeat("1", 401)} {
					splitsNot(t, f, message, capacity, impl.ErrInvalid)
				}
			}
			for _, elements := range [][]int64{nil, {}, {0}, {10, 0, 0, 0, 0}, {-1}, {1, 1 << 40}, make([]int64, 1500), make([]int64, 1501)} {
				decodesNoPart(t, f, elements, impl.ErrInvalid)
			}
		})
	}
}

// A payload of a message is a part of its own.
func TestPayloadsWithoutAHead(t *testing.T) {
	t.Parallel()
	source := rand.New(rand.NewSource(506))
	for _, f := range payloadFields(t) {
		for _, message := range append(shortMessages(source), greatMessages(source)[4]) {
			l := loadOf(message)
			size := l.size(f)
			for _, capacity := range []int{size, size + 1, size + 2, max(size, mostElements(f))} {
				if capacity > mostElements(f) {
					continue
				}
				elements, code := impl.EncodePayload(f, message, int64(capacity))
				if code != impl.ErrNone {
					t.Fatalf("%q has no payload", message)
				}
				decodesPart(t, f, elements, impl.Part{Count: 1, Parity: oracleParity(message), Text: message})
			}
		}
	}
}

// Fewer bits than those of a mode: there is no head, and no text.
func TestPayloadsOfOneOrTwoBits(t *testing.T) {
	for _, size := range []int64{3, 5, 7} {
		f := fieldOf(t, size)
		for _, text := range []string{"0", "1", "00", "01", "10", "11"} {
			if len(text)%oracleWidth(f) == 0 {
				decodesPart(t, f, cut(t, f, text), impl.Part{Count: 1})
			}
		}
	}
	decodesNoPart(t, fieldOf(t, 3), []int64{1, 0, 1}, impl.ErrSyntax)
	decodesNoPart(t, fieldOf(t, 5), []int64{2, 2}, impl.ErrSyntax)
	decodesNoPart(t, fieldOf(t, 8), []int64{5}, impl.ErrSyntax)
	decodesNoPart(t, fieldOf(t, 1021), []int64{320}, impl.ErrSyntax)
}

// All heads, with no text and with some. Those whose Index is not less than the Count are no heads.
func TestEveryHead(t *testing.T) {
	t.Parallel()
	one, eight := fieldOf(t, 3), fieldOf(t, 256)
	for index := range int64(8) {
		for count := int64(1); count <= 8; count++ {
			for parity := range int64(256) {
				head := headText(index, count, parity)
				text := modeTable[0].written("12")
				if index >= count {
					decodesNoPart(t, one, cut(t, one, head), impl.ErrSyntax)
					decodesNoPart(t, eight, cut(t, eight, head+text), impl.ErrSyntax)
					continue
				}
				decodesPart(t, one, cut(t, one, head), impl.Part{Index: index, Count: count, Parity: parity})
				decodesPart(t, eight, cut(t, eight, head+text), impl.Part{Index: index, Count: count, Parity: parity, Text: "12"})
			}
		}
	}
}

// Payloads that begin with ModeAppend and end before a head does, and those that end just behind it.
func TestHeadsThatAreCutOff(t *testing.T) {
	t.Parallel()
	source := rand.New(rand.NewSource(507))
	for _, f := range payloadFields(t) {
		width := oracleWidth(f)
		for range 10 {
			count := 1 + source.Int63n(8)
			x := impl.Part{Index: source.Int63n(count), Count: count, Parity: source.Int63n(256)}
			whole := headText(x.Index, x.Count, x.Parity) + "000000000"
			for length := width; length <= 26; length += width {
				elements := cut(t, f, whole[:length])
				switch {
				case length < 3:
					decodesPart(t, f, elements, impl.Part{Count: 1})
				case length < 17:
					decodesNoPart(t, f, elements, impl.ErrSyntax)
				default:
					decodesPart(t, f, elements, x)
				}
			}
		}
		// The Index is not less than the Count, too.
		for length := 3; length < 17; length++ {
			if length%width == 0 {
				decodesNoPart(t, f, cut(t, f, "10111000011111111"[:length]), impl.ErrSyntax)
			}
		}
	}
}

// behindHeads is what may stand behind a head, with the text that is read or an error.
type behindHead struct {
	bits string
	text string
	code int64
}

func behindHeads() []behindHead {
	digits := func(length int) string { return modeTable[0].written(strings.Repeat("1", length)) }
	ones := func(length int) string { return strings.Repeat("1", length) }
	head := headText(1, 2, 3)
	return []behindHead{
		{"", "", 0}, {"0", "", 0}, {"1", "", 0}, {"00", "", 0}, {"01", "", 0}, {"10", "", 0}, {"11", "", 0},
		{"000", "", 0}, {"0001", "", 0}, {"000" + digits(2), "", 0}, {"000111", "", 0}, {"000101", "", 0}, {"000" + head, "", 0},
		{digits(2), "11", 0}, {digits(2) + "10", "11", 0}, {digits(2) + "000", "11", 0}, {digits(2) + "000" + digits(300)[:300], "11", 0}, {digits(1) + digits(2), "111", 0},
		{digits(2) + "000" + head, "11", 0}, {digits(2) + "000111", "11", 0},
		{"001", "", impl.ErrSyntax}, {"100", "", impl.ErrSyntax}, {"110", "", impl.ErrSyntax}, {"111", "", impl.ErrSyntax}, {ones(40), "", impl.ErrSyntax},
		{"00100000000", "", impl.ErrSyntax}, {"001000000011010", "", impl.ErrSyntax}, {digits(2)[:17], "", impl.ErrSyntax}, {digits(1) + "001", "", impl.ErrSyntax},
		// ModeAppend behind the head, and behind a segment.
		{"101", "", impl.ErrSyntax}, {"101000", "", impl.ErrSyntax}, {head, "", impl.ErrSyntax}, {head + digits(2), "", impl.ErrSyntax},
		{digits(2) + "101", "", impl.ErrSyntax}, {digits(2) + head, "", impl.ErrSyntax}, {digits(2) + head + digits(2), "", impl.ErrSyntax},
		// As many bytes as a message may have, and more; and whichever error occurs first.
		{digits(255) + digits(145), ones(400), 0}, {digits(255) + digits(145) + "000" + digits(1), ones(400), 0},
		{digits(255) + digits(146), "", impl.ErrLimit}, {digits(255) + digits(145) + digits(1), "", impl.ErrLimit}, {digits(255) + digits(255), "", impl.ErrLimit},
		{digits(255) + digits(145) + "001", "", impl.ErrSyntax}, {digits(255) + digits(145) + "10100000", "", impl.ErrSyntax}, {digits(255) + digits(145) + digits(1)[:14], "", impl.ErrSyntax},
		{digits(255) + digits(146) + "111", "", impl.ErrLimit}, {"111" + digits(255) + digits(146), "", impl.ErrSyntax}, {digits(255) + "101" + digits(146), "", impl.ErrSyntax},
	}
}

// What is behind a head is read as a message is; without a head in front, too.
func TestBehindHeads(t *testing.T) {
	t.Parallel()
	source := rand.New(rand.NewSource(508))
	one := fieldOf(t, 3)
	seen := map[int]int{}
	for _, f := range append(fieldsOfWidths(t), one) {
		for _, b := range behindHeads() {
			count := 1 + source.Int63n(8)
			x := impl.Part{Index: source.Int63n(count), Count: count, Parity: source.Int63n(256), Text: b.text}
			text := headText(x.Index, x.Count, x.Parity) + b.bits
			if len(text)%oracleWidth(f) != 0 || len(text) > 1500*oracleWidth(f) {
				continue
			}
			seen[oracleWidth(f)]++
			elements := cut(t, f, text)
			if code := checkDecode(t, f, elements); code != b.code {
				t.Errorf("the oracle yields %d for %s in %v", code, text, f)
			}
			if b.code == impl.ErrNone {
				decodesPart(t, f, elements, x)
			}
			// No payload of a message begins with a head.
			readsNothing(t, f, elements, impl.ErrSyntax)
		}
	}
	for width := 1; width <= 9; width++ {
		if seen[width] < 2 {
			t.Error("only", seen[width], "texts can be cut into elements of", width, "bits")
		}
	}
}

// The same, with zeros at the end where the bits are no multiple of a width, against the oracle. An
// Index that is not less than the Count comes before all that is read.
func TestBehindHeadsInAllFields(t *testing.T) {
	t.Parallel()
	source := rand.New(rand.NewSource(509))
	for _, f := range payloadFields(t) {
		for _, b := range behindHeads() {
			count := 1 + source.Int63n(8)
			text := headText(source.Int63n(count), count, source.Int63n(256)) + b.bits
			if len(text) > 1400*oracleWidth(f) {
				continue
			}
			checkDecode(t, f, cut(t, f, text))
			index, count := 7-source.Int63n(4), 1+source.Int63n(4)
			wrong := headText(index, count, source.Int63n(256)) + b.bits
			decodesNoPart(t, f, cut(t, f, wrong), impl.ErrSyntax)
			if b.bits != "" {
				// Without a head in front.
				checkDecode(t, f, cut(t, f, b.bits))
			}
		}
	}
}

// Texts that join to MaxMessage bytes, and to one more.
func TestPartsUpToMaxMessage(t *testing.T) {
	t.Parallel()
	source := rand.New(rand.NewSource(510))
	for _, f := range fieldsOfWidths(t)[2:] {
		for range 10 {
			list := longTexts(source, 400)
			x := impl.Part{Index: 2, Count: 5, Parity: source.Int63n(256), Text: joinedTexts(list)}
			text := headText(x.Index, x.Count, x.Parity) + writtenSegments(list)
			decodesPart(t, f, cut(t, f, text+"000"), x)
			for _, r := range modeTable {
				decodesNoPart(t, f, cut(t, f, text+r.written(r.someText(source, 1))), impl.ErrLimit)
			}
			decodesNoPart(t, f, cut(t, f, text+"001"), impl.ErrSyntax)
			alone := impl.Part{Count: 1, Parity: oracleParity(x.Text), Text: x.Text}
			decodesPart(t, f, cut(t, f, writtenSegments(list)+"000"), alone)
			decodesNoPart(t, f, cut(t, f, writtenSegments(list)+modeTable[0].written("1")), impl.ErrLimit)
		}
	}
}

// Segments are read as they are written, also where they are not the best ones.
func TestPartsOfOtherSegmentations(t *testing.T) {
	t.Parallel()
	source := rand.New(rand.NewSource(511))
	others := 0
	for _, f := range fieldsOfWidths(t) {
		for range 40 {
			message := someRuns(source, 1+source.Intn(30), 6)
			list := someDivision(source, message, 1+source.Intn(6))
			if !slices.Equal(list, oracleBest(message)) {
				others++
			}
			x := impl.Part{Index: source.Int63n(3), Count: 3, Parity: source.Int63n(256), Text: message}
			decodesPart(t, f, cut(t, f, headText(x.Index, x.Count, x.Parity)+writtenSegments(list)+"000"), x)
		}
	}
	if others < 200 {
		t.Error("only", others, "segmentations are not the best ones")
	}
}

// Any elements, payloads of parts with changed bits, and any bits behind ModeAppend, against the oracle.
func TestDecodePartOfAnyElements(t *testing.T) {
	t.Parallel()
	source := rand.New(rand.NewSource(512))
	for _, f := range payloadFields(t) {
		seen := map[int64]int{}
		for range 60 {
			seen[checkDecode(t, f, randomList(f, source, 1+source.Int63n(60)))]++
			seen[checkDecode(t, f, cut(t, f, "101"+oracleText(randomBits(source, source.Intn(40)))))]++
			list := someSegments(source, source.Intn(5), 1+source.Intn(12))
			count := 1 + source.Int63n(8)
			text := []byte(headText(source.Int63n(count), count, source.Int63n(256)) + writtenSegments(list) + []string{"", "000", "0001101"}[source.Intn(3)])
			for range source.Intn(3) {
				text[source.Intn(len(text))] = "01"[source.Intn(2)]
			}
			seen[checkDecode(t, f, cut(t, f, string(text)))]++
			if long := headText(0, 1, 0) + writtenSegments(longTexts(source, 380+source.Intn(40))); len(long) <= mostElements(f)*oracleWidth(f) && source.Intn(2) == 0 {
				seen[checkDecode(t, f, cut(t, f, long))]++
			}
		}
		if seen[impl.ErrNone] < 20 || seen[impl.ErrSyntax] < 20 || oracleWidth(f) > 2 && seen[impl.ErrLimit] < 2 {
			t.Error("in", f, "the codes are", seen)
		}
	}
}

// The errors of elements in their order, also with a head in front, and with a wrong one, or with less
// than one.
func TestElementErrorsOfParts(t *testing.T) {
	t.Parallel()
	source := rand.New(rand.NewSource(513))
	for _, f := range payloadFields(t) {
		size, limit, most := oracleSize(f), int64(1)<<oracleWidth(f), mostElements(f)
		decodesNoPart(t, f, nil, impl.ErrRange)
		decodesNoPart(t, f, []int64{}, impl.ErrRange)
		for _, front := range []string{"", headText(1, 2, 3), headText(2, 2, 3), "101", "111"} {
			begin := cut(t, f, front)
			for _, count := range []int{30, 60, most, most + 1, 1500, 1501, 2000} {
				elements := append(slices.Clone(begin), make([]int64, count-len(begin))...)
				if checkDecode(t, f, elements) == impl.ErrNone && (count > most || front == "111") {
					t.Error("no error of", count, "elements behind", front, "in", f)
				}
				for _, at := range []int{len(begin), count - 1} {
					for _, none := range []int64{-1, size, size + limit, extremes[source.Intn(len(extremes))]} {
						broken := with(elements, at, none)
						decodesNoPart(t, f, broken, impl.ErrRange)
						decodesNoPart(t, f, with(broken, 20, size-1), impl.ErrRange)
					}
					if size > limit && count <= 1500 {
						want := int64(impl.ErrSyntax)
						if count > most {
							want = impl.ErrLimit
						}
						decodesNoPart(t, f, with(elements, at, limit), want)
						decodesNoPart(t, f, with(elements, at, size-1), want)
					}
				}
			}
		}
	}
}

// An element that is too great comes before all that is read, also before a text that is too long and
// behind ModeEnd.
func TestElementsOfPartsThatAreTooGreat(t *testing.T) {
	t.Parallel()
	long := modeTable[0].written(strings.Repeat("1", 255))
	for _, size := range []int64{11, 13, 17, 31, 37, 61, 67, 127, 131, 251, 257, 509, 521, 1021} {
		f := fieldOf(t, size)
		limit := int64(1) << oracleWidth(f)
		for _, text := range []string{headText(0, 1, 0), headText(1, 2, 3) + "000", headText(1, 2, 3) + long, headText(1, 2, 3) + long + "000", headText(1, 2, 3) + long + long} {
			elements := cut(t, f, text)
			checkDecode(t, f, elements)
			decodesNoPart(t, f, append(slices.Clone(elements), limit), impl.ErrSyntax)
			decodesNoPart(t, f, append(slices.Clone(elements), 0, 0, 0, size-1, 0), impl.ErrSyntax)
			decodesNoPart(t, f, append([]int64{limit}, elements...), impl.ErrSyntax)
		}
	}
}

// Parts found by hand: the example of digits is that of a capacity with 36 bits, 8 of which are left
// behind the head of the part and that of the segment.
func TestSplitMessageByHand(t *testing.T) {
	f := fieldOf(t, 16)
	one := func(texts ...string) []impl.Part { return partsOf(texts) }
	for _, x := range []struct {
		message  string
		capacity int64
		want     []impl.Part
	}{
		{"1234567890123", 9, one("12", "34", "56", "78", "90", "12", "3")},
		{"1234567890123456", 9, one("12", "34", "56", "78", "90", "12", "34", "56")},
		{"12345678901234567", 9, nil},
		// 10 bits for three digits, and one left over; 14 for four.
		{"1234567890123", 10, one("123", "456", "789", "012", "3")},
		{"1234567890123", 11, one("1234", "5678", "9012", "3")},
		{"1234567890123", 18, one("1234567890123")}, {"1234567890123", 17, one("123456789012", "3")},
		{"", 5, one("")}, {"", 4, nil}, {"", 1500, one("")},
		// 15 bits for one digit, 16 for a small letter, 17 for a letter, 19 for another byte.
		{"1", 8, one("1")}, {"1", 7, nil}, {"a", 9, one("a")}, {"a", 8, nil}, {"*", 9, one("*")}, {"*", 8, nil}, {"1*", 8, nil}, {"*1", 8, nil}, {"1a", 8, nil}, {"1*", 9, one("1", "*")},
		{"*\xff*", 11, one("*\xff", "*")}, {"a1b", 12, one("a1", "b")}, {"a1b", 13, one("a1b")}, {"aaaa1111", 13, one("aaaa", "1111")},
	} {
		want := int64(impl.ErrNone)
		if x.want == nil {
			want = impl.ErrLimit
		}
		list, code := impl.SplitMessage(f, x.message, x.capacity)
		if code != want || !slices.Equal(list, x.want) {
			t.Errorf("SplitMessage %q %d yields %s and %d, and not %s", x.message, x.capacity, partsText(list), code, partsText(x.want))
		}
		checkSplit(t, f, dividedOf(x.message), x.capacity)
	}
	list, _ := impl.SplitMessage(f, "ab1", 9)
	if !slices.Equal(list, []impl.Part{{Index: 0, Count: 3, Parity: 50, Text: "a"}, {Index: 1, Count: 3, Parity: 50, Text: "b"}, {Index: 2, Count: 3, Parity: 50, Text: "1"}}) {
		t.Errorf("SplitMessage of ab1 yields %v", list)
	}
}

// Both oracles of the least numbers of bits agree, and a longer text has no fewer bits.
func TestLeastBits(t *testing.T) {
	t.Parallel()
	source := rand.New(rand.NewSource(514))
	for _, message := range append(shortMessages(source), someRuns(source, 270, 20), strings.Repeat("1", 270)) {
		least := leastBits(message)
		for size := 0; size <= len(message); size += 1 + len(message)/90 {
			if bits := lengthOf(oracleBest(message[:size])); bits != least[size] {
				t.Fatalf("the best segmentation of %q has %d bits, and not %d", message[:size], bits, least[size])
			}
		}
		if !slices.IsSorted(least) {
			t.Fatalf("a longer text has fewer bits among %v", least)
		}
	}
}

// Short messages in every field, in all the capacities in which they have more than one part, and in
// some more. The payloads of all their parts are checked where they are 1, 2, 3, 7 or 8.
func TestMessagesComeBackFromParts(t *testing.T) {
	for _, f := range payloadFields(t) {
		t.Run(fmt.Sprint(f), func(t *testing.T) {
			t.Parallel()
			source := rand.New(rand.NewSource(515))
			counts := map[int]int{}
			for _, message := range shortMessages(source) {
				d := dividedOf(message)
				for capacity, single := 1, 0; single < 3; capacity++ {
					list, code := checkSplit(t, f, d, int64(capacity))
					if code == impl.ErrNone && len(list) == 1 {
						single++
					}
					if slices.Contains([]int{1, 2, 3, 7, 8}, len(list)) && (counts[len(list)] < 30 || source.Intn(10) == 0) {
						d.hasParts(t, source, f, capacity)
					}
					counts[len(list)]++
				}
				d.hasParts(t, source, f, mostElements(f))
			}
			for _, count := range []int{0, 1, 2, 3, 7, 8} {
				if counts[count] < 3 {
					t.Error("only", counts[count], "messages have", count, "parts")
				}
			}
		})
	}
}

// Messages of up to MaxMessage bytes, in the least and in the greatest capacity that lead to each number
// of parts, up to one more than there may be.
func TestGreatMessagesComeBackFromParts(t *testing.T) {
	source := rand.New(rand.NewSource(516))
	for i, message := range greatMessages(source) {
		t.Run(fmt.Sprint("message ", i), func(t *testing.T) {
			t.Parallel()
			source := rand.New(rand.NewSource(517))
			d := dividedOf(message)
			for _, f := range fieldsOfWidths(t) {
				ends := d.ends(f)
				for _, count := range []int{1, 2, 3, 7, 8, 9} {
					if ends[count] == nil && oracleWidth(f) > 2 {
						t.Errorf("%q has nowhere %d parts in %v", message, count, f)
					}
				}
				for _, count := range slices.Sorted(maps.Keys(ends)) {
					for _, capacity := range ends[count] {
						if list, code := checkSplit(t, f, d, int64(capacity)); code == impl.ErrNone && len(list) != count || (code == impl.ErrNone) != (count <= 8) {
							t.Errorf("%q has %d parts in %d elements of %v, and not %d", message, len(list), capacity, f, count)
						}
					}
					if slices.Contains([]int{1, 2, 3, 7, 8}, count) {
						d.hasParts(t, source, f, ends[count][source.Intn(2)])
					}
				}
			}
		})
	}
}

// ends are the least and the greatest capacity that lead to each number of parts of 1 to 9.
func (d divided) ends(f impl.Field) map[int][]int {
	ends := map[int][]int{}
	for capacity := 1; capacity <= mostElements(f); capacity++ {
		count := d.count(f, capacity)
		switch {
		case count < 1 || count > 9:
		case ends[count] == nil:
			ends[count] = []int{capacity, capacity}
		default:
			ends[count][1] = capacity
		}
	}
	return ends
}

// A capacity out of range comes before a message that is none.
func TestSplitMessageErrors(t *testing.T) {
	t.Parallel()
	for _, f := range payloadFields(t) {
		messages := []string{"", "1", "123456abcdefgh", strings.Repeat("*", 400), strings.Repeat("*", 401), strings.Repeat("1", 5000)}
		for _, message := range messages {
			for _, capacity := range noCapacities() {
				returns(t, "SplitMessage", func() { splitsNot(t, f, message, capacity, impl.ErrRange) })
			}
		}
		for _, length := range []int{401, 402, 512, 656, 1000, 1 << 16} {
			for _, capacity := range []int64{1, 2, 17, 500, int64(mostElements(f)), 1500} {
				splitsNot(t, f, strings.Repeat("1", length), capacity, impl.ErrLimit)
			}
		}
		// There is no room for a head, or for none but it.
		for capacity := int64(1); capacity*int64(oracleWidth(f)) < 40; capacity++ {
			room := capacity * int64(oracleWidth(f))
			for _, message := range messages[:5] {
				if room < 17 || room < 32 && message != "" {
					splitsNot(t, f, message, capacity, impl.ErrLimit)
				}
			}
			if room >= 17 {
				list, code := impl.SplitMessage(f, "", capacity)
				if code != impl.ErrNone || !slices.Equal(list, []impl.Part{{Count: 1}}) {
					t.Errorf("SplitMessage %v of the empty message in %d elements yields %v and %d", f, capacity, list, code)
				}
			}
		}
	}
}

// One byte that has no room, at the beginning, in the middle and at the end of a message.
func TestBytesWithoutRoom(t *testing.T) {
	t.Parallel()
	for _, f := range payloadFields(t) {
		for _, x := range []struct {
			few, many string
			bits      int
		}{{"1", "a", 33}, {"1", "A", 34}, {"a", "A", 34}, {"1", "*", 36}, {"a", "\xff", 36}, {"A", "*", 36}} {
			capacity := (x.bits - 1) / oracleWidth(f)
			least := map[string]int{"1": 32, "a": 33, "A": 34}[x.few]
			if capacity*oracleWidth(f) < least {
				continue
			}
			for _, message := range []string{x.many, x.many + x.few, x.few + x.many, x.few + x.many + x.few} {
				splitsNot(t, f, message, int64(capacity), impl.ErrLimit)
				checkSplit(t, f, dividedOf(message), int64(capacity))
				checkSplit(t, f, dividedOf(message), int64(capacity+1))
			}
			dividedOf(x.few+x.few).hasParts(t, rand.New(rand.NewSource(518)), f, capacity)
		}
	}
}

// Just MaxParts parts, and one byte more.
func TestMaxPartsAndOneMore(t *testing.T) {
	t.Parallel()
	source := rand.New(rand.NewSource(519))
	for _, f := range fieldsOfWidths(t) {
		for _, r := range modeTable {
			for _, capacity := range []int{36/oracleWidth(f) + 1, 50/oracleWidth(f) + 1, 90/oracleWidth(f) + 1} {
				text := r.someText(source, 1)
				for dividedOf(text).count(f, capacity) <= 8 {
					text += r.someText(source, 1)
				}
				most := dividedOf(text[:len(text)-1])
				if list := most.hasParts(t, source, f, capacity); len(list) != 8 {
					t.Fatalf("%q has %d parts", most.message, len(list))
				}
				splitsNot(t, f, text, int64(capacity), impl.ErrLimit)
			}
		}
	}
}

// Any messages, capacities and fields, against the oracle.
func TestSplitMessageOfAnything(t *testing.T) {
	t.Parallel()
	source := rand.New(rand.NewSource(520))
	fields := payloadFields(t)
	seen := map[string]int{}
	for range 3000 {
		f := fields[source.Intn(len(fields))]
		d := dividedOf(someRuns(source, source.Intn(100), 1+source.Intn(20)))
		room := 10 + source.Intn(300)
		list, code := checkSplit(t, f, d, int64(1+room/oracleWidth(f)))
		seen[fmt.Sprint(code, len(list))]++
		if code == impl.ErrNone {
			comesBackInAnyOrder(t, source, list, d.message)
		}
	}
	for count := 1; count <= 8; count++ {
		if seen[fmt.Sprint(impl.ErrNone, count)] < 20 || seen[fmt.Sprint(impl.ErrLimit, 0)] < 20 {
			t.Error("the codes and numbers of parts are", seen)
		}
	}
}

// dividedAnywhere are so many parts of a message that is cut at any places, so that some texts may be
// empty.
func dividedAnywhere(source *rand.Rand, message string, count int) []impl.Part {
	places := []int{0, len(message)}
	for range count - 1 {
		places = append(places, source.Intn(len(message)+1))
	}
	slices.Sort(places)
	var texts []string
	for i := range count {
		texts = append(texts, message[places[i]:places[i+1]])
	}
	return partsOf(texts)
}

// Parts that no SplitMessage has made, in all numbers, also with empty texts.
func TestJoinPartsOfAnyTexts(t *testing.T) {
	t.Parallel()
	source := rand.New(rand.NewSource(521))
	joinsParts(t, []impl.Part{{Count: 1}}, "")
	joinsParts(t, slices.Repeat([]impl.Part{{Count: 1, Parity: 3, Text: "12"}}, 1), "12")
	joinsParts(t, []impl.Part{{Index: 1, Count: 2, Text: "12"}, {Index: 0, Count: 2, Text: "12"}}, "1212")
	joinsParts(t, partsOf(make([]string, 8)), "")
	for _, length := range []int{0, 1, 2, 10, 100, 399, 400} {
		for count := 1; count <= 8; count++ {
			for range 5 {
				message := someRuns(source, length, 1+source.Intn(40))
				comesBackInAnyOrder(t, source, dividedAnywhere(source, message, count), message)
			}
		}
	}
}

func permutations(count int, visit func(order []int)) {
	order := make([]int, count)
	for i := range order {
		order[i] = i
	}
	var from func(at int)
	from = func(at int) {
		if at == count {
			visit(order)
			return
		}
		for i := at; i < count; i++ {
			order[at], order[i] = order[i], order[at]
			from(at + 1)
			order[at], order[i] = order[i], order[at]
		}
	}
	from(0)
}

// All orders of all numbers of parts.
func TestEveryOrderOfParts(t *testing.T) {
	t.Parallel()
	source := rand.New(rand.NewSource(522))
	for count := 1; count <= 8; count++ {
		message := someRuns(source, 20, 3)
		list := dividedAnywhere(source, message, count)
		orders := 0
		permutations(count, func(order []int) {
			var parts []impl.Part
			for _, i := range order {
				parts = append(parts, list[i])
			}
			joinsParts(t, parts, message)
			orders++
		})
		if want := []int{1, 2, 6, 24, 120, 720, 5040, 40320}[count-1]; orders != want {
			t.Error(orders, "orders of", count, "parts")
		}
	}
}

// Every choice among all numbers of parts: those that are left out are missing.
func TestEveryChoiceOfParts(t *testing.T) {
	t.Parallel()
	source := rand.New(rand.NewSource(523))
	for count := 1; count <= 8; count++ {
		message := someRuns(source, 30, 5)
		list := dividedAnywhere(source, message, count)
		for choice := range 1 << count {
			var some []impl.Part
			var left []int64
			for i, x := range list {
				if choice>>i&1 == 1 {
					some = append(some, x)
				} else {
					left = append(left, int64(i))
				}
			}
			some = shuffled(source, some)
			switch {
			case len(some) == 0:
				missesNot(t, some, impl.ErrLimit)
				joinsNoParts(t, some, impl.ErrLimit)
			case len(left) == 0:
				misses(t, some)
				joinsParts(t, some, message)
			default:
				misses(t, some, left...)
				joinsNoParts(t, some, impl.ErrState)
			}
		}
	}
}

// Parts that are there twice, with the same text or with another one, beside all others or some.
func TestRepeatedParts(t *testing.T) {
	t.Parallel()
	source := rand.New(rand.NewSource(524))
	for count := 1; count <= 8; count++ {
		message := someRuns(source, 24, 5)
		list := dividedAnywhere(source, message, count)
		for i, x := range list {
			other := x
			other.Text += "7"
			for _, again := range []impl.Part{x, other} {
				more := shuffled(source, append(slices.Clone(list), again))
				if len(more) > 8 {
					joinsNoParts(t, more, impl.ErrLimit)
					missesNot(t, more, impl.ErrLimit)
					continue
				}
				joinsNoParts(t, more, impl.ErrState)
				misses(t, more)
			}
			if count == 1 {
				continue
			}
			// As many parts as there have to be, but one is there twice and another one is not.
			lost := (i + 1 + source.Intn(count-1)) % count
			for _, again := range []impl.Part{x, other} {
				same := slices.Clone(list)
				same[lost] = again
				joinsNoParts(t, same, impl.ErrState)
				misses(t, same, int64(lost))
			}
		}
		misses(t, slices.Repeat(list[:1], 8), numbersFrom(1, int64(count))...)
		misses(t, slices.Repeat(list[count-1:], 8), numbersFrom(0, int64(count)-1)...)
	}
	joinsNoParts(t, slices.Repeat([]impl.Part{{Count: 1}}, 2), impl.ErrState)
	joinsNoParts(t, slices.Repeat([]impl.Part{{Count: 8}}, 8), impl.ErrState)
	joinsNoParts(t, slices.Repeat([]impl.Part{{Index: 7, Count: 8}}, 8), impl.ErrState)
}

// numbersFrom are the numbers from one up to, but without, another.
func numbersFrom(first, end int64) []int64 {
	var list []int64
	for n := first; n < end; n++ {
		list = append(list, n)
	}
	return list
}

func TestNumbersOfParts(t *testing.T) {
	for _, none := range [][]impl.Part{nil, {}, make([]impl.Part, 0, 5)} {
		joinsNoParts(t, none, impl.ErrLimit)
		missesNot(t, none, impl.ErrLimit)
	}
	for _, count := range []int{9, 10, 16, 17, 256, 257, 264, 1<<16 + 3} {
		for _, x := range append([]impl.Part{{}, {Count: 1}, {Count: 8}, {Count: 9}}, invalidParts()[:10]...) {
			joinsNoParts(t, slices.Repeat([]impl.Part{x}, count), impl.ErrLimit)
			missesNot(t, slices.Repeat([]impl.Part{x}, count), impl.ErrLimit)
		}
	}
	joinsParts(t, partsOf([]string{"1", "2", "3", "4", "5", "6", "7", "8"}), "12345678")
	misses(t, partsOf([]string{"1", "2", "3", "4", "5", "6", "7", "8"}))
}

// One part that is not valid, at every place, also where the parts are of different messages.
func TestPartsThatAreNotValid(t *testing.T) {
	t.Parallel()
	source := rand.New(rand.NewSource(525))
	for _, broken := range invalidParts() {
		returns(t, "a function of chapter 12", func() {
			joinsNoParts(t, []impl.Part{broken}, impl.ErrInvalid)
			missesNot(t, []impl.Part{broken}, impl.ErrInvalid)
			for count := 1; count <= 8; count++ {
				list := dividedAnywhere(source, someRuns(source, 20, 5), count)
				other := slices.Clone(list)
				other[count-1].Parity ^= 1
				other[0].Text = strings.Repeat("1", 400)
				for at := range count {
					for _, parts := range [][]impl.Part{list, other, slices.Repeat(list[:1], count)} {
						parts = slices.Clone(parts)
						parts[at] = broken
						joinsNoParts(t, parts, impl.ErrInvalid)
						missesNot(t, parts, impl.ErrInvalid)
					}
				}
			}
		})
	}
}

// One part has another Count or another Parity, at every place.
func TestPartsOfDifferentMessages(t *testing.T) {
	t.Parallel()
	source := rand.New(rand.NewSource(526))
	for count := 2; count <= 8; count++ {
		for range 20 {
			list := dividedAnywhere(source, someRuns(source, 20, 5), count)
			for at := range list {
				for other := int64(1); other <= 8; other++ {
					if other <= list[at].Index || other == int64(count) {
						continue
					}
					parts := slices.Clone(list)
					parts[at].Count = other
					joinsNoParts(t, parts, impl.ErrState)
					missesNot(t, parts, impl.ErrState)
				}
				for _, change := range []int64{1, 128, 255, 1 + source.Int63n(255)} {
					parts := slices.Clone(list)
					parts[at].Parity ^= change
					joinsNoParts(t, parts, impl.ErrState)
					missesNot(t, parts, impl.ErrState)
					// In another order, with one part less, with one twice and with one text changed, too.
					parts = shuffled(source, parts)
					joinsNoParts(t, parts, impl.ErrState)
					missesNot(t, parts, impl.ErrState)
					parts[0].Text += "9"
					missesNot(t, parts, impl.ErrState)
					joinsNoParts(t, parts, impl.ErrState)
				}
			}
		}
	}
	for _, parts := range [][]impl.Part{{{Count: 1}, {Count: 2}}, {{Count: 2}, {Count: 1}}, {{Count: 2}, {Index: 1, Count: 3}}, {{Index: 1, Count: 2}, {Count: 3}}, {{Count: 1}, {Count: 1, Parity: 1}}, {{Count: 2, Parity: 1}, {Index: 1, Count: 2}}} {
		joinsNoParts(t, parts, impl.ErrState)
		missesNot(t, parts, impl.ErrState)
	}
}

// All parts have the same wrong parity, or one byte of a text has changed.
func TestPartsWithAnotherParity(t *testing.T) {
	t.Parallel()
	source := rand.New(rand.NewSource(527))
	for count := 1; count <= 8; count++ {
		message := someRuns(source, 40, 5)
		list := dividedAnywhere(source, message, count)
		for change := int64(1); change < 256; change++ {
			parts := shuffled(source, list)
			for i := range parts {
				parts[i].Parity ^= change
			}
			joinsNoParts(t, parts, impl.ErrDamage)
			misses(t, parts)
		}
		for at := range message {
			parts, place := slices.Clone(list), at
			for i, x := range parts {
				if place >= 0 && place < len(x.Text) {
					text := []byte(x.Text)
					text[place] ^= byte(1 + source.Intn(255))
					parts[i].Text = string(text)
				}
				place -= len(x.Text)
			}
			joinsNoParts(t, parts, impl.ErrDamage)
			misses(t, parts)
		}
	}
	joinsNoParts(t, []impl.Part{{Count: 1, Parity: 1}}, impl.ErrDamage)
	joinsNoParts(t, []impl.Part{{Count: 1, Text: "1"}}, impl.ErrDamage)
}

// Texts that join to as many bytes as a message may have, and to more. A wrong parity comes first.
func TestJoinPartsUpToMaxMessage(t *testing.T) {
	t.Parallel()
	source := rand.New(rand.NewSource(528))
	for count := 1; count <= 8; count++ {
		for _, total := range []int{398, 399, 400, 401, 402, 512, 600, 656, 800, 400 * count} {
			message := modeTable[3].someText(source, total)
			list := dividedAnywhere(source, message, count)
			for slices.ContainsFunc(list, func(x impl.Part) bool { return len(x.Text) > 400 }) && total <= 360*count {
				list = dividedAnywhere(source, message, count)
			}
			wrong := slices.Clone(list)
			for i := range wrong {
				wrong[i].Parity ^= 1 << source.Intn(8)
			}
			for i := range wrong {
				wrong[i].Parity = wrong[0].Parity
			}
			switch {
			case slices.ContainsFunc(list, func(x impl.Part) bool { return len(x.Text) > 400 }):
				joinsNoParts(t, list, impl.ErrInvalid)
			case total > 400:
				joinsNoParts(t, list, impl.ErrLimit)
				joinsNoParts(t, wrong, impl.ErrDamage)
			default:
				joinsParts(t, list, message)
				joinsNoParts(t, wrong, impl.ErrDamage)
			}
			checkParts(t, list)
			checkParts(t, wrong)
		}
		full := partsOf(slices.Repeat([]string{strings.Repeat("*", 400)}, count))
		if count > 1 {
			joinsNoParts(t, full, impl.ErrLimit)
			joinsNoParts(t, full[1:], impl.ErrState)
			misses(t, full)
			misses(t, full[1:], 0)
		}
	}
}

// Several things that are wrong at once, against the oracles.
func TestPartsWithSeveralErrors(t *testing.T) {
	t.Parallel()
	source := rand.New(rand.NewSource(529))
	invalid := invalidParts()
	joined, missing := map[int64]int{}, map[int64]int{}
	for range 40000 {
		list := dividedAnywhere(source, someRuns(source, source.Intn(30), 5), 1+source.Intn(8))
		for range source.Intn(4) {
			if len(list) == 0 {
				break
			}
			at := source.Intn(len(list))
			switch source.Intn(9) {
			case 0:
				list = slices.Delete(list, at, at+1)
			case 1:
				list = append(list, list[at])
			case 2:
				list = append(list, dividedAnywhere(source, "abc", 3)...)
			case 3:
				list[at].Count = 1 + source.Int63n(8)
			case 4:
				list[at].Parity = source.Int63n(256)
			case 5:
				list[at] = invalid[source.Intn(len(invalid))]
			case 6:
				list[at].Text += "5"
			case 7:
				list[at].Text += strings.Repeat("*", 380)
			case 8:
				list[at].Index = source.Int63n(8)
			}
		}
		first, second := checkParts(t, shuffled(source, list))
		joined[first]++
		missing[second]++
	}
	for _, code := range []int64{impl.ErrNone, impl.ErrLimit, impl.ErrInvalid, impl.ErrState, impl.ErrDamage} {
		if joined[code] < 500 || code != impl.ErrDamage && missing[code] < 500 {
			t.Error("the codes are", joined, missing)
		}
	}
}

// guardedParts is an argument with spare capacity, and a record of both.
type guardedParts struct{ list, whole, copy []impl.Part }

func guardParts(list []impl.Part) guardedParts {
	whole := slices.Concat(list, slices.Repeat([]impl.Part{{Index: filler, Count: filler, Parity: filler, Text: "behind"}}, 8))
	return guardedParts{list: whole[:len(list)], whole: whole, copy: slices.Clone(whole)}
}

func (g guardedParts) check(t *testing.T) {
	t.Helper()
	if !slices.Equal(g.whole, g.copy) {
		t.Fatal("an argument or the memory behind it has changed")
	}
}

// No list of parts is changed, nor the memory behind it. Results are new memory: no message is a part of
// a text of the argument.
func TestPartListsStay(t *testing.T) {
	t.Parallel()
	source := rand.New(rand.NewSource(530))
	lists := [][]impl.Part{nil, {}, {{}}, invalidParts()[:5], make([]impl.Part, 9), {{Count: 1, Text: "1"}}, {{Index: 1, Count: 2}, {Index: 1, Count: 2}}}
	for count := 1; count <= 8; count++ {
		for _, message := range []string{"", "1", someRuns(source, 30, 5), someRuns(source, 400, 30)} {
			list := shuffled(source, dividedAnywhere(source, message, count))
			lists = append(lists, list, list[1:])
		}
	}
	for _, list := range lists {
		g := guardParts(list)
		message, first := impl.JoinParts(g.list)
		unshared(t, "MissingParts", func() []int64 { out, _ := impl.MissingParts(g.list); return out })
		g.check(t)
		again, second := impl.JoinParts(slices.Clone(list))
		if message != again || first != second {
			t.Errorf("another list of the same parts has another result: %s", partsText(list))
		}
		for _, x := range list {
			if overlaps(message, x.Text) {
				t.Errorf("JoinParts %s shares memory with a part", partsText(list))
			}
		}
	}
}

// No elements are changed, nor the memory behind them, and results are new memory.
func TestPartElementsStay(t *testing.T) {
	t.Parallel()
	source := rand.New(rand.NewSource(531))
	for _, f := range payloadFields(t) {
		for _, text := range []string{"", "12", "123456abcdefgh", someRuns(source, 100, 20)} {
			l := partLoadOf(impl.Part{Index: 3, Count: 8, Parity: 99, Text: text})
			capacity := int64(l.size(f) + source.Intn(4))
			unshared(t, "EncodePart", func() []int64 { out, _ := impl.EncodePart(f, l.part, capacity); return out })
			elements, _ := impl.EncodePart(f, l.part, capacity)
			g := guard(elements)
			x, _ := impl.DecodePart(f, g.list)
			y, _ := impl.DecodePart(f, g.list)
			g.check(t, "DecodePart")
			scribble(g.list)
			if x != l.part || y != l.part || overlaps(x.Text, y.Text) || overlaps(x.Text, text) {
				t.Fatalf("%v and %v have changed, or share memory", x, y)
			}
		}
		for _, broken := range [][]int64{nil, {-1}, {oracleSize(f)}, {0, oracleSize(f) - 1, 1}, cut(t, f, "101"), cut(t, f, headText(3, 2, 1)), randomList(f, source, 1500), randomList(f, source, 1501)} {
			g := guard(broken)
			impl.DecodePart(f, g.list)
			g.check(t, "DecodePart")
		}
	}
}

// Parts stay as they are when others are overwritten, and no two texts are in the same memory, nor in
// that of the message.
func TestSplitPartsAreNew(t *testing.T) {
	t.Parallel()
	source := rand.New(rand.NewSource(532))
	for _, f := range payloadFields(t) {
		for _, message := range []string{"", "1", "123456abcdefgh", someRuns(source, 60, 9)} {
			d := dividedOf(message)
			for capacity := 20/oracleWidth(f) + 1; capacity*oracleWidth(f) < 250; capacity += 1 + source.Intn(3) {
				first, code := impl.SplitMessage(f, message, int64(capacity))
				second, _ := impl.SplitMessage(f, message, int64(capacity))
				var texts []string
				for i := range first[:cap(first)] {
					texts = append(texts, first[:cap(first)][i].Text)
					first[:cap(first)][i] = impl.Part{Index: filler, Text: "changed"}
				}
				if want, _ := d.split(f, int64(capacity)); code == impl.ErrNone && !slices.Equal(second, want) {
					t.Fatalf("%s has changed", partsText(second))
				}
				for i, x := range second {
					for _, text := range slices.Concat(texts, []string{message}) {
						if overlaps(x.Text, text) {
							t.Fatalf("the parts of %q share memory", message)
						}
					}
					if i > 0 && overlaps(x.Text, second[i-1].Text) {
						t.Fatalf("two parts of %q share memory", message)
					}
				}
			}
		}
	}
}

// partAnswers are the results of all functions of the chapter, as a text.
func partAnswers(f impl.Field, message string, capacity int64, elements []int64, list []impl.Part) string {
	parts, first := impl.SplitMessage(f, message, capacity)
	var payloads [][]int64
	for _, x := range slices.Concat(parts, list) {
		payload, code := impl.EncodePart(f, x, capacity)
		payloads = append(payloads, append(payload, code))
	}
	read, second := impl.DecodePart(f, elements)
	joined, third := impl.JoinParts(parts)
	other, fourth := impl.JoinParts(list)
	missing, fifth := impl.MissingParts(list)
	return fmt.Sprintf("%d %v %d %v %v %v %d %q %d %q %d %v %d", impl.MessageParity(message), parts, first, payloads, read, impl.IsPart(read), second, joined, third, other, fourth, missing, fifth)
}

// No call changes what a later one yields, or one at the same time.
func TestPartsKeepNoState(t *testing.T) {
	t.Parallel()
	source := rand.New(rand.NewSource(533))
	fields := append(fieldsOfWidths(t), impl.Field{}, impl.Field{Prime: 9, Power: 1, Poly: 2})
	var calls []func() string
	for _, f := range fields {
		for _, length := range []int{0, 1, 2, 10, 60, 401} {
			message := someRuns(source, length, 1+source.Intn(20))
			capacity := source.Int63n(200)
			elements := []int64{1, 0, 1, 0}
			if oracleField(f) {
				elements = cut(t, f, headText(source.Int63n(4), 4, source.Int63n(256))+writtenSegments(someSegments(source, 1+source.Intn(4), 9))+"000")
			}
			list := shuffled(source, dividedAnywhere(source, message, 1+source.Intn(9)))
			calls = append(calls, func() string { return partAnswers(f, message, capacity, elements, list) }, func() string {
				return partAnswers(f, message, capacity, with(elements, 0, 2), list[1:])
			})
		}
	}
	answersStay(t, source, calls)
}

// Nothing is running any more after the calls, also after those that fail. This test is not parallel,
// so that no other one starts anything while it counts.
func TestPartsLeaveNothingRunning(t *testing.T) {
	source := rand.New(rand.NewSource(534))
	before := runtime.NumGoroutine()
	for _, f := range append(payloadFields(t), impl.Field{}) {
		for _, message := range []string{"", "123456abcdefgh", strings.Repeat("*", 400), strings.Repeat("*", 401)} {
			list := dividedAnywhere(source, message, 3)
			for _, capacity := range []int64{-1, 0, 1, 7, 20, 500, 1500, 1501} {
				partAnswers(f, message, capacity, randomBits(source, int(max(0, capacity))), list)
			}
			partAnswers(f, message, 900, []int64{1, -1}, list[1:])
			partAnswers(f, message, 900, []int64{1, 0, 1}, nil)
		}
	}
	runsNoMore(t, before)
}
