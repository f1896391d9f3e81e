package tests

import (
	"fmt"
	"math/rand"
	"runtime"
	"slices"
	"strconv"
	"strings"
	"testing"

	"loop.example/g00879/impl"
)

// The oracles below do not use what they check: the best segmentations and the bits of segments come
// from the oracles of chapters 9 and 10, bits are texts, and what follows them is typed out anew.

// payloadFields have all widths, with the least and the greatest size of each; those of the second
// kind also with another Poly than the least.
func payloadFields(t *testing.T) []impl.Field {
	t.Helper()
	fields := []impl.Field{{Prime: 2, Power: 3, Poly: 13}, {Prime: 2, Power: 4, Poly: 25}, {Prime: 2, Power: 5, Poly: 61}, {Prime: 2, Power: 8, Poly: 501}}
	for _, size := range []int64{3, 5, 7, 8, 11, 13, 16, 17, 31, 32, 37, 61, 64, 67, 127, 128, 131, 251, 256, 257, 509, 521, 1021} {
		fields = append(fields, fieldOf(t, size))
	}
	return fields
}

// fieldsOfWidths has one field of each width from 1 to 9, of both kinds.
func fieldsOfWidths(t *testing.T) []impl.Field {
	t.Helper()
	var fields []impl.Field
	for _, size := range []int64{3, 7, 8, 31, 32, 67, 128, 256, 1021} {
		fields = append(fields, fieldOf(t, size))
	}
	return fields
}

// oracleWidth doubles a power of two as long as it is not greater than the size.
func oracleWidth(f impl.Field) int {
	width := 0
	for power := int64(2); power <= oracleSize(f); power *= 2 {
		width++
	}
	return width
}

// mostElements is the greatest capacity that has no more than 8192 bits.
func mostElements(f impl.Field) int { return min(1500, 8192/oracleWidth(f)) }

// filled is the text of all bits of a payload in which some are written; there is room for these.
func filled(written string, room int) string {
	if room-len(written) < 3 {
		return written + strings.Repeat("0", room-len(written))
	}
	return (written + "000" + strings.Repeat("110100", room/6+1))[:room]
}

// cut is a text of bits as elements. A last one that is too short is filled with zeros.
func cut(t *testing.T, f impl.Field, text string) []int64 {
	t.Helper()
	width := oracleWidth(f)
	var list []int64
	for at := 0; at < len(text); at += width {
		one := text[at:min(at+width, len(text))]
		number, err := strconv.ParseInt(one+strings.Repeat("0", width-len(one)), 2, 64)
		if err != nil {
			t.Fatal("no text of bits:", text)
		}
		list = append(list, number)
	}
	return list
}

// elementsText are the bits of elements that are less than 2^w.
func elementsText(f impl.Field, elements []int64) string {
	out := ""
	for _, element := range elements {
		out += fmt.Sprintf("%0*b", oracleWidth(f), element)
	}
	return out
}

// oracleElementsError is the error of elements, before anything is read.
func oracleElementsError(f impl.Field, elements []int64) int64 {
	isNone := func(element int64) bool { return element < 0 || element >= oracleSize(f) }
	isGreat := func(element int64) bool { return len(strconv.FormatInt(element, 2)) > oracleWidth(f) }
	switch {
	case !oracleField(f):
		return impl.ErrInvalid
	case len(elements) == 0 || len(elements) > 1500 || slices.ContainsFunc(elements, isNone):
		return impl.ErrRange
	case len(elements)*oracleWidth(f) > 8192:
		return impl.ErrLimit
	case slices.ContainsFunc(elements, isGreat):
		return impl.ErrSyntax
	}
	return impl.ErrNone
}

func oracleRead(t *testing.T, f impl.Field, elements []int64) ([]impl.Segment, int64) {
	t.Helper()
	if code := oracleElementsError(f, elements); code != impl.ErrNone {
		return nil, code
	}
	return oracleSegments(t, elementsText(f, elements))
}

// oracleSegments are read from a text of bits until ModeEnd, or until fewer bits than those of a mode
// are left.
func oracleSegments(t *testing.T, text string) ([]impl.Segment, int64) {
	t.Helper()
	list := bitsOf(t, text)
	var segments []impl.Segment
	for at := 0; len(text)-at > 2 && text[at:at+3] != "000"; {
		next := oracleSegment(list, int64(at))
		if !next.found {
			return nil, impl.ErrSyntax
		}
		segments = append(segments, next.segment)
		if len(joinedTexts(segments)) > 400 {
			return nil, impl.ErrLimit
		}
		at = int(next.next)
	}
	return segments, impl.ErrNone
}

func reads(t *testing.T, f impl.Field, elements []int64, want []impl.Segment) {
	t.Helper()
	if list, code := impl.PayloadSegments(f, elements); code != impl.ErrNone || !slices.Equal(list, want) {
		t.Fatalf("PayloadSegments %v %v yields %s and %d, and not %s", f, elements, segmentsText(list), code, segmentsText(want))
	}
	if message, code := impl.DecodePayload(f, elements); code != impl.ErrNone || message != joinedTexts(want) {
		t.Fatalf("DecodePayload %v %v yields %q and %d, and not %q", f, elements, message, code, joinedTexts(want))
	}
}

func readsNothing(t *testing.T, f impl.Field, elements []int64, want int64) {
	t.Helper()
	if list, code := impl.PayloadSegments(f, elements); code != want || len(list) != 0 {
		t.Fatalf("PayloadSegments %v %v yields %s and %d instead of the error %d", f, elements, segmentsText(list), code, want)
	}
	if message, code := impl.DecodePayload(f, elements); code != want || message != "" {
		t.Fatalf("DecodePayload %v %v yields %q and %d instead of the error %d", f, elements, message, code, want)
	}
}

// checkReading holds both functions that read against the oracle.
func checkReading(t *testing.T, f impl.Field, elements []int64) int64 {
	t.Helper()
	want, code := oracleRead(t, f, elements)
	if code == impl.ErrNone {
		reads(t, f, elements, want)
	} else {
		readsNothing(t, f, elements, code)
	}
	return code
}

func hasBits(t *testing.T, f impl.Field, elements []int64, want string) {
	t.Helper()
	list, code := impl.ElementBits(f, elements)
	if code != impl.ErrNone || oracleText(list) != want {
		t.Fatalf("ElementBits %v %v yields %v and %d, and not %s", f, elements, list, code, want)
	}
	hasElements(t, f, list, elements)
}

func hasNoBits(t *testing.T, f impl.Field, elements []int64, want int64) {
	t.Helper()
	if list, code := impl.ElementBits(f, elements); code != want || len(list) != 0 {
		t.Fatalf("ElementBits %v %v yields %d bits and %d instead of the error %d", f, elements, len(list), code, want)
	}
}

func hasElements(t *testing.T, f impl.Field, list []int64, want []int64) {
	t.Helper()
	if elements, code := impl.BitElements(f, list); code != impl.ErrNone || !slices.Equal(elements, want) {
		t.Fatalf("BitElements %v %v yields %v and %d, and not %v", f, list, elements, code, want)
	}
}

func hasNoElements(t *testing.T, f impl.Field, list []int64, want int64) {
	t.Helper()
	if elements, code := impl.BitElements(f, list); code != want || len(elements) != 0 {
		t.Fatalf("BitElements %v %d bits yields %v and %d instead of the error %d", f, len(list), elements, code, want)
	}
}

// cannotBeRead checks the three functions that have elements.
func cannotBeRead(t *testing.T, f impl.Field, elements []int64, want int64) {
	t.Helper()
	if code := oracleElementsError(f, elements); code != want {
		t.Fatalf("the oracle yields %d for %d elements of %v, and not %d", code, len(elements), f, want)
	}
	readsNothing(t, f, elements, want)
	hasNoBits(t, f, elements, want)
}

func encodesNot(t *testing.T, f impl.Field, message string, capacity int64, want int64) {
	t.Helper()
	if elements, code := impl.EncodePayload(f, message, capacity); code != want || len(elements) != 0 {
		t.Fatalf("EncodePayload %v %.40q %d yields %d elements and %d instead of the error %d", f, message, capacity, len(elements), code, want)
	}
}

func hasNoSize(t *testing.T, f impl.Field, message string, want int64) {
	t.Helper()
	if size, code := impl.PayloadSize(f, message); code != want || size != 0 {
		t.Fatalf("PayloadSize %v of %d bytes yields %d and %d instead of the error %d", f, len(message), size, code, want)
	}
}

// load is a message with its best segmentation, and the text of the bits of that.
type load struct {
	message string
	best    []impl.Segment
	written string
}

func loadOf(message string) load {
	best := oracleBest(message)
	return load{message, best, writtenSegments(best)}
}

// size is the least capacity, from 1 on, that has as many bits as are written.
func (l load) size(f impl.Field) int {
	size := 1
	for size*oracleWidth(f) < len(l.written) {
		size++
	}
	return size
}

// comesBack checks the payload in a capacity that has room, and what is read from it.
func (l load) comesBack(t *testing.T, f impl.Field, capacity int) {
	t.Helper()
	want := filled(l.written, capacity*oracleWidth(f))
	elements, code := impl.EncodePayload(f, l.message, int64(capacity))
	if code != impl.ErrNone || !slices.Equal(elements, cut(t, f, want)) {
		t.Fatalf("EncodePayload %v %q %d yields %v and %d, and not %v", f, l.message, capacity, elements, code, cut(t, f, want))
	}
	reads(t, f, elements, l.best)
}

// hasSize checks the least capacity: there is none with less room. It reports whether there is one.
func (l load) hasSize(t *testing.T, f impl.Field) bool {
	t.Helper()
	want := l.size(f)
	if want > 1500 {
		hasNoSize(t, f, l.message, impl.ErrLimit)
		encodesNot(t, f, l.message, 1500, impl.ErrLimit)
		return false
	}
	if size, code := impl.PayloadSize(f, l.message); code != impl.ErrNone || size != int64(want) {
		t.Fatalf("PayloadSize %v %q yields %d and %d, and not %d", f, l.message, size, code, want)
	}
	if want == 1 {
		encodesNot(t, f, l.message, 0, impl.ErrRange)
	}
	for less := 1; less < 4 && less < want; less++ {
		encodesNot(t, f, l.message, int64(want-less), impl.ErrLimit)
	}
	l.comesBack(t, f, want)
	return true
}

// shortLoads are messages of one mode and of several, with the empty one.
func shortLoads(source *rand.Rand) []load {
	messages := []string{"", "12", "AB12345", "123456abcdefgh", "a1b", "AAA aaa", "11a", "\x00", "\xff\xff", "é", "it's 12:30, well?\n", strings.Repeat("1", 20) + "abcdefghij*****ABCDEFGHIJ"}
	for _, r := range modeTable {
		for length := 1; length <= 12; length++ {
			messages = append(messages, r.someText(source, length))
		}
	}
	for range 30 {
		messages = append(messages, someRuns(source, 1+source.Intn(60), 12))
	}
	var loads []load
	for _, message := range messages {
		loads = append(loads, loadOf(message))
	}
	return loads
}

func longLoads(source *rand.Rand) []load {
	var loads []load
	for _, message := range longMessages(source) {
		loads = append(loads, loadOf(message))
	}
	return loads
}

func TestPayloadExamples(t *testing.T) {
	if width := impl.FieldWidth(fieldOf(t, 31)); width != 4 {
		t.Error("the width of FieldOf(31) is", width)
	}
}

func TestFieldWidthByHand(t *testing.T) {
	for size, want := range map[int64]int64{3: 1, 5: 2, 7: 2, 8: 3, 11: 3, 13: 3, 16: 4, 17: 4, 31: 4, 32: 5, 37: 5, 61: 5, 64: 6, 67: 6, 127: 6, 128: 7, 131: 7, 251: 7, 256: 8, 257: 8, 509: 8, 521: 9, 1009: 9, 1021: 9} {
		if width := impl.FieldWidth(fieldOf(t, size)); width != want {
			t.Error("the width of a field with", size, "elements is", width)
		}
	}
}

// Fields of every size, and everything that has the form of one of the second kind.
func TestFieldWidth(t *testing.T) {
	t.Parallel()
	widths := map[int64]int{}
	check := func(f impl.Field) {
		want := int64(0)
		if oracleField(f) {
			want = int64(oracleWidth(f))
		}
		if width := impl.FieldWidth(f); width != want {
			t.Error("FieldWidth", f, "yields", width)
		}
		widths[want]++
	}
	for size := int64(-20); size <= 1100; size++ {
		f, _ := impl.FieldOf(size)
		check(f)
	}
	for power := int64(0); power <= 10; power++ {
		for poly := int64(0); poly < 3<<power; poly++ {
			check(impl.Field{Prime: 2, Power: power, Poly: poly})
		}
	}
	for _, f := range slices.Concat(payloadFields(t), sampleFields()) {
		check(f)
	}
	for width := int64(0); width <= 9; width++ {
		if widths[width] == 0 {
			t.Error("no field has the width", width)
		}
	}
}

func TestFieldWidthOfInvalidFields(t *testing.T) {
	for _, f := range brokenFields() {
		returns(t, "FieldWidth", func() {
			if width := impl.FieldWidth(f); width != 0 {
				t.Error("FieldWidth", f, "yields", width)
			}
		})
	}
}

// Payloads of the capacities from the least one on, found by hand.
func TestPayloadsByHand(t *testing.T) {
	for _, x := range []struct {
		size     int64
		message  string
		payloads [][]int64
	}{
		{3, "", [][]int64{{0}, {0, 0}, {0, 0, 0}, {0, 0, 0, 1}, {0, 0, 0, 1, 1}, {0, 0, 0, 1, 1, 0}, {0, 0, 0, 1, 1, 0, 1}, {0, 0, 0, 1, 1, 0, 1, 0}, {0, 0, 0, 1, 1, 0, 1, 0, 0}, {0, 0, 0, 1, 1, 0, 1, 0, 0, 1}}},
		{7, "", [][]int64{{0}, {0, 1}, {0, 1, 2}, {0, 1, 2, 2}, {0, 1, 2, 2, 1}}},
		{128, "", [][]int64{{13}, {13, 26}}},
		{1021, "", [][]int64{{52}, {52, 422}, {52, 422, 308}}},
		// 001 00000001 0001, and then no bit is left, or one, or three.
		{8, "1", [][]int64{{1, 0, 0, 2, 1}, {1, 0, 0, 2, 1, 0}, {1, 0, 0, 2, 1, 0, 6}, {1, 0, 0, 2, 1, 0, 6, 4}, {1, 0, 0, 2, 1, 0, 6, 4, 6}}},
		{5, "1", [][]int64{{0, 2, 0, 0, 0, 2, 0, 2}, {0, 2, 0, 0, 0, 2, 0, 2, 0}, {0, 2, 0, 0, 0, 2, 0, 2, 0, 3}, {0, 2, 0, 0, 0, 2, 0, 2, 0, 3, 1}, {0, 2, 0, 0, 0, 2, 0, 2, 0, 3, 1, 0}, {0, 2, 0, 0, 0, 2, 0, 2, 0, 3, 1, 0, 3}}},
		{31, "1", [][]int64{{2, 0, 2, 2}, {2, 0, 2, 2, 3}, {2, 0, 2, 2, 3, 4}, {2, 0, 2, 2, 3, 4, 13}, {2, 0, 2, 2, 3, 4, 13, 3}}},
		{521, "1", [][]int64{{64, 136}, {64, 136, 422}}},
		// 001 00000010 0001100, and then two bits are left.
		{16, "12", [][]int64{{2, 0, 4, 3, 0}, {2, 0, 4, 3, 0, 6}, {2, 0, 4, 3, 0, 6, 9}}},
		// 011 00000001 00000, and then four bits are left.
		{37, "a", [][]int64{{12, 0, 16, 1}, {12, 0, 16, 1, 20}, {12, 0, 16, 1, 20, 26}}},
		// 100 00000001 00101010, and then five bits are left.
		{67, "*", [][]int64{{32, 2, 21, 3}, {32, 2, 21, 3, 19}, {32, 2, 21, 3, 19, 19}}},
		// 010 00000001 001010, and then seven bits are left.
		{256, "A", [][]int64{{64, 37, 13}, {64, 37, 13, 52}, {64, 37, 13, 52, 211}}},
	} {
		f := fieldOf(t, x.size)
		least := int64(len(x.payloads[0]))
		if size, code := impl.PayloadSize(f, x.message); code != impl.ErrNone || size != least {
			t.Errorf("PayloadSize %v %q yields %d and %d", f, x.message, size, code)
		}
		for _, want := range x.payloads {
			elements, code := impl.EncodePayload(f, x.message, int64(len(want)))
			if code != impl.ErrNone || !slices.Equal(elements, want) {
				t.Errorf("EncodePayload %v %q %d yields %v and %d", f, x.message, len(want), elements, code)
			}
			if message, code := impl.DecodePayload(f, want); code != impl.ErrNone || message != x.message {
				t.Errorf("DecodePayload %v %v yields %q and %d", f, want, message, code)
			}
		}
		if least > 1 {
			encodesNot(t, f, x.message, least-1, impl.ErrLimit)
		}
	}
}

// Short messages in every field, in the capacities that follow the least one, and in greater ones.
func TestPayloadsComeBack(t *testing.T) {
	t.Parallel()
	source := rand.New(rand.NewSource(401))
	for _, f := range payloadFields(t) {
		most := mostElements(f)
		for _, l := range shortLoads(source) {
			if !l.hasSize(t, f) {
				t.Fatalf("%q has no payload", l.message)
			}
			size := l.size(f)
			for more := 1; more <= 9; more++ {
				l.comesBack(t, f, size+more)
			}
			l.comesBack(t, f, size+source.Intn(most-size+1))
			l.comesBack(t, f, most)
		}
	}
}

// Some messages in every capacity that there is, for every width.
func TestPayloadsOfEveryCapacity(t *testing.T) {
	for _, f := range fieldsOfWidths(t) {
		t.Run(fmt.Sprint("width ", oracleWidth(f)), func(t *testing.T) {
			t.Parallel()
			for _, message := range []string{"", "123456abcdefgh"} {
				l := loadOf(message)
				for capacity := 1; capacity <= 1500; capacity++ {
					switch {
					case capacity < l.size(f), capacity > mostElements(f):
						encodesNot(t, f, message, int64(capacity), impl.ErrLimit)
					default:
						l.comesBack(t, f, capacity)
					}
				}
			}
		})
	}
}

// Every number of bits is left in the last element, and behind it there are up to three more elements.
func TestBitsLeftInTheLastElement(t *testing.T) {
	t.Parallel()
	source := rand.New(rand.NewSource(402))
	loads := shortLoads(source)
	for _, f := range payloadFields(t) {
		left := map[int]int{}
		for _, l := range loads {
			size := l.size(f)
			for capacity := size; capacity <= size+3; capacity++ {
				left[capacity*oracleWidth(f)-len(l.written)]++
				l.comesBack(t, f, capacity)
			}
		}
		for count := range 4 * oracleWidth(f) {
			if left[count] == 0 {
				t.Error("no payload in", f, "leaves", count, "bits")
			}
		}
	}
}

// Messages of up to MaxMessage bytes. In a field of few elements some of them have no payload.
func TestPayloadsOfLongMessages(t *testing.T) {
	source := rand.New(rand.NewSource(403))
	loads := longLoads(source)
	for _, f := range fieldsOfWidths(t) {
		t.Run(fmt.Sprint("width ", oracleWidth(f)), func(t *testing.T) {
			t.Parallel()
			lost := 0
			for i, l := range loads {
				if !l.hasSize(t, f) {
					lost++
				} else if i%10 == 0 {
					l.comesBack(t, f, l.size(f)+1)
					l.comesBack(t, f, mostElements(f))
				}
			}
			if (lost > 0) != (oracleWidth(f) <= 2) {
				t.Error(lost, "messages have no payload in", f)
			}
		})
	}
}

// written is a message of digits and bytes whose best segmentation has so many bits.
func written(t *testing.T, bits int) load {
	t.Helper()
	for digits := 6; digits < 60; digits++ {
		for bytes := bits/8 - 60; bytes <= bits/8; bytes++ {
			if bytes < 1 || digits+bytes > 400 {
				continue
			}
			long := max(0, bytes-255)
			length := modeTable[0].bits(digits) + modeTable[3].bits(bytes-long)
			if long > 0 {
				length += modeTable[3].bits(long)
			}
			if length != int64(bits) {
				continue
			}
			if l := loadOf(strings.Repeat("1", digits) + strings.Repeat("*", bytes)); len(l.written) == bits {
				return l
			}
		}
	}
	t.Fatal("no message has", bits, "bits")
	return load{}
}

// In small fields, messages whose payload has just MaxStream elements, or would have one more.
func TestPayloadSizeUpToLimit(t *testing.T) {
	t.Parallel()
	for _, size := range []int64{3, 5, 7} {
		f := fieldOf(t, size)
		room := 1500 * oracleWidth(f)
		for bits := room - 12; bits <= room+12; bits++ {
			l := written(t, bits)
			if l.hasSize(t, f) != (bits <= room) {
				t.Error("a message of", bits, "bits has no payload, or one too many, in", f)
			}
			if bits > room-oracleWidth(f) && bits <= room && l.size(f) != impl.MaxStream {
				t.Error("a message of", bits, "bits has the size", l.size(f))
			}
		}
	}
}

// Messages of up to MaxMessage bytes have a payload in every field of a width from 3 on; of one more
// byte they are no messages.
func TestPayloadOfMaxMessage(t *testing.T) {
	t.Parallel()
	for _, f := range payloadFields(t) {
		for _, r := range modeTable {
			for _, length := range []int{399, 400} {
				l := loadOf(strings.Repeat(r.characters[1:2], length))
				if l.hasSize(t, f) != (len(l.written) <= 1500*oracleWidth(f)) {
					t.Error("the message of", length, "bytes is lost in", f)
				}
			}
			for _, length := range []int{401, 402, 512, 656, 1000, 1 << 16} {
				message := strings.Repeat(r.characters[1:2], length)
				hasNoSize(t, f, message, impl.ErrLimit)
				for _, capacity := range []int{1, 2, 500, mostElements(f), 1500} {
					encodesNot(t, f, message, int64(capacity), impl.ErrLimit)
				}
			}
		}
	}
}

// noCapacities are numbers that are no capacities, some of them only with their upper bits.
func noCapacities() []int64 {
	return slices.Concat(extremes, []int64{0, -2, -3, -1500, -1501, 1501, 1502, 2048, 8192, 8193, 1 << 16, 1<<16 + 5, 1<<32 + 5, 1<<32 + 1500, 1<<62 + 5, -1<<63 + 5, 1<<63/9 + 1})
}

// A capacity out of range comes before a message that is none, and before one that has no room.
func TestEncodePayloadCapacities(t *testing.T) {
	t.Parallel()
	for _, f := range payloadFields(t) {
		for _, message := range []string{"", "12", "123456abcdefgh", strings.Repeat("*", 400), strings.Repeat("*", 401), strings.Repeat("1", 5000)} {
			for _, capacity := range noCapacities() {
				returns(t, "EncodePayload", func() { encodesNot(t, f, message, capacity, impl.ErrRange) })
			}
			if message != "" {
				encodesNot(t, f, message, 1, impl.ErrLimit)
			}
		}
	}
}

// As many elements as have MaxBits bits, or almost; one more has too many, up to MaxStream.
func TestEncodePayloadUpToMaxBits(t *testing.T) {
	t.Parallel()
	source := rand.New(rand.NewSource(404))
	exact := 0
	for _, f := range payloadFields(t) {
		most := mostElements(f)
		if want := []int{1500, 1500, 1500, 1500, 1500, 1365, 1170, 1024, 910}[oracleWidth(f)-1]; most != want {
			t.Fatal("the oracle has a capacity of", most, "for", f)
		}
		if most*oracleWidth(f) == impl.MaxBits {
			exact++
		}
		for _, message := range []string{"", "1", "11a", someRuns(source, 120, 10)} {
			l := loadOf(message)
			l.comesBack(t, f, most-1)
			l.comesBack(t, f, most)
			for _, capacity := range []int{most + 1, most + 2, (most + 1500) / 2, 1499, 1500} {
				if capacity > most && capacity <= 1500 {
					encodesNot(t, f, message, int64(capacity), impl.ErrLimit)
				}
			}
			encodesNot(t, f, message, 1501, impl.ErrRange)
		}
	}
	if exact == 0 {
		t.Error("no capacity has MaxBits bits")
	}
}

// threeFields have one, three and four bits for each element; in the third one some elements are
// not less than 2^w.
func threeFields(t *testing.T) []impl.Field {
	t.Helper()
	return []impl.Field{fieldOf(t, 3), fieldOf(t, 8), fieldOf(t, 31)}
}

func someWritten(source *rand.Rand, count int) ([]impl.Segment, string) {
	list := someSegments(source, count, 9)
	return list, writtenSegments(list)
}

// Fewer bits than those of a mode are left behind the segments: they are not looked at.
func TestPayloadsWithoutModeEnd(t *testing.T) {
	t.Parallel()
	source := rand.New(rand.NewSource(405))
	seen := map[string]int{}
	for _, f := range payloadFields(t) {
		for range 60 {
			list, text := someWritten(source, source.Intn(4))
			for _, left := range []string{"", "0", "1", "00", "01", "10", "11"} {
				if payload := text + left; payload != "" && len(payload)%oracleWidth(f) == 0 {
					reads(t, f, cut(t, f, payload), list)
					seen[fmt.Sprint(oracleWidth(f), left)]++
				}
			}
		}
	}
	for width := 1; width <= 9; width++ {
		for _, left := range []string{"", "0", "1", "00", "01", "10", "11"} {
			if seen[fmt.Sprint(width, left)] == 0 {
				t.Error("nothing leaves", left, "in elements of", width, "bits")
			}
		}
	}
}

// Three bits are left: they are ModeEnd, or a segment has to be read there, for which there are too
// few bits.
func TestPayloadsWithAModeLeft(t *testing.T) {
	t.Parallel()
	source := rand.New(rand.NewSource(406))
	one, three := fieldOf(t, 3), fieldOf(t, 8)
	for _, count := range []int{0, 0, 1, 1, 2, 3, 8} {
		list, text := someWritten(source, count)
		for len(text)%3 != 0 {
			list, text = someWritten(source, count)
		}
		for _, f := range []impl.Field{one, three} {
			reads(t, f, cut(t, f, text+"000"), list)
			for mode := 1; mode < 8; mode++ {
				readsNothing(t, f, cut(t, f, text+fmt.Sprintf("%03b", mode)), impl.ErrSyntax)
			}
		}
		for _, left := range []string{"0001", "0000", "00011", "00010", "000111"} {
			reads(t, one, cut(t, one, text+left), list)
		}
		for _, left := range []string{"1000", "0010", "01000", "00100000000"} {
			readsNothing(t, one, cut(t, one, text+left), impl.ErrSyntax)
		}
	}
}

// What follows ModeEnd is not looked at: any bits, segments, and too much text.
func TestBitsBehindModeEnd(t *testing.T) {
	t.Parallel()
	source := rand.New(rand.NewSource(407))
	long := writtenSegments([]impl.Segment{modeTable[3].segment(strings.Repeat("*", 255)), modeTable[3].segment(strings.Repeat("*", 255))})
	for _, f := range payloadFields(t) {
		for range 20 {
			list, text := someWritten(source, source.Intn(4))
			_, more := someWritten(source, 1+source.Intn(4))
			behinds := []string{more, more[:source.Intn(len(more))], "111", "101", "110", "100000", strings.Repeat("1", 40), "1101001101", oracleText(randomBits(source, source.Intn(100))), "000" + more}
			if oracleWidth(f) > 2 {
				behinds = append(behinds, long, more+long)
			}
			for _, behind := range behinds {
				reads(t, f, cut(t, f, text+"000"+behind), list)
			}
		}
	}
}

// A mode other than those of segments, or a head without a text or with less than it counts, where a
// segment has to be read.
func TestPayloadsWithoutASegment(t *testing.T) {
	t.Parallel()
	source := rand.New(rand.NewSource(408))
	var wrong []string
	for _, mode := range []string{"101", "110", "111"} {
		for _, behind := range []string{"", "0", "00000001", "000000010000", "000000000000000000000", writtenSegments([]impl.Segment{{Mode: 1, Text: "12"}}), writtenSegments([]impl.Segment{{Mode: 1, Text: "12"}})[3:]} {
			wrong = append(wrong, mode+behind)
		}
	}
	for _, mode := range []string{"001", "010", "011", "100"} {
		wrong = append(wrong, mode+"00000000", mode+"0000000000000000000000", mode+"11111111", mode+"11111111"+strings.Repeat("0", 800))
	}
	// Numbers that stand for no digits and for no letters.
	wrong = append(wrong, "001"+"00000001"+"1010", "001"+"00000010"+"1100100", "001"+"00000011"+"1111101000", "010"+"00000001"+"101101", "010"+"00000010"+"11111101001")
	for _, f := range threeFields(t) {
		for _, text := range wrong {
			for _, count := range []int{0, 1, 1, 2, 5} {
				_, before := someWritten(source, count)
				readsNothing(t, f, cut(t, f, before+text), impl.ErrSyntax)
				readsNothing(t, f, cut(t, f, before+text+"000"), impl.ErrSyntax)
			}
		}
	}
}

// The last segment is cut off at every bit, as far as elements can be cut there.
func TestPayloadsThatAreCutOff(t *testing.T) {
	t.Parallel()
	source := rand.New(rand.NewSource(409))
	for _, f := range payloadFields(t) {
		for range 30 {
			before, text := someWritten(source, source.Intn(3))
			last, tail := someWritten(source, 1)
			whole := text + tail
			for length := 1; length < len(whole); length++ {
				if length%oracleWidth(f) != 0 || length < len(text) {
					continue
				}
				if length-len(text) < 3 {
					reads(t, f, cut(t, f, whole[:length]), before)
				} else {
					readsNothing(t, f, cut(t, f, whole[:length]), impl.ErrSyntax)
				}
			}
			reads(t, f, cut(t, f, whole), slices.Concat(before, last))
		}
	}
}

// Segments are read as they are written, also where they are not the best ones.
func TestPayloadsOfOtherSegmentations(t *testing.T) {
	t.Parallel()
	source := rand.New(rand.NewSource(410))
	others := 0
	for _, f := range fieldsOfWidths(t) {
		for range 40 {
			message := someRuns(source, 1+source.Intn(30), 6)
			list := someDivision(source, message, 1+source.Intn(6))
			if !slices.Equal(list, oracleBest(message)) {
				others++
			}
			elements := cut(t, f, writtenSegments(list))
			reads(t, f, elements, list)
			joins(t, list, message)
		}
	}
	if others < 200 {
		t.Error("only", others, "segmentations are not the best ones")
	}
	one := fieldOf(t, 8)
	digit := impl.Segment{Mode: impl.ModeDigits, Text: "1"}
	reads(t, one, cut(t, one, writtenSegments([]impl.Segment{digit, digit})), []impl.Segment{digit, digit})
}

// longTexts are segments whose texts join to so many bytes.
func longTexts(source *rand.Rand, total int) []impl.Segment {
	var list []impl.Segment
	for total > 0 {
		r := modeTable[source.Intn(4)]
		size := min(total, 1+source.Intn(255))
		list = append(list, r.segment(r.someText(source, size)))
		total -= size
	}
	return list
}

// Texts that join to as many bytes as a message may have, and to one more.
func TestPayloadsUpToMaxMessage(t *testing.T) {
	t.Parallel()
	source := rand.New(rand.NewSource(411))
	for _, f := range fieldsOfWidths(t)[2:] {
		for range 10 {
			list := longTexts(source, 400)
			text := writtenSegments(list)
			reads(t, f, cut(t, f, text), list)
			reads(t, f, cut(t, f, text+"000"), list)
			for _, r := range modeTable {
				readsNothing(t, f, cut(t, f, text+r.written(r.someText(source, 1))), impl.ErrLimit)
			}
			readsNothing(t, f, cut(t, f, text+"001"), impl.ErrSyntax)
			readsNothing(t, f, cut(t, f, text+"111"), impl.ErrSyntax)
		}
		bytes := modeTable[3]
		for _, one := range []int{145, 146, 200, 255} {
			first, second, third := bytes.segment(bytes.someText(source, one)), bytes.segment(bytes.someText(source, 400-one)), bytes.segment("*")
			reads(t, f, cut(t, f, writtenSegments([]impl.Segment{first, second})), []impl.Segment{first, second})
			readsNothing(t, f, cut(t, f, writtenSegments([]impl.Segment{first, second, third})), impl.ErrLimit)
			if one > 145 {
				second = bytes.segment(bytes.someText(source, 401-one))
				readsNothing(t, f, cut(t, f, writtenSegments([]impl.Segment{first, second})), impl.ErrLimit)
			}
		}
	}
}

// So many segments of one byte, up to one more than a message may have bytes.
func TestPayloadsOfManySegments(t *testing.T) {
	t.Parallel()
	source := rand.New(rand.NewSource(412))
	f := fieldOf(t, 256)
	digit := impl.Segment{Mode: impl.ModeDigits, Text: "7"}
	for _, count := range []int{1, 2, 100, 399, 400} {
		list := slices.Repeat([]impl.Segment{digit}, count)
		reads(t, f, cut(t, f, writtenSegments(list)), list)
		list = someSegments(source, count, 1)
		reads(t, f, cut(t, f, writtenSegments(list)), list)
	}
	for _, count := range []int{401, 402, 450, 500} {
		readsNothing(t, f, cut(t, f, writtenSegments(slices.Repeat([]impl.Segment{digit}, count))), impl.ErrLimit)
	}
}

// A text that is too long before a place where no segment can be read, and behind it.
func TestWhicheverErrorOccursFirst(t *testing.T) {
	t.Parallel()
	bytes := func(length int) string { return modeTable[3].written(strings.Repeat("*", length)) }
	digits := func(length int) string { return modeTable[0].written(strings.Repeat("1", length)) }
	noDigit := "001" + "00000001" + "1010"
	for _, f := range fieldsOfWidths(t)[2:] {
		for _, x := range []struct {
			text string
			want int64
		}{
			{digits(255) + digits(145) + digits(1), impl.ErrLimit},
			{digits(255) + digits(146), impl.ErrLimit},
			{digits(255) + digits(255), impl.ErrLimit},
			{digits(255) + digits(255) + digits(255), impl.ErrLimit},
			{digits(255) + digits(146) + "111", impl.ErrLimit},
			{digits(255) + digits(146) + "10100000", impl.ErrLimit},
			{digits(255) + digits(146) + noDigit, impl.ErrLimit},
			{digits(255) + digits(146) + "00100", impl.ErrLimit},
			{digits(255) + digits(146) + "000", impl.ErrLimit},
			{"111" + digits(255) + digits(146), impl.ErrSyntax},
			{noDigit + digits(255) + digits(146), impl.ErrSyntax},
			{digits(255) + "101" + digits(146), impl.ErrSyntax},
			{digits(255) + noDigit + digits(146), impl.ErrSyntax},
			{digits(255) + digits(145) + noDigit, impl.ErrSyntax},
			{digits(255) + digits(145) + noDigit + digits(1), impl.ErrSyntax},
			// A segment with which the text would be too long, but which cannot be read.
			{digits(255) + digits(145) + "00100000101", impl.ErrSyntax},
			{digits(255) + "001" + "11111111" + strings.Repeat("0", 500), impl.ErrSyntax},
			{digits(255) + "100" + "11111111" + strings.Repeat("0", 255*8-10), impl.ErrSyntax},
			{digits(255) + "001" + "10010010" + strings.Repeat("1", 48*10+7), impl.ErrSyntax},
			{bytes(255) + "010" + "10010010" + strings.Repeat("1", 73*11), impl.ErrSyntax},
			{bytes(255) + digits(145), impl.ErrNone},
			{bytes(255) + bytes(145) + "000" + digits(1), impl.ErrNone},
			{bytes(255) + bytes(145) + "000" + "111", impl.ErrNone},
			{bytes(255) + "000" + bytes(146) + "111", impl.ErrNone},
		} {
			if len(x.text) > mostElements(f)*oracleWidth(f) {
				t.Fatal("too many bits for", f)
			}
			if code := checkReading(t, f, cut(t, f, x.text)); code != x.want {
				t.Errorf("the oracle yields %d for %s in %v, and not %d", code, x.text, f, x.want)
			}
		}
	}
}

// Any elements, payloads with changed bits, and segments in turn, against the oracle.
func TestReadingOfAnyElements(t *testing.T) {
	t.Parallel()
	source := rand.New(rand.NewSource(413))
	for _, f := range payloadFields(t) {
		seen := map[int64]int{}
		for range 150 {
			seen[checkReading(t, f, randomList(f, source, 1+source.Int63n(60)))]++
			list := someSegments(source, source.Intn(6), 1+source.Intn(12))
			text := []byte(writtenSegments(list) + []string{"", "000", "0001101"}[source.Intn(3)])
			for range source.Intn(3) {
				if len(text) > 0 {
					text[source.Intn(len(text))] = "01"[source.Intn(2)]
				}
			}
			if len(text) > 0 {
				seen[checkReading(t, f, cut(t, f, string(text)))]++
			}
			if long := writtenSegments(longTexts(source, 380+source.Intn(40))); len(long) <= mostElements(f)*oracleWidth(f) && source.Intn(4) == 0 {
				seen[checkReading(t, f, cut(t, f, long))]++
			}
		}
		if seen[impl.ErrNone] < 20 || seen[impl.ErrSyntax] < 20 || oracleWidth(f) > 2 && seen[impl.ErrLimit] < 5 {
			t.Error("in", f, "the codes are", seen)
		}
	}
}

func TestElementBitsByHand(t *testing.T) {
	for _, x := range []struct {
		size     int64
		elements []int64
		want     string
	}{
		{3, []int64{1}, "1"}, {3, []int64{0, 1, 1}, "011"}, {7, []int64{3, 0, 2, 1}, "11001001"}, {5, []int64{3, 1}, "1101"},
		{8, []int64{5, 1, 7}, "101001111"}, {13, []int64{7, 0}, "111000"}, {16, []int64{5, 1}, "01010001"}, {31, []int64{15, 8}, "11111000"},
		{32, []int64{31, 1}, "1111100001"}, {67, []int64{63, 32}, "111111100000"}, {128, []int64{127, 5}, "11111110000101"},
		{256, []int64{255, 1}, "1111111100000001"}, {509, []int64{128}, "10000000"}, {1021, []int64{511, 256, 3}, "111111111100000000000000011"},
	} {
		hasBits(t, fieldOf(t, x.size), x.elements, x.want)
	}
}

// Every element that is less than 2^w, alone and beside others; the others have no bits.
func TestElementBitsOfEveryElement(t *testing.T) {
	t.Parallel()
	for _, f := range payloadFields(t) {
		limit := int64(1) << oracleWidth(f)
		great := 0
		for element := range oracleSize(f) {
			for _, list := range [][]int64{{element}, {0, element}, {element, 0}, {1, element, limit - 1}} {
				if element < limit {
					hasBits(t, f, list, elementsText(f, list))
				} else {
					cannotBeRead(t, f, list, impl.ErrSyntax)
					great++
				}
			}
		}
		if (great > 0) != (f.Prime != 2) {
			t.Error(great, "lists of", f, "have an element that is too great")
		}
		for _, none := range noElements(f) {
			returns(t, "a function of chapter 11", func() { cannotBeRead(t, f, []int64{none}, impl.ErrRange) })
		}
	}
}

// someSmall are elements that are less than 2^w.
func someSmall(f impl.Field, source *rand.Rand, count int) []int64 {
	list := make([]int64, count)
	for i := range list {
		list[i] = source.Int63n(1 << oracleWidth(f))
	}
	return list
}

// Elements and bits are recovered from one another, in every number that there is of few of them, and
// around the limits.
func TestElementBitsAndBitElements(t *testing.T) {
	t.Parallel()
	source := rand.New(rand.NewSource(414))
	for _, f := range payloadFields(t) {
		most := mostElements(f)
		counts := []int{100, 500, most - 1, most}
		for count := 1; count <= 40; count++ {
			counts = append(counts, count)
		}
		for _, count := range counts {
			elements := someSmall(f, source, count)
			hasBits(t, f, elements, elementsText(f, elements))
			list := randomBits(source, count*oracleWidth(f))
			hasElements(t, f, list, cut(t, f, oracleText(list)))
			hasBits(t, f, cut(t, f, oracleText(list)), oracleText(list))
		}
	}
}

// A list of bits may have more elements than a payload, as the section says nothing of that.
func TestBitElementsOfLongLists(t *testing.T) {
	t.Parallel()
	source := rand.New(rand.NewSource(415))
	for _, f := range payloadFields(t) {
		count := 8192 / oracleWidth(f)
		list := randomBits(source, count*oracleWidth(f))
		want := cut(t, f, oracleText(list))
		hasElements(t, f, list, want)
		if count > impl.MaxStream {
			cannotBeRead(t, f, want, impl.ErrRange)
		}
	}
}

// Lists of all lengths: those that are no multiple of w have no elements. The empty list has none, too,
// but without an error.
func TestBitElementsOfEveryLength(t *testing.T) {
	t.Parallel()
	source := rand.New(rand.NewSource(416))
	for _, f := range payloadFields(t) {
		lengths := []int{1000, 1001, 4096, 8183, 8184, 8185, 8186, 8187, 8188, 8189, 8190, 8191, 8192}
		for length := range 70 {
			lengths = append(lengths, length)
		}
		for _, length := range lengths {
			list := randomBits(source, length)
			if length%oracleWidth(f) == 0 {
				hasElements(t, f, list, cut(t, f, oracleText(list)))
			} else {
				hasNoElements(t, f, list, impl.ErrState)
			}
		}
		hasElements(t, f, nil, nil)
		hasElements(t, f, []int64{}, nil)
	}
}

// A list that is no bit list comes before its length, and both invalid arguments have one error.
func TestBitElementsErrors(t *testing.T) {
	t.Parallel()
	for _, f := range payloadFields(t) {
		for _, broken := range brokenLists() {
			returns(t, "BitElements", func() { hasNoElements(t, f, broken, impl.ErrInvalid) })
		}
		full := make([]int64, 9*911)
		hasNoElements(t, f, full, impl.ErrInvalid)
		for width := range oracleWidth(f) {
			hasNoElements(t, f, with(make([]int64, 40+width), 39, 2), impl.ErrInvalid)
			hasNoElements(t, f, with(make([]int64, 40+width), 0, -1), impl.ErrInvalid)
		}
	}
}

// No elements, as many as a payload may have, and one more, with few bits and with too many.
func TestNumbersOfElements(t *testing.T) {
	t.Parallel()
	source := rand.New(rand.NewSource(417))
	for _, f := range payloadFields(t) {
		cannotBeRead(t, f, nil, impl.ErrRange)
		cannotBeRead(t, f, []int64{}, impl.ErrRange)
		most := mostElements(f)
		elements := someSmall(f, source, 2000)
		for _, count := range []int{1, 2, most - 1, most} {
			hasBits(t, f, elements[:count], elementsText(f, elements[:count]))
			reads(t, f, make([]int64, count), nil)
			checkReading(t, f, elements[:count])
		}
		for _, count := range []int{most + 1, most + 2, 1499, 1500} {
			if count > most && count <= 1500 {
				cannotBeRead(t, f, elements[:count], impl.ErrLimit)
				cannotBeRead(t, f, make([]int64, count), impl.ErrLimit)
			}
		}
		for _, count := range []int{1501, 1502, 1600, 2000} {
			cannotBeRead(t, f, elements[:count], impl.ErrRange)
			cannotBeRead(t, f, make([]int64, count), impl.ErrRange)
		}
		cannotBeRead(t, f, make([]int64, 1<<17), impl.ErrRange)
	}
}

// Several errors at once: an element that is none, too many bits, an element that is too great, and
// what is read. They come in this order, wherever they are.
func TestOrderOfElementErrors(t *testing.T) {
	t.Parallel()
	source := rand.New(rand.NewSource(418))
	for _, f := range payloadFields(t) {
		size, limit, most := oracleSize(f), int64(1)<<oracleWidth(f), mostElements(f)
		for _, count := range []int{1, 2, 30, most, most + 1, 1500} {
			if count > 1500 {
				continue
			}
			elements := someSmall(f, source, count)
			many := count*oracleWidth(f) > impl.MaxBits
			for _, at := range []int{0, count / 2, count - 1} {
				for _, none := range []int64{-1, size, size + limit, extremes[source.Intn(len(extremes))]} {
					cannotBeRead(t, f, with(elements, at, none), impl.ErrRange)
					if size > limit {
						cannotBeRead(t, f, with(with(elements, count-1-at, size-1), at, none), impl.ErrRange)
					}
				}
				if size > limit {
					want := int64(impl.ErrSyntax)
					if many {
						want = impl.ErrLimit
					}
					cannotBeRead(t, f, with(elements, at, size-1), want)
					cannotBeRead(t, f, with(elements, at, limit), want)
				}
			}
			if many {
				cannotBeRead(t, f, elements, impl.ErrLimit)
			}
		}
		elements := someSmall(f, source, 1501)
		cannotBeRead(t, f, with(elements, 700, size-1), impl.ErrRange)
		cannotBeRead(t, f, with(elements, 700, size), impl.ErrRange)
	}
}

// An element that is too great comes before all that is read, also behind ModeEnd, behind a text that
// is too long, and behind a place without a segment.
func TestElementsThatAreTooGreat(t *testing.T) {
	t.Parallel()
	long := modeTable[0].written(strings.Repeat("1", 255))
	for _, size := range []int64{5, 7, 11, 13, 17, 31, 37, 61, 67, 127, 131, 251, 257, 509, 521, 1021} {
		f := fieldOf(t, size)
		limit := int64(1) << oracleWidth(f)
		for _, text := range []string{"", "000", "000000000", long, long + "000", "111", long + "111", "001", "101000000"} {
			elements := cut(t, f, text)
			checkReading(t, f, append(slices.Clone(elements), make([]int64, 9)...))
			for _, great := range []int64{limit, (limit + size) / 2, size - 1} {
				cannotBeRead(t, f, slices.Concat(elements, []int64{great}), impl.ErrSyntax)
				cannotBeRead(t, f, slices.Concat([]int64{great}, elements), impl.ErrSyntax)
				cannotBeRead(t, f, slices.Concat(elements, make([]int64, 12), []int64{great, 0}), impl.ErrSyntax)
			}
		}
		if oracleWidth(f) > 2 {
			elements := cut(t, f, long+long)
			readsNothing(t, f, elements, impl.ErrLimit)
			cannotBeRead(t, f, append(elements, limit), impl.ErrSyntax)
		}
	}
}

// A field that is not valid comes before everything else.
func TestPayloadErrorsOfInvalidFields(t *testing.T) {
	t.Parallel()
	for _, f := range brokenFields() {
		returns(t, "a function of chapter 11", func() {
			for _, message := range []string{"", "12", strings.Repeat("*", 400), strings.Repeat("1", 401)} {
				hasNoSize(t, f, message, impl.ErrInvalid)
				for _, capacity := range append([]int64{1, 5, 1000, 1500}, noCapacities()...) {
					encodesNot(t, f, message, capacity, impl.ErrInvalid)
				}
			}
			for _, elements := range [][]int64{nil, {}, {0}, {2, 0, 4, 3, 0}, {-1}, {1, 1 << 40}, make([]int64, 1500), make([]int64, 1501)} {
				cannotBeRead(t, f, elements, impl.ErrInvalid)
			}
			for _, list := range append(brokenLists(), nil, []int64{}, []int64{0}, []int64{1, 0, 1}, make([]int64, 8192)) {
				hasNoElements(t, f, list, impl.ErrInvalid)
			}
		})
	}
}

// No argument is changed, nor the memory behind it, and results are new memory.
func TestPayloadArgumentsAndResults(t *testing.T) {
	t.Parallel()
	source := rand.New(rand.NewSource(419))
	for _, f := range payloadFields(t) {
		for _, l := range []load{loadOf(""), loadOf("12"), loadOf("123456abcdefgh"), loadOf(someRuns(source, 100, 20))} {
			capacity := int64(l.size(f) + source.Intn(4))
			unshared(t, "EncodePayload", func() []int64 { out, _ := impl.EncodePayload(f, l.message, capacity); return out })
			elements, _ := impl.EncodePayload(f, l.message, capacity)
			g := guard(elements)
			unshared(t, "ElementBits", func() []int64 { out, _ := impl.ElementBits(f, g.list); return out }, g)
			reads(t, f, g.list, l.best)
			list, _ := impl.ElementBits(f, g.list)
			g.check(t, "a function of chapter 11")
			h := guard(list)
			unshared(t, "BitElements", func() []int64 { out, _ := impl.BitElements(f, h.list); return out }, h)
			hasElements(t, f, h.list, elements)
			h.check(t, "BitElements")
		}
		for _, broken := range [][]int64{nil, {-1}, {oracleSize(f)}, {0, oracleSize(f) - 1, 1}, randomList(f, source, 1500), randomList(f, source, 1501)} {
			g := guard(broken)
			impl.ElementBits(f, g.list)
			impl.DecodePayload(f, g.list)
			impl.PayloadSegments(f, g.list)
			impl.BitElements(f, g.list)
			g.check(t, "a function of chapter 11")
		}
	}
}

// Segments and messages that are read stay as they are when the elements or other segments are
// overwritten.
func TestReadPayloadsAreNew(t *testing.T) {
	t.Parallel()
	source := rand.New(rand.NewSource(420))
	for _, f := range payloadFields(t) {
		for _, message := range []string{"123456abcdefgh", "a1b", someRuns(source, 60, 20)} {
			want := oracleBest(message)
			elements := cut(t, f, filled(writtenSegments(want), mostElements(f)*oracleWidth(f)))
			text, _ := impl.DecodePayload(f, elements)
			first, _ := impl.PayloadSegments(f, elements)
			second, _ := impl.PayloadSegments(f, elements)
			for i := range first[:cap(first)] {
				first[:cap(first)][i] = impl.Segment{Mode: filler, Text: "changed"}
			}
			scribble(elements)
			if text != message || !slices.Equal(second, want) {
				t.Fatalf("%q and %s have changed", text, segmentsText(second))
			}
			for i, x := range second {
				if overlaps(x.Text, text) || i > 0 && overlaps(x.Text, second[i-1].Text) {
					t.Fatalf("the texts of %q share memory", message)
				}
			}
		}
	}
}

// payloadAnswers are the results of all functions of the chapter, as a text.
func payloadAnswers(f impl.Field, message string, capacity int64, elements []int64, list []int64) string {
	size, first := impl.PayloadSize(f, message)
	payload, second := impl.EncodePayload(f, message, capacity)
	read, third := impl.DecodePayload(f, elements)
	bits, fourth := impl.ElementBits(f, elements)
	packed, fifth := impl.BitElements(f, list)
	segments, sixth := impl.PayloadSegments(f, elements)
	return fmt.Sprintf("%d %d %d %v %d %q %d %v %d %v %d %s %d", impl.FieldWidth(f), size, first, payload, second, read, third, bits, fourth, packed, fifth, segmentsText(segments), sixth)
}

// No call changes what a later one yields, or one at the same time.
func TestPayloadsKeepNoState(t *testing.T) {
	t.Parallel()
	source := rand.New(rand.NewSource(421))
	fields := append(fieldsOfWidths(t), impl.Field{}, impl.Field{Prime: 9, Power: 1, Poly: 2})
	var calls []func() string
	for _, f := range fields {
		for _, length := range []int{0, 1, 2, 10, 60, 401} {
			message := someRuns(source, length, 1+source.Intn(20))
			capacity := source.Int63n(200)
			elements := []int64{0, 1, 0, 1}
			if oracleField(f) {
				elements = randomList(f, source, 1+source.Int63n(60))
				if l := loadOf(message); length < 100 && l.size(f) <= 1500 {
					elements = cut(t, f, l.written+"000")
				}
			}
			list := randomBits(source, 36*source.Intn(30)+source.Intn(2))
			calls = append(calls, func() string { return payloadAnswers(f, message, capacity, elements, list) }, func() string {
				return payloadAnswers(f, message, capacity, with(elements, 0, 2), append(slices.Clone(list), 2))
			})
		}
	}
	answersStay(t, source, calls)
}

// Nothing is running any more after the calls, also after those that fail. This test is not parallel,
// so that no other one starts anything while it counts.
func TestPayloadsLeaveNothingRunning(t *testing.T) {
	source := rand.New(rand.NewSource(422))
	before := runtime.NumGoroutine()
	for _, f := range append(payloadFields(t), impl.Field{}) {
		for _, message := range []string{"", "123456abcdefgh", strings.Repeat("*", 400), strings.Repeat("*", 401)} {
			for _, capacity := range []int64{-1, 0, 1, 7, 500, 1500, 1501} {
				payloadAnswers(f, message, capacity, randomBits(source, int(max(0, capacity))), randomBits(source, 1000+int(max(0, capacity))))
			}
			payloadAnswers(f, message, 900, []int64{1, -1}, []int64{0, 2})
			payloadAnswers(f, message, 900, make([]int64, 900), make([]int64, impl.MaxBits+1))
		}
	}
	runsNoMore(t, before)
}
