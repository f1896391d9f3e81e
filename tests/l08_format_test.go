package tests

import (
	"fmt"
	"math"
	"math/rand"
	"slices"
	"strconv"
	"testing"

	"loop.example/g00879/impl"
)

// The oracles below do not use what they check: words are divided as lists of digits, and all words
// and all pairs of words are looked through.

var standard = impl.FormatCode{Data: 5, Length: 15, Poly: 1335}

// oracleFormat counts the digits of Poly.
func oracleFormat(c impl.FormatCode) bool {
	if c.Data < 1 || c.Data > 8 || c.Length < c.Data+1 || c.Length > 24 {
		return false
	}
	return c.Poly > 0 && len(strconv.FormatInt(c.Poly, 2)) == int(c.Length-c.Data)+1
}

// oracleFormatWord divides as one does by hand: digit by digit, from the left.
func oracleFormatWord(t *testing.T, c impl.FormatCode, value int64) []int64 {
	t.Helper()
	number, divisor := bitsOf(t, binary(value, c.Data)), bitsOf(t, strconv.FormatInt(c.Poly, 2))
	rest := slices.Concat(number, make([]int64, c.Length-c.Data))
	for at := range number {
		if rest[at] == 0 {
			continue
		}
		for i, digit := range divisor {
			rest[at+i] = (rest[at+i] + digit) % 2
		}
	}
	return slices.Concat(number, rest[c.Data:])
}

// isMultiple adds the remainders of the powers of x, each of which follows from the one before it.
func isMultiple(word []int64, poly int64) bool {
	degree := len(strconv.FormatInt(poly, 2)) - 1
	sum, power := int64(0), int64(1)
	for _, bit := range slices.Backward(word) {
		if bit == 1 {
			sum ^= power
		}
		power *= 2
		if power >= 1<<degree {
			power ^= poly
		}
	}
	return sum == 0
}

// codebook has all words of a format code, and the least number of differences of two of them.
type codebook struct {
	code     impl.FormatCode
	words    [][]int64
	distance int64
}

func bookOf(t *testing.T, c impl.FormatCode) codebook {
	t.Helper()
	b := codebook{code: c, distance: math.MaxInt64}
	for value := range int64(1) << c.Data {
		word := oracleFormatWord(t, c, value)
		for _, other := range b.words {
			b.distance = min(b.distance, oracleDistance(word, other))
		}
		b.words = append(b.words, word)
	}
	return b
}

// finding is what a search through all words finds: the first number with the least distance, how
// many others have it too, and the sum of 2 times the distance and the number of unknown bits.
type finding struct {
	value, distance, others, sum int64
}

func (b codebook) search(list []int64) finding {
	x := finding{distance: math.MaxInt64}
	unknown := int64(0)
	for _, bit := range list {
		if bit == -1 {
			unknown++
		}
	}
	for value, word := range b.words {
		distance := int64(0)
		for i, bit := range list {
			if bit != -1 && bit != word[i] {
				distance++
			}
		}
		switch {
		case distance < x.distance:
			x = finding{value: int64(value), distance: distance}
		case distance == x.distance:
			x.others++
		}
	}
	x.sum = 2*x.distance + unknown
	return x
}

func (b codebook) isRead(x finding) bool { return x.sum < b.distance }

func readsAs(t *testing.T, c impl.FormatCode, list []int64, value, distance int64) {
	t.Helper()
	if v, n, code := impl.NearestFormat(c, list); code != impl.ErrNone || v != value || n != distance {
		t.Fatal("NearestFormat", c, list, "yields", v, n, code, "and not", value, distance)
	}
}

func readsNot(t *testing.T, c impl.FormatCode, list []int64, want int64) {
	t.Helper()
	if v, n, code := impl.NearestFormat(c, list); code != want || v != 0 || n != 0 {
		t.Fatal("NearestFormat", c, list, "yields", v, n, code, "instead of the error", want)
	}
}

// check holds NearestFormat against the search.
func (b codebook) check(t *testing.T, list []int64) finding {
	t.Helper()
	x := b.search(list)
	if b.isRead(x) {
		readsAs(t, b.code, list, x.value, x.distance)
	} else {
		readsNot(t, b.code, list, impl.ErrDamage)
	}
	return x
}

func sharesAs(t *testing.T, c impl.FormatCode, one, two []int64, value int64) {
	t.Helper()
	if v, code := impl.FormatShare(c, one, two); code != impl.ErrNone || v != value {
		t.Fatal("FormatShare", c, one, two, "yields", v, code, "and not", value)
	}
}

func sharesNot(t *testing.T, c impl.FormatCode, one, two []int64, want int64) {
	t.Helper()
	if v, code := impl.FormatShare(c, one, two); code != want || v != 0 {
		t.Fatal("FormatShare", c, one, two, "yields", v, code, "instead of the error", want)
	}
}

// checkShare holds FormatShare against the document's sentence, case by case, and returns the case.
func (b codebook) checkShare(t *testing.T, one, two []int64) string {
	t.Helper()
	x, y := b.search(one), b.search(two)
	value, what := x.value, "only the first"
	switch {
	case !b.isRead(x) && !b.isRead(y):
		sharesNot(t, b.code, one, two, impl.ErrDamage)
		return "none"
	case !b.isRead(x):
		value, what = y.value, "only the second"
	case b.isRead(y) && x.value == y.value:
		what = "the same number"
	case b.isRead(y) && y.sum < x.sum:
		value, what = y.value, "the second is better"
	case b.isRead(y) && y.sum == x.sum:
		what = "equal sums"
	case b.isRead(y):
		what = "the first is better"
	}
	sharesAs(t, b.code, one, two, value)
	return what
}

// everyShare are the cases of checkShare.
var everyShare = []string{
	"none", "only the first", "only the second", "the same number", "the second is better", "equal sums", "the first is better",
}

func hasFormatDistance(t *testing.T, c impl.FormatCode, want int64) {
	t.Helper()
	if d, code := impl.FormatDistance(c); code != impl.ErrNone || d != want {
		t.Fatal("FormatDistance", c, "yields", d, code, "and not", want)
	}
}

func goodFormatWord(t *testing.T, c impl.FormatCode, value int64) []int64 {
	t.Helper()
	word, code := impl.FormatWord(c, value)
	if code != impl.ErrNone || len(word) != int(c.Length) {
		t.Fatal("FormatWord", c, value, "yields", word, code)
	}
	return word
}

// formatsUpTo are all codes whose words have at most a length, each with every Poly.
func formatsUpTo(longest int64) []impl.FormatCode {
	var codes []impl.FormatCode
	for length := int64(2); length <= longest; length++ {
		for data := int64(1); data < length && data <= impl.MaxFormatData; data++ {
			for poly := int64(1) << (length - data); poly < 2<<(length-data); poly++ {
				codes = append(codes, impl.FormatCode{Data: data, Length: length, Poly: poly})
			}
		}
	}
	return codes
}

// sampleFormats have each Data with each Length, and the least and the greatest Poly, others next to
// these, and some between them.
func sampleFormats(source *rand.Rand) []impl.FormatCode {
	var codes []impl.FormatCode
	for data := int64(1); data <= impl.MaxFormatData; data++ {
		for length := data + 1; length <= impl.MaxFormatLength; length++ {
			least := int64(1) << (length - data)
			for _, more := range []int64{0, 1, least - 1, least - 2, source.Int63n(least), source.Int63n(least) | 1} {
				c := impl.FormatCode{Data: data, Length: length, Poly: least + max(more, 0)}
				if !slices.Contains(codes, c) {
					codes = append(codes, c)
				}
			}
		}
	}
	return codes
}

// knownFormats have minimum distances that are found by hand or are well known: of repetitions,
// parities, the codes of Hamming and their duals, those of Bose, Chaudhuri and Hocquenghem, and the
// code of Golay. A Poly without its last bit leaves the last bits of all words 0.
var knownFormats = []struct {
	code impl.FormatCode
	want int64
}{
	{standard, 7},
	{impl.FormatCode{Data: 1, Length: 2, Poly: 2}, 1}, {impl.FormatCode{Data: 1, Length: 2, Poly: 3}, 2},
	{impl.FormatCode{Data: 2, Length: 3, Poly: 3}, 2}, {impl.FormatCode{Data: 2, Length: 6, Poly: 27}, 4},
	{impl.FormatCode{Data: 1, Length: 5, Poly: 31}, 5}, {impl.FormatCode{Data: 1, Length: 9, Poly: 257}, 2},
	{impl.FormatCode{Data: 4, Length: 7, Poly: 11}, 3}, {impl.FormatCode{Data: 4, Length: 7, Poly: 13}, 3},
	{impl.FormatCode{Data: 3, Length: 7, Poly: 29}, 4}, {impl.FormatCode{Data: 8, Length: 12, Poly: 19}, 3},
	{impl.FormatCode{Data: 7, Length: 15, Poly: 465}, 5}, {impl.FormatCode{Data: 6, Length: 18, Poly: 7973}, 8},
	{impl.FormatCode{Data: 8, Length: 19, Poly: 3189}, 7}, {impl.FormatCode{Data: 8, Length: 20, Poly: 5279}, 8},
	{impl.FormatCode{Data: 8, Length: 9, Poly: 3}, 2}, {impl.FormatCode{Data: 8, Length: 9, Poly: 2}, 1},
	{impl.FormatCode{Data: 8, Length: 24, Poly: 1 << 16}, 1}, {impl.FormatCode{Data: 8, Length: 24, Poly: 1<<16 + 1}, 2},
	{impl.FormatCode{Data: 8, Length: 24, Poly: 66671}, 8},
	{impl.FormatCode{Data: 1, Length: 24, Poly: 1<<24 - 1}, 24}, {impl.FormatCode{Data: 1, Length: 24, Poly: 1 << 23}, 1},
	{impl.FormatCode{Data: 2, Length: 24, Poly: 1<<23 - 1}, 2}, {impl.FormatCode{Data: 2, Length: 24, Poly: 5946347}, 16},
}

// eachChange calls visit with every list that differs from a word at some indices and has unknown
// bits at others, as long as 2 times the errors plus the unknown bits are at most budget.
func eachChange(word []int64, budget int64, unknownToo bool, visit func(list []int64, wrong, unknown int64)) {
	list := slices.Clone(word)
	var change func(at int, wrong, unknown int64)
	change = func(at int, wrong, unknown int64) {
		if at == len(list) {
			visit(list, wrong, unknown)
			return
		}
		change(at+1, wrong, unknown)
		left := budget - 2*wrong - unknown
		if left >= 2 {
			list[at] = 1 - word[at]
			change(at+1, wrong+1, unknown)
		}
		if left >= 1 && unknownToo {
			list[at] = -1
			change(at+1, wrong, unknown+1)
		}
		list[at] = word[at]
	}
	change(0, 0, 0)
}

// changed is a word with so many errors and so many unknown bits, anywhere.
func changed(source *rand.Rand, word []int64, wrong, unknown int64) []int64 {
	list := slices.Clone(word)
	flipped, hidden := parted(source, numbersUpTo(int64(len(word))), wrong, unknown)
	for _, i := range flipped {
		list[i] = 1 - list[i]
	}
	for _, i := range hidden {
		list[i] = -1
	}
	return list
}

// changedInFront is a word whose first bits are wrong, and whose next ones are unknown.
func changedInFront(word []int64, wrong, unknown int) []int64 {
	list := slices.Clone(word)
	for i := range list {
		if i < wrong {
			list[i] = 1 - list[i]
		} else if i < wrong+unknown {
			list[i] = -1
		}
	}
	return list
}

// everyList calls visit with every list of so many elements -1, 0 and 1.
func everyList(length int64, visit func(list []int64)) {
	list := slices.Repeat([]int64{-1}, int(length))
	for {
		visit(list)
		at := 0
		for at < len(list) && list[at] == 1 {
			list[at] = -1
			at++
		}
		if at == len(list) {
			return
		}
		list[at]++
	}
}

func someList(source *rand.Rand, length int64) []int64 {
	list := make([]int64, length)
	for i := range list {
		list[i] = source.Int63n(3) - 1
	}
	return list
}

func unknownList(length int64) []int64 { return slices.Repeat([]int64{-1}, int(length)) }

func TestFormatLimits(t *testing.T) {
	if impl.MaxFormatData != 8 || impl.MaxFormatLength != 24 {
		t.Error("limits", impl.MaxFormatData, impl.MaxFormatLength)
	}
}

func TestStandardFormat(t *testing.T) {
	for range 2 {
		if c := impl.StandardFormat(); c != standard || !impl.IsFormatCode(c) {
			t.Error("StandardFormat", c)
		}
	}
	hasFormatDistance(t, standard, 7)
}

func TestFormatExample(t *testing.T) {
	word := goodFormatWord(t, standard, 1)
	if !slices.Equal(word, bitsOf(t, "000010100110111")) || impl.FormatText(standard, 1) != "000010100110111" {
		t.Error("FormatWord", word)
	}
}

// Words of the code of Hamming: the remainders of x^3 to x^6 by x^3 + x + 1 are x + 1, x^2 + x,
// x^2 + x + 1 and x^2 + 1. Then repetitions, a parity, and a Poly without its last bit. The Poly of
// the standard format times x^4 + x^3 + 1 is the polynomial with 15 coefficients 1.
func TestFormatWordByHand(t *testing.T) {
	hamming := impl.FormatCode{Data: 4, Length: 7, Poly: 11}
	parity := impl.FormatCode{Data: 8, Length: 9, Poly: 3}
	for _, x := range []struct {
		code  impl.FormatCode
		value int64
		want  string
	}{
		{hamming, 0, "0000000"}, {hamming, 1, "0001011"}, {hamming, 2, "0010110"}, {hamming, 3, "0011101"},
		{hamming, 4, "0100111"}, {hamming, 8, "1000101"}, {hamming, 15, "1111111"},
		{impl.FormatCode{Data: 1, Length: 2, Poly: 3}, 1, "11"}, {impl.FormatCode{Data: 1, Length: 2, Poly: 2}, 1, "10"},
		{impl.FormatCode{Data: 1, Length: 24, Poly: 1<<24 - 1}, 1, "111111111111111111111111"},
		{impl.FormatCode{Data: 1, Length: 24, Poly: 1 << 23}, 1, "100000000000000000000000"},
		{impl.FormatCode{Data: 1, Length: 24, Poly: 1<<23 + 1}, 1, "100000000000000000000001"},
		{parity, 0, "000000000"}, {parity, 1, "000000011"}, {parity, 129, "100000010"}, {parity, 254, "111111101"}, {parity, 255, "111111110"},
		{impl.FormatCode{Data: 2, Length: 5, Poly: 14}, 1, "01110"}, {impl.FormatCode{Data: 2, Length: 5, Poly: 14}, 2, "10010"},
		{standard, 0, "000000000000000"}, {standard, 31, "111111111111111"},
	} {
		word := goodFormatWord(t, x.code, x.value)
		if !slices.Equal(word, bitsOf(t, x.want)) || impl.FormatText(x.code, x.value) != x.want {
			t.Error("FormatWord", x.code, x.value, "yields", word)
		}
	}
}

// Every number of every code: the bits of the number come first, the word is a multiple of Poly, and
// it is the one that is divided by hand.
func checkFormatWords(t *testing.T, c impl.FormatCode) {
	t.Helper()
	for value := range int64(1) << c.Data {
		word := goodFormatWord(t, c, value)
		if !slices.Equal(word, oracleFormatWord(t, c, value)) || !isMultiple(word, c.Poly) || !impl.IsBits(word) {
			t.Fatal("FormatWord", c, value, "yields", word)
		}
		if n, code := impl.NumberAt(word, 0, c.Data); code != impl.ErrNone || n != value {
			t.Fatal("FormatWord", c, value, "begins with", n, code)
		}
		if text := impl.FormatText(c, value); text != impl.BitsText(word) || len(text) != int(c.Length) {
			t.Fatal("FormatText", c, value, "yields", text)
		}
	}
}

func TestFormatWords(t *testing.T) {
	t.Parallel()
	for _, c := range slices.Concat(formatsUpTo(11), sampleFormats(rand.New(rand.NewSource(190)))) {
		checkFormatWords(t, c)
	}
	for _, x := range knownFormats {
		checkFormatWords(t, x.code)
	}
}

// The sum of two format words is the format word of the sum.
func TestFormatWordsAreLinear(t *testing.T) {
	t.Parallel()
	for _, x := range knownFormats {
		count := int64(1) << x.code.Data
		for a := range count {
			for b := range count {
				sum, code := impl.XorBits(goodFormatWord(t, x.code, a), goodFormatWord(t, x.code, b))
				if code != impl.ErrNone || !slices.Equal(sum, goodFormatWord(t, x.code, a^b)) {
					t.Fatal("FormatWord", x.code, a, b, "have the sum", sum, code)
				}
			}
		}
	}
}

// The minimum distance that is known is also that of all pairs of words.
func TestFormatDistanceOfKnownCodes(t *testing.T) {
	t.Parallel()
	for _, x := range knownFormats {
		hasFormatDistance(t, x.code, x.want)
		var words [][]int64
		least := int64(math.MaxInt64)
		for value := range int64(1) << x.code.Data {
			word := goodFormatWord(t, x.code, value)
			for _, other := range words {
				least = min(least, good(t, "BitDistance")(impl.BitDistance(word, other)))
			}
			words = append(words, word)
		}
		if least != x.want {
			t.Error(x.code, "has the distance", least, "and not", x.want)
		}
	}
}

func TestFormatDistance(t *testing.T) {
	t.Parallel()
	for _, c := range slices.Concat(formatsUpTo(9), sampleFormats(rand.New(rand.NewSource(191)))) {
		hasFormatDistance(t, c, bookOf(t, c).distance)
	}
}

func TestIsFormatCodeByHand(t *testing.T) {
	for _, x := range []struct {
		data, length, poly int64
		want               bool
	}{
		{5, 15, 1335, true}, {5, 15, 1023, false}, {5, 15, 1024, true}, {5, 15, 2047, true}, {5, 15, 2048, false}, {5, 15, 335, false},
		{0, 10, 1335, false}, {0, 1, 2, false}, {0, 1, 3, false}, {-1, 1, 4, false}, {-5, 5, 1024, false}, {1, 2, 1, false}, {1, 2, 2, true},
		{1, 2, 3, true}, {1, 2, 4, false}, {1, 1, 1, false}, {1, 1, 0, false}, {1, 0, 1, false}, {8, 9, 2, true}, {8, 8, 1, false}, {8, 7, 1, false}, {8, 24, 1 << 16, true},
		{8, 24, 1<<17 - 1, true}, {8, 24, 1<<16 - 1, false}, {8, 24, 1 << 17, false}, {9, 24, 1 << 15, false}, {9, 10, 2, false},
		{1, 24, 1 << 23, true}, {1, 24, 1<<24 - 1, true}, {1, 24, 1 << 24, false}, {1, 25, 1 << 24, false}, {8, 25, 1 << 17, false},
		{2, 25, 1 << 23, false}, {5, 15, 0, false}, {5, 15, -1, false}, {5, 15, -1335, false}, {5, 15, 1335 + 1<<32, false}, {0, 0, 0, false},
		{5 + 1<<32, 15 + 1<<32, 1335, false}, {5, 15 + 1<<32, 1335, false}, {5 + 1<<32, 15, 1335, false}, {5 + 256, 15 + 256, 1335, false},
		{5, 67, 1 << 62, false}, {8, 71, math.MinInt64, false}, {1, 64, math.MinInt64, false}, {1, 65, 1, false}, {5, 79, 1335, false},
	} {
		if c := (impl.FormatCode{Data: x.data, Length: x.length, Poly: x.poly}); impl.IsFormatCode(c) != x.want || oracleFormat(c) != x.want {
			t.Error("IsFormatCode", c, "is not", x.want)
		}
	}
}

// Numbers around their limits: every Data and Length, and each Poly at the ends of its range and one
// further, also of the ranges of other codes.
func edgeFormats() []impl.FormatCode {
	var codes []impl.FormatCode
	for data := int64(-2); data <= impl.MaxFormatData+2; data++ {
		for length := int64(-2); length <= impl.MaxFormatLength+2; length++ {
			for _, width := range []int64{length - data - 1, length - data, length - data + 1, length, data} {
				poly := int64(1) << max(width, 0)
				for _, poly := range []int64{poly - 2, poly - 1, poly, poly + 1, 2*poly - 2, 2*poly - 1, 2 * poly, 2*poly + 1, -poly, 1 - 2*poly, -2 * poly} {
					codes = append(codes, impl.FormatCode{Data: data, Length: length, Poly: poly})
				}
			}
		}
	}
	return codes
}

func TestIsFormatCodeAtTheLimits(t *testing.T) {
	t.Parallel()
	accepted := map[[2]int64]bool{}
	for _, c := range edgeFormats() {
		got := impl.IsFormatCode(c)
		if got != oracleFormat(c) {
			t.Fatal("IsFormatCode", c, got)
		}
		if got {
			accepted[[2]int64{c.Data, c.Length}] = true
		}
	}
	want := 0
	for data := 1; data <= impl.MaxFormatData; data++ {
		want += impl.MaxFormatLength - data
	}
	if len(accepted) != want {
		t.Error(len(accepted), "pairs of Data and Length are accepted instead of", want)
	}
}

func TestIsFormatCodeOfEveryPoly(t *testing.T) {
	t.Parallel()
	for _, at := range [][2]int64{{1, 2}, {1, 3}, {3, 7}, {8, 9}, {8, 12}, {5, 15}, {1, 13}} {
		for poly := int64(-5000); poly <= 10000; poly++ {
			c := impl.FormatCode{Data: at[0], Length: at[1], Poly: poly}
			if got := impl.IsFormatCode(c); got != oracleFormat(c) {
				t.Fatal("IsFormatCode", c, got)
			}
		}
	}
	for _, c := range sampleFormats(rand.New(rand.NewSource(192))) {
		if !impl.IsFormatCode(c) {
			t.Fatal("a code is rejected:", c)
		}
	}
}

// Numbers whose sums, differences or shifts do not fit, among them some that are small again when
// they wrap around or lose their upper bits.
func wrappingFormats() []impl.FormatCode {
	var codes []impl.FormatCode
	numbers := slices.Concat(extremes, []int64{
		-1335, -63, -24, -10, -5, 0, 1, 5, 8, 9, 15, 24, 25, 40, 63, 64, 65, 79, 128, 1335, 1<<32 + 5, 1<<32 + 15, 1<<32 + 1335, 1 << 24, 1 << 61,
		math.MinInt64 + 5, math.MinInt64 + 15, math.MaxInt64 - 9, math.MaxInt64 - 14, 1<<56 + 5, 1<<56 + 15,
	})
	for _, data := range numbers {
		for _, length := range numbers {
			for _, poly := range numbers {
				if c := (impl.FormatCode{Data: data, Length: length, Poly: poly}); !oracleFormat(c) {
					codes = append(codes, c)
				}
			}
		}
	}
	return codes
}

func TestIsFormatCodeExtremes(t *testing.T) {
	t.Parallel()
	for _, c := range wrappingFormats() {
		returns(t, "IsFormatCode", func() {
			if impl.IsFormatCode(c) {
				t.Fatal("no code, but accepted:", c)
			}
		})
	}
}

// Promise 8, for every number: with every pattern of fewer errors than half of the minimum distance,
// and with every pattern of errors and unknown bits, too, where 2 times the errors plus the unknown
// bits are less than it.
func TestFormatsWithinTheBound(t *testing.T) {
	for _, x := range knownFormats {
		length, distance := x.code.Length, x.want
		if distance > 8 || length > 20 {
			continue
		}
		t.Run(fmt.Sprint(x.code), func(t *testing.T) {
			t.Parallel()
			for value := range int64(1) << x.code.Data {
				word := oracleFormatWord(t, x.code, value)
				eachChange(word, distance-1, length <= 15, func(list []int64, wrong, unknown int64) {
					readsAs(t, x.code, list, value, wrong)
				})
			}
		})
	}
}

// Promise 8 for other codes with long words, at random places, and each count on its own: for these
// there are too many patterns.
func TestLongFormatsWithinTheBound(t *testing.T) {
	t.Parallel()
	source := rand.New(rand.NewSource(193))
	codes := sampleFormats(source)
	for _, x := range knownFormats {
		codes = append(codes, x.code)
	}
	for _, c := range codes {
		b := bookOf(t, c)
		for range 3 {
			value := source.Int63n(int64(len(b.words)))
			for wrong := int64(0); 2*wrong < b.distance; wrong++ {
				for unknown := int64(0); 2*wrong+unknown < b.distance; unknown++ {
					readsAs(t, c, changed(source, b.words[value], wrong, unknown), value, wrong)
				}
			}
		}
	}
}

// Every word of every code is read without an error, also where the minimum distance is 1.
func TestFormatWordsAreRead(t *testing.T) {
	t.Parallel()
	for _, c := range formatsUpTo(10) {
		for value := range int64(1) << c.Data {
			readsAs(t, c, goodFormatWord(t, c, value), value, 0)
		}
	}
}

// Where 2 times the errors plus the unknown bits are the minimum distance, no other word is so near
// that it could be read instead.
func TestFormatsAtTheBound(t *testing.T) {
	t.Parallel()
	source := rand.New(rand.NewSource(194))
	for _, x := range knownFormats {
		for value := range int64(1) << x.code.Data {
			word := oracleFormatWord(t, x.code, value)
			for wrong := int64(0); 2*wrong <= x.want; wrong++ {
				readsNot(t, x.code, changed(source, word, wrong, x.want-2*wrong), impl.ErrDamage)
			}
			if x.code.Length > 15 || x.want > 4 && value%15 != 1 {
				continue
			}
			eachChange(word, x.want, true, func(list []int64, wrong, unknown int64) {
				if 2*wrong+unknown == x.want {
					readsNot(t, x.code, list, impl.ErrDamage)
				}
			})
		}
	}
}

// Further away, another word may be read, or none, as the search has it.
func TestFormatsBeyondTheBound(t *testing.T) {
	t.Parallel()
	source := rand.New(rand.NewSource(195))
	lost, other := 0, 0
	for _, x := range knownFormats {
		b := bookOf(t, x.code)
		for range 1500 {
			value := source.Int63n(int64(len(b.words)))
			wrong := source.Int63n(x.code.Length + 1)
			if source.Intn(2) == 0 {
				wrong = min(wrong, (x.want+1)/2)
			}
			unknown := min(source.Int63n(x.code.Length-wrong+1), source.Int63n(x.want+2))
			found := b.check(t, changed(source, b.words[value], wrong, unknown))
			if !b.isRead(found) {
				lost++
			} else if found.value != value {
				other++
			}
		}
	}
	if lost < 1000 || other < 1000 {
		t.Error(lost, "lists are lost, and", other, "are read as another number")
	}
}

// Every list of short codes. Where several words have the least distance, none is read.
func TestNearestFormatOfEveryList(t *testing.T) {
	t.Parallel()
	several, read := 0, 0
	for _, c := range formatsUpTo(6) {
		b := bookOf(t, c)
		everyList(c.Length, func(list []int64) {
			found := b.check(t, list)
			if b.isRead(found) {
				read++
			}
			if found.others > 0 {
				several++
				readsNot(t, c, list, impl.ErrDamage)
			}
		})
	}
	if several == 0 || read == 0 {
		t.Error(several, "lists with several nearest words, and", read, "that are read")
	}
}

func TestNearestFormatOfManyLists(t *testing.T) {
	t.Parallel()
	source := rand.New(rand.NewSource(196))
	for _, c := range sampleFormats(source) {
		b := bookOf(t, c)
		b.check(t, unknownList(c.Length))
		b.check(t, slices.Repeat([]int64{1}, int(c.Length)))
		for range 5 {
			b.check(t, someList(source, c.Length))
			b.check(t, randomBits(source, int(c.Length)))
		}
	}
}

func TestNearestFormatByHand(t *testing.T) {
	even, pair, single := impl.FormatCode{Data: 2, Length: 3, Poly: 3}, impl.FormatCode{Data: 1, Length: 2, Poly: 3}, impl.FormatCode{Data: 1, Length: 2, Poly: 2}
	for _, x := range []struct {
		code            impl.FormatCode
		list            []int64
		value, distance int64
	}{
		{even, []int64{0, 1, 1}, 1, 0}, {even, []int64{-1, 1, 1}, 1, 0}, {even, []int64{1, -1, 0}, 3, 0}, {even, []int64{1, 0, -1}, 2, 0},
		{pair, []int64{1, 1}, 1, 0}, {pair, []int64{-1, 1}, 1, 0}, {pair, []int64{0, -1}, 0, 0}, {single, []int64{1, 0}, 1, 0}, {single, []int64{0, 0}, 0, 0},
		{standard, bitsOf(t, "000010100110111"), 1, 0}, {standard, bitsOf(t, "111010100110111"), 1, 3}, {standard, bitsOf(t, "000010100110000"), 1, 3},
	} {
		readsAs(t, x.code, x.list, x.value, x.distance)
	}
	for _, x := range []struct {
		code impl.FormatCode
		list []int64
	}{
		{even, []int64{0, 0, 1}}, {even, []int64{1, 1, 1}}, {even, []int64{-1, -1, 0}}, {even, []int64{-1, -1, -1}},
		{pair, []int64{0, 1}}, {pair, []int64{1, 0}}, {pair, []int64{-1, -1}},
		// The minimum distance is 1, so that a single word that is nearest is not enough.
		{single, []int64{0, 1}}, {single, []int64{1, 1}}, {single, []int64{-1, 0}}, {single, []int64{1, -1}}, {single, []int64{-1, 1}},
	} {
		readsNot(t, x.code, x.list, impl.ErrDamage)
	}
}

// Both copies, every one of short codes.
func TestFormatShareOfEveryPair(t *testing.T) {
	t.Parallel()
	source := rand.New(rand.NewSource(197))
	seen := map[string]int{}
	for _, c := range formatsUpTo(5) {
		b := bookOf(t, c)
		everyList(c.Length, func(one []int64) {
			everyList(c.Length, func(two []int64) {
				if c.Length < 5 || source.Intn(20) == 0 {
					seen[b.checkShare(t, one, two)]++
				}
			})
		})
	}
	for _, what := range everyShare {
		if seen[what] < 100 {
			t.Error("the case", what, "is there", seen[what], "times")
		}
	}
}

// Both copies of codes with greater minimum distances, with all counts of errors and unknown bits up
// to the bound and one further.
func TestFormatShareAtAllCounts(t *testing.T) {
	t.Parallel()
	source := rand.New(rand.NewSource(198))
	seen := map[string]int{}
	for _, x := range knownFormats {
		if x.want < 3 || x.want > 8 {
			continue
		}
		b := bookOf(t, x.code)
		var all []counts
		for wrong := int64(0); 2*wrong <= x.want+1; wrong++ {
			for unknown := int64(0); 2*wrong+unknown <= x.want+1 && wrong+unknown <= x.code.Length; unknown++ {
				all = append(all, counts{wrong, unknown})
			}
		}
		for _, m := range all {
			for _, n := range all {
				for _, apart := range []int{0, 1, 1 + source.Intn(len(b.words)-1)} {
					value := source.Intn(len(b.words))
					one := changed(source, b.words[value], m.wrong, m.erased)
					two := changed(source, b.words[(value+apart)%len(b.words)], n.wrong, n.erased)
					seen[b.checkShare(t, one, two)]++
				}
			}
		}
	}
	for _, what := range everyShare {
		if seen[what] < 100 {
			t.Error("the case", what, "is there", seen[what], "times")
		}
	}
}

// The cases of the document one by one: the copies are words of 3 and of 20.
func TestFormatShareByHand(t *testing.T) {
	three, twenty := oracleFormatWord(t, standard, 3), oracleFormatWord(t, standard, 20)
	hit := changedInFront
	for _, x := range []struct {
		wrong, unknown, wrongToo, unknownToo int
		want                                 int64
	}{
		{0, 0, 0, 0, 3}, {1, 0, 1, 0, 3}, {3, 0, 3, 0, 3}, {0, 6, 0, 6, 3}, {1, 0, 0, 2, 3}, {0, 2, 1, 0, 3}, {1, 2, 2, 0, 3}, {3, 0, 1, 4, 3},
		{0, 0, 0, 1, 3}, {0, 1, 1, 0, 3}, {1, 0, 0, 3, 3}, {2, 0, 2, 1, 3}, {0, 5, 3, 0, 3}, {2, 1, 3, 0, 3},
		{0, 1, 0, 0, 20}, {1, 0, 0, 1, 20}, {0, 3, 1, 0, 20}, {2, 1, 2, 0, 20}, {3, 0, 0, 5, 20}, {3, 0, 2, 1, 20}, {1, 3, 2, 0, 20}, {0, 6, 0, 5, 20},
		// Only one copy is within its bound.
		{3, 0, 0, 15, 3}, {3, 0, 0, 7, 3}, {0, 6, 1, 5, 3}, {0, 15, 3, 0, 20}, {0, 7, 3, 0, 20}, {1, 5, 0, 6, 20}, {2, 3, 0, 0, 20},
	} {
		sharesAs(t, standard, hit(three, x.wrong, x.unknown), hit(twenty, x.wrongToo, x.unknownToo), x.want)
	}
	// The same number, whichever copy is better.
	sharesAs(t, standard, hit(three, 3, 0), three, 3)
	sharesAs(t, standard, three, hit(three, 3, 0), 3)
	sharesAs(t, standard, hit(three, 0, 6), hit(three, 1, 4), 3)
	for _, lost := range [][]int64{hit(three, 0, 7), hit(three, 1, 5), hit(three, 3, 1), unknownList(15)} {
		for _, other := range [][]int64{hit(twenty, 0, 7), hit(three, 2, 3), hit(three, 0, 8), unknownList(15), lost} {
			sharesNot(t, standard, lost, other, impl.ErrDamage)
			sharesNot(t, standard, other, lost, impl.ErrDamage)
		}
	}
}

// Every number in one copy that is whole, while the other one is whatever comes.
func TestFormatShareOfWholeCopies(t *testing.T) {
	t.Parallel()
	source := rand.New(rand.NewSource(199))
	for value := range int64(32) {
		word := oracleFormatWord(t, standard, value)
		for range 200 {
			other := someList(source, 15)
			sharesAs(t, standard, word, other, value)
			if _, _, code := impl.NearestFormat(standard, other); code != impl.ErrNone {
				sharesAs(t, standard, other, word, value)
			}
		}
	}
}

// formatFails checks that the functions that need no list return a code and nothing else.
func formatFails(t *testing.T, c impl.FormatCode, value int64, want int64) {
	t.Helper()
	if word, code := impl.FormatWord(c, value); code != want || len(word) != 0 {
		t.Fatal("FormatWord", c, value, "yields", word, code, "instead of the error", want)
	}
	if text := impl.FormatText(c, value); text != "" {
		t.Fatal("FormatText", c, value, "yields", text)
	}
}

// A code that is not valid comes before numbers that are too great, and before lists, wrong or not.
func TestFormatErrorsOfInvalidCodes(t *testing.T) {
	t.Parallel()
	source := rand.New(rand.NewSource(200))
	codes := slices.DeleteFunc(edgeFormats(), oracleFormat)
	for _, c := range wrappingFormats() {
		if source.Intn(10) == 0 {
			codes = append(codes, c)
		}
	}
	for _, c := range append(codes, impl.FormatCode{}) {
		returns(t, "a function of chapter 8", func() {
			if d, code := impl.FormatDistance(c); code != impl.ErrInvalid || d != 0 {
				t.Fatal("FormatDistance", c, "yields", d, code)
			}
			for _, value := range []int64{0, 1, -1, 256, math.MaxInt64, math.MinInt64} {
				formatFails(t, c, value, impl.ErrInvalid)
			}
			fitting := make([]int64, max(0, min(c.Length, 100)))
			for _, list := range [][]int64{fitting, nil, {}, {2}, {-2, 0}, make([]int64, 15), unknownList(15), unknownList(int64(len(fitting)))} {
				readsNot(t, c, list, impl.ErrInvalid)
				sharesNot(t, c, list, fitting, impl.ErrInvalid)
				sharesNot(t, c, fitting, list, impl.ErrInvalid)
			}
		})
	}
}

// Numbers of the wrong size, also such that are right when they lose their upper bits.
func TestFormatErrorsOfNumbers(t *testing.T) {
	t.Parallel()
	for _, c := range sampleFormats(rand.New(rand.NewSource(201))) {
		count := int64(1) << c.Data
		values := slices.Concat(extremes, []int64{-2, -count, -count - 1, count, count + 1, 2*count - 1, 2 * count, 1 << c.Length, 1<<32 + count - 1, 1 << 56, math.MinInt64 + 3})
		for _, value := range values {
			returns(t, "a function of chapter 8", func() { formatFails(t, c, value, impl.ErrRange) })
		}
		for _, value := range []int64{0, 1, count / 2, count - 1} {
			if text := impl.FormatText(c, value); text != impl.BitsText(goodFormatWord(t, c, value)) || text == "" {
				t.Fatal("FormatText", c, value, "yields", text)
			}
		}
	}
}

// notFormatLists have a wrong length or elements other than -1, 0 and 1.
func notFormatLists(c impl.FormatCode) [][]int64 {
	var lists [][]int64
	for length := int64(0); length <= 2*impl.MaxFormatLength+1; length++ {
		if length != c.Length {
			lists = append(lists, make([]int64, length), unknownList(length), slices.Repeat([]int64{1}, int(length)), slices.Repeat([]int64{2}, int(length)))
		}
	}
	lists = append(lists, nil, []int64{}, make([]int64, c.Length+256), make([]int64, 1<<16+c.Length))
	wrong := append(slices.DeleteFunc(slices.Clone(extremes), func(a int64) bool { return a == -1 }), -3, -2, 2, 3, '0', '1', 255, 256, 257, 1<<32-1)
	for _, value := range wrong {
		for at := range int(c.Length) {
			lists = append(lists, with(make([]int64, c.Length), at, value))
		}
		lists = append(lists, with(unknownList(c.Length), 0, value), with(unknownList(c.Length), int(c.Length)-1, value), slices.Repeat([]int64{value}, int(c.Length)))
	}
	return lists
}

// Lists that are not such come before damage, in one copy and in both of them, and also if the other
// one is whole.
func TestFormatErrorsOfLists(t *testing.T) {
	t.Parallel()
	for _, x := range knownFormats {
		c := x.code
		whole, lost := oracleFormatWord(t, c, 1), unknownList(c.Length)
		readsAs(t, c, whole, 1, 0)
		readsNot(t, c, lost, impl.ErrDamage)
		sharesAs(t, c, whole, lost, 1)
		for _, broken := range notFormatLists(c) {
			returns(t, "a function of chapter 8", func() {
				readsNot(t, c, broken, impl.ErrRange)
				for _, other := range [][]int64{whole, lost, broken, nil, make([]int64, c.Length+1), with(whole, 0, 2)} {
					sharesNot(t, c, broken, other, impl.ErrRange)
					sharesNot(t, c, other, broken, impl.ErrRange)
				}
			})
		}
	}
}

// Nil and empty lists are the same value, and no list of a code.
func TestFormatsOfNoList(t *testing.T) {
	for _, c := range []impl.FormatCode{standard, {Data: 1, Length: 2, Poly: 2}, {Data: 8, Length: 24, Poly: 66671}} {
		word := oracleFormatWord(t, c, 0)
		for _, none := range [][]int64{nil, {}} {
			readsNot(t, c, none, impl.ErrRange)
			sharesNot(t, c, none, none, impl.ErrRange)
			sharesNot(t, c, word, none, impl.ErrRange)
			sharesNot(t, c, none, word, impl.ErrRange)
		}
	}
	for _, none := range [][]int64{nil, {}} {
		readsNot(t, impl.FormatCode{}, none, impl.ErrInvalid)
		sharesNot(t, impl.FormatCode{}, none, none, impl.ErrInvalid)
	}
}

// No argument is changed, and results are new memory.
func TestFormatArgumentsAndResults(t *testing.T) {
	t.Parallel()
	source := rand.New(rand.NewSource(202))
	for _, x := range knownFormats {
		c := x.code
		word := oracleFormatWord(t, c, 1)
		unshared(t, "FormatWord", func() []int64 { out, _ := impl.FormatWord(c, 1); return out })
		unshared(t, "FormatWord", func() []int64 { out, _ := impl.FormatWord(c, 0); return out })
		if again := goodFormatWord(t, c, 1); !slices.Equal(again, word) {
			t.Fatal("FormatWord", c, "yields", again, "after its results are overwritten")
		}
		for _, list := range [][]int64{word, unknownList(c.Length), someList(source, c.Length), word[1:], nil, with(word, 0, 2), append(slices.Clone(word), 0)} {
			a, b := guard(list), guard(someList(source, c.Length))
			for _, c := range []impl.FormatCode{c, {}, standard} {
				impl.NearestFormat(c, a.list)
				impl.FormatShare(c, a.list, b.list)
				impl.FormatShare(c, b.list, a.list)
				impl.FormatShare(c, a.list, a.list)
			}
			a.check(t, "a function of chapter 8")
			b.check(t, "a function of chapter 8")
		}
	}
}

// Both copies may be one and the same list, or overlap.
func TestFormatShareInOneMemory(t *testing.T) {
	t.Parallel()
	source := rand.New(rand.NewSource(203))
	for _, x := range knownFormats {
		b := bookOf(t, x.code)
		for range 50 {
			length := x.code.Length
			word := changed(source, b.words[source.Intn(len(b.words))], 0, min(2, length-1))
			g := guard(append(slices.Clone(word), word...))
			b.checkShare(t, g.list[:length], g.list[:length])
			b.checkShare(t, g.list[:length], g.list[1:length+1])
			b.checkShare(t, g.list[length:], g.list[length-1:2*length-1])
			g.check(t, "FormatShare")
		}
	}
}

// formatAnswers are the results of all functions of the chapter, as a text.
func formatAnswers(c impl.FormatCode, value int64, one, two []int64) string {
	word, first := impl.FormatWord(c, value)
	distance, second := impl.FormatDistance(c)
	number, errors, third := impl.NearestFormat(c, one)
	shared, fourth := impl.FormatShare(c, one, two)
	return fmt.Sprint(impl.IsFormatCode(c), impl.StandardFormat(), word, first, distance, second, number, errors, third, shared, fourth, impl.FormatText(c, value))
}

// No call changes what a later one yields, or one at the same time.
func TestFormatsKeepNoState(t *testing.T) {
	t.Parallel()
	source := rand.New(rand.NewSource(204))
	var calls []func() string
	for _, x := range knownFormats {
		c, length := x.code, x.code.Length
		value, word := source.Int63n(1<<c.Data), oracleFormatWord(t, c, source.Int63n(1<<c.Data))
		for _, one := range [][]int64{word, unknownList(length), someList(source, length), nil, randomBits(source, int(length))} {
			calls = append(calls, func() string { return formatAnswers(c, value, one, word) }, func() string { return formatAnswers(c, -1, word, one) })
		}
		calls = append(calls, func() string {
			return formatAnswers(impl.FormatCode{Data: c.Data, Length: c.Length}, value, word, word)
		})
	}
	answersStay(t, source, calls)
}
