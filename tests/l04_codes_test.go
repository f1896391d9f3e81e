package tests

import (
	"math"
	"math/big"
	"math/rand"
	"slices"
	"testing"

	"loop.example/g00879/impl"
)

// The oracles below do not use what they check: they add and multiply with the oracles of the
// tests of chapter 2, and the value of a word is the sum of its elements times powers of g.

// oraclePowers are the powers of the generator, from g^0 to the last one before they repeat.
func oraclePowers(f impl.Field) []int64 {
	powers := make([]int64, oracleSize(f)-1)
	power := int64(1)
	for n := range powers {
		powers[n] = power
		power = oracleMul(f, power, generatorOf(f))
	}
	return powers
}

// oracleSyndromes multiply by adding exponents, so that long words do not take too long.
func oracleSyndromes(c impl.Code, word []int64) []int64 {
	powers := oraclePowers(c.Field)
	exponent := map[int64]int{}
	for n, power := range powers {
		exponent[power] = n
	}
	out := make([]int64, c.Checks)
	for j := range out {
		for i, element := range word {
			if element == 0 {
				continue
			}
			n := exponent[element] + (j+1)*(int(c.Length)-1-i)
			out[j] = oracleAdd(c.Field, out[j], powers[n%len(powers)])
		}
	}
	return out
}

func oracleCodeWord(c impl.Code, word []int64) bool {
	return isZero(oracleSyndromes(c, word))
}

func isZero(list []int64) bool {
	return !slices.ContainsFunc(list, func(a int64) bool { return a != 0 })
}

// oracleCode needs a valid field.
func oracleCode(c impl.Code) bool {
	if c.Checks < 1 || c.Checks > 64 || c.Length > 255 || c.Length >= oracleSize(c.Field) {
		return false
	}
	return c.Length >= c.Checks+1
}

func oracleDistance(a, b []int64) int64 {
	count := int64(0)
	for i := range a {
		if a[i] != b[i] {
			count++
		}
	}
	return count
}

func oracleWordSum(f impl.Field, a, b []int64) []int64 {
	out := make([]int64, len(a))
	for i := range a {
		out[i] = oracleAdd(f, a[i], b[i])
	}
	return out
}

// sampleCodes have words of the least and the greatest lengths, with the fewest and the most
// check elements, over every sample field.
func sampleCodes() []impl.Code {
	var codes []impl.Code
	for _, f := range sampleFields() {
		longest := min(oracleSize(f)-1, impl.MaxWord)
		most := min(longest-1, impl.MaxChecks)
		for _, c := range []impl.Code{
			{Field: f, Length: 2, Checks: 1},
			{Field: f, Length: 3, Checks: 2},
			{Field: f, Length: 4, Checks: 2},
			{Field: f, Length: longest - 1, Checks: 3},
			{Field: f, Length: longest, Checks: 1},
			{Field: f, Length: longest, Checks: 10},
			{Field: f, Length: longest, Checks: most},
			{Field: f, Length: most + 1, Checks: most},
			{Field: f, Length: longest / 2, Checks: most / 3},
		} {
			if oracleCode(c) && !slices.Contains(codes, c) {
				codes = append(codes, c)
			}
		}
	}
	return codes
}

// smallCodes have so few words that all of them are looked at.
func smallCodes() []impl.Code {
	three := impl.Field{Prime: 3, Power: 1, Poly: 2}
	five := impl.Field{Prime: 5, Power: 1, Poly: 2}
	seven := impl.Field{Prime: 7, Power: 1, Poly: 3}
	eight := impl.Field{Prime: 2, Power: 3, Poly: 11}
	other := impl.Field{Prime: 2, Power: 3, Poly: 13}
	return []impl.Code{
		{Field: three, Length: 2, Checks: 1},
		{Field: five, Length: 2, Checks: 1}, {Field: five, Length: 3, Checks: 1},
		{Field: five, Length: 3, Checks: 2}, {Field: five, Length: 4, Checks: 1},
		{Field: five, Length: 4, Checks: 2}, {Field: five, Length: 4, Checks: 3},
		{Field: seven, Length: 3, Checks: 1}, {Field: seven, Length: 4, Checks: 1},
		{Field: seven, Length: 4, Checks: 2}, {Field: seven, Length: 4, Checks: 3},
		{Field: seven, Length: 5, Checks: 3}, {Field: seven, Length: 5, Checks: 4},
		{Field: eight, Length: 3, Checks: 1}, {Field: eight, Length: 4, Checks: 2},
		{Field: eight, Length: 4, Checks: 3}, {Field: other, Length: 4, Checks: 2},
	}
}

// brokenCodes have a valid field, but are no codes.
func brokenCodes() []impl.Code {
	var codes []impl.Code
	add := func(f impl.Field, length, checks int64) {
		codes = append(codes, impl.Code{Field: f, Length: length, Checks: checks})
	}
	for _, f := range sampleFields() {
		size := oracleSize(f)
		longest := min(size-1, impl.MaxWord)
		most := min(longest-1, impl.MaxChecks)
		for _, checks := range []int64{0, -1, -2, -64, impl.MaxChecks + 1, longest, longest + 1} {
			if checks < 1 || checks > most {
				add(f, longest, checks)
			}
		}
		add(f, impl.MaxChecks+2, impl.MaxChecks+1)
		add(f, most+1, 0)
		for _, checks := range []int64{1, 2, most} {
			for _, length := range []int64{checks, checks - 1, 0, -1, -checks, size, size + 1, impl.MaxWord + 1, 2 * impl.MaxWord} {
				if length <= checks || length > longest {
					add(f, length, checks)
				}
			}
		}
		for _, extreme := range extremes {
			add(f, extreme, 1)
			add(f, extreme, most)
			add(f, longest, extreme)
			add(f, extreme, extreme)
		}
		add(f, math.MinInt64, math.MaxInt64)
		add(f, math.MaxInt64, math.MinInt64)
		add(f, math.MinInt64, 1)
		add(f, 0, -1)
		add(f, 0, 0)
		add(f, 1, 0)
	}
	return codes
}

func randomList(f impl.Field, source *rand.Rand, count int64) []int64 {
	list := make([]int64, count)
	for i := range list {
		list[i] = source.Int63n(oracleSize(f))
	}
	return list
}

// someMessages are messages with zeros at either end, with one element, and of all kinds.
func someMessages(c impl.Code, source *rand.Rand) [][]int64 {
	count := c.Length - c.Checks
	greatest := oracleSize(c.Field) - 1
	zeros := make([]int64, count)
	list := [][]int64{
		zeros,
		slices.Repeat([]int64{1}, int(count)),
		slices.Repeat([]int64{greatest}, int(count)),
		with(zeros, 0, 1),
		with(zeros, int(count-1), 1),
		with(zeros, int(count/2), greatest),
	}
	for range 4 {
		list = append(list, randomList(c.Field, source, count))
	}
	return list
}

// goodWord fails unless a call has ended without an error and with a word of c.
func goodWord(t *testing.T, what string, c impl.Code) func(word []int64, code int64) []int64 {
	return func(word []int64, code int64) []int64 {
		t.Helper()
		if code != impl.ErrNone || !isList(c.Field, word, c.Length) {
			t.Fatal(what, c, "yields", word, code)
		}
		return word
	}
}

func isList(f impl.Field, list []int64, count int64) bool {
	return int64(len(list)) == count &&
		!slices.ContainsFunc(list, func(a int64) bool { return a < 0 || a >= oracleSize(f) })
}

func goodSyndromes(t *testing.T, c impl.Code, word []int64) []int64 {
	t.Helper()
	list, code := impl.SyndromesOf(c, word)
	if code != impl.ErrNone || !isList(c.Field, list, c.Checks) {
		t.Fatal("SyndromesOf", c, word, "yields", list, code)
	}
	return list
}

func goodMessage(t *testing.T, c impl.Code, word []int64) []int64 {
	t.Helper()
	list, code := impl.MessageOf(c, word)
	if code != impl.ErrNone || !isList(c.Field, list, c.Length-c.Checks) {
		t.Fatal("MessageOf", c, word, "yields", list, code)
	}
	return list
}

func goodDistance(t *testing.T, a, b []int64) int64 {
	t.Helper()
	return good(t, "WordDistance")(impl.WordDistance(a, b))
}

func TestCodeLimits(t *testing.T) {
	if impl.MaxChecks != 64 || impl.MaxWord != 255 {
		t.Error("limits", impl.MaxChecks, impl.MaxWord)
	}
}

func TestCodeExample(t *testing.T) {
	f := fieldOf(t, 7)
	for length := int64(3); length <= 6; length++ {
		c := impl.Code{Field: f, Length: length, Checks: 2}
		if p := goodList(t, "GeneratorOf", f)(impl.GeneratorOf(c)); !slices.Equal(p, []int64{6, 2, 1}) {
			t.Error("GeneratorOf", c, p)
		}
	}
}

// Words that are worked out by hand, over the elements 0 to 6 with the generator 3: a word a, b,
// c is a x^2 + b x + c, and it is 0 at 3 and at 2.
func TestCodeByHand(t *testing.T) {
	c := impl.Code{Field: fieldOf(t, 7), Length: 3, Checks: 2}
	if word := goodWord(t, "EncodeWord", c)(impl.EncodeWord(c, []int64{3})); !slices.Equal(word, []int64{3, 6, 4}) {
		t.Error("EncodeWord", word)
	}
	// 1 * 9 + 2 * 3 + 4 is 5, and 1 * 4 + 2 * 2 + 4 is 5.
	if list := goodSyndromes(t, c, []int64{1, 2, 4}); !slices.Equal(list, []int64{5, 5}) {
		t.Error("SyndromesOf", list)
	}
	// 5 * 9 + 1 * 3 + 0 is 6, and 5 * 4 + 1 * 2 + 0 is 1.
	if list := goodSyndromes(t, c, []int64{5, 1, 0}); !slices.Equal(list, []int64{6, 1}) {
		t.Error("SyndromesOf", list)
	}
	if sum := goodWord(t, "AddWords", c)(impl.AddWords(c, []int64{3, 6, 4}, []int64{5, 1, 2})); !slices.Equal(sum, []int64{1, 0, 6}) {
		t.Error("AddWords", sum)
	}
	// In the field of 8 elements, x^3 is x + 1: the generator is 2, and a word a, b is a x + b.
	d := impl.Code{Field: fieldOf(t, 8), Length: 2, Checks: 1}
	if word := goodWord(t, "EncodeWord", d)(impl.EncodeWord(d, []int64{5})); !slices.Equal(word, []int64{5, 1}) {
		t.Error("EncodeWord", word)
	}
}

func TestIsCode(t *testing.T) {
	for _, c := range slices.Concat(sampleCodes(), smallCodes()) {
		if !impl.IsCode(c) {
			t.Error("a code is rejected:", c)
		}
	}
	for _, c := range brokenCodes() {
		returns(t, "IsCode", func() {
			if impl.IsCode(c) {
				t.Error("no code, but accepted:", c)
			}
		})
	}
}

// Every length and every number of check elements, beyond all limits.
func TestIsCodeEverywhere(t *testing.T) {
	for _, size := range []int64{3, 5, 8, 64, 67, 128, 251, 256, 257, 263} {
		f := fieldOf(t, size)
		count := 0
		for length := int64(-2); length <= 260; length++ {
			for checks := int64(-2); checks <= 67; checks++ {
				c := impl.Code{Field: f, Length: length, Checks: checks}
				got := impl.IsCode(c)
				if got != oracleCode(c) {
					t.Fatal("IsCode", c, got)
				}
				if got {
					count++
				}
			}
		}
		if count == 0 {
			t.Error(f, "has no codes")
		}
	}
}

func TestIsCodeAtTheLimits(t *testing.T) {
	for _, f := range sampleFields() {
		size := oracleSize(f)
		for _, length := range []int64{1, 2, 3, 63, 64, 65, 66, 254, 255, 256, size - 2, size - 1, size, size + 1} {
			for _, checks := range []int64{0, 1, 2, 63, 64, 65, length - 2, length - 1, length, length + 1} {
				c := impl.Code{Field: f, Length: length, Checks: checks}
				if got := impl.IsCode(c); got != oracleCode(c) {
					t.Fatal("IsCode", c, got)
				}
			}
		}
	}
}

// A code holds its field: with another one it is another code.
func TestIsCodeOfInvalidFields(t *testing.T) {
	for _, f := range brokenFields() {
		for _, length := range []int64{2, 3, 4, 7, 100, 255} {
			for _, checks := range []int64{1, 2, 64} {
				c := impl.Code{Field: f, Length: length, Checks: checks}
				returns(t, "IsCode", func() {
					if impl.IsCode(c) {
						t.Error("no code, but accepted:", c)
					}
				})
			}
		}
	}
	if impl.IsCode(impl.Code{}) {
		t.Error("the zero value is a code")
	}
}

func TestGeneratorOf(t *testing.T) {
	for _, c := range sampleCodes() {
		p := goodList(t, "GeneratorOf", c.Field)(impl.GeneratorOf(c))
		powers := oraclePowers(c.Field)
		if want := rootedAt(c.Field, powers[1:c.Checks+1]...); !slices.Equal(p, want) {
			t.Fatal(c, "has the generator polynomial", p)
		}
		if int64(len(p)) != c.Checks+1 || p[c.Checks] != 1 {
			t.Fatal(c, "has the generator polynomial", p)
		}
	}
}

// The roots are found by looking at every element, and by chapter 3.
func TestGeneratorOfHasExactlyItsRoots(t *testing.T) {
	for _, c := range sampleCodes() {
		p := goodList(t, "GeneratorOf", c.Field)(impl.GeneratorOf(c))
		want := slices.Sorted(slices.Values(oraclePowers(c.Field)[1 : c.Checks+1]))
		if roots := goodRoots(t, c.Field, p); !slices.Equal(roots, want) {
			t.Fatal(c, "has the generator polynomial", p, "with the roots", roots)
		}
		if c.Checks > 12 {
			continue
		}
		for _, x := range allElements(c.Field) {
			if (oracleValue(c.Field, p, x) == 0) != slices.Contains(want, x) {
				t.Fatal(c, "has the generator polynomial", p, "with a wrong value at", x)
			}
		}
	}
}

// Promise 4: an encoded word is a code word with its message.
func TestEncodeWord(t *testing.T) {
	source := rand.New(rand.NewSource(61))
	for _, c := range sampleCodes() {
		for _, message := range someMessages(c, source) {
			word := goodWord(t, "EncodeWord", c)(impl.EncodeWord(c, message))
			if !slices.Equal(word[:len(message)], message) {
				t.Fatal(c, message, "is encoded as", word)
			}
			if !oracleCodeWord(c, word) || !impl.IsCodeWord(c, word) {
				t.Fatal(c, message, "is encoded as", word, "which is no code word")
			}
			if list := goodSyndromes(t, c, word); !isZero(list) {
				t.Fatal(c, message, "is encoded as", word, "with the syndromes", list)
			}
			if again := goodMessage(t, c, word); !slices.Equal(again, message) {
				t.Fatal(c, message, "is encoded as", word, "with the message", again)
			}
			if isZero(message) && !isZero(word) {
				t.Fatal(c, "zeros are encoded as", word)
			}
		}
	}
}

// wordPolynomial is the polynomial of a word: its last element is the coefficient of x^0.
func wordPolynomial(word []int64) []int64 {
	p := slices.Clone(word)
	slices.Reverse(p)
	return strip(p)
}

func TestGeneratorDividesCodeWords(t *testing.T) {
	source := rand.New(rand.NewSource(62))
	for _, c := range sampleCodes() {
		divisor := goodList(t, "GeneratorOf", c.Field)(impl.GeneratorOf(c))
		for _, message := range someMessages(c, source) {
			word := goodWord(t, "EncodeWord", c)(impl.EncodeWord(c, message))
			if !dividesBy(t, c.Field, wordPolynomial(word), divisor) {
				t.Fatal(c, message, "is encoded as", word, "which is no multiple of", divisor)
			}
		}
		// And the other way round: the multiples that are short enough are code words.
		for range 3 {
			factor := randomPolynomial(c.Field, source, 1+source.Intn(int(c.Length-c.Checks)))
			word := make([]int64, c.Length)
			for power, a := range oracleProduct(c.Field, divisor, factor) {
				word[len(word)-1-power] = a
			}
			if !impl.IsCodeWord(c, word) {
				t.Fatal(c, word, "is a multiple of", divisor, "but no code word")
			}
			again := goodWord(t, "EncodeWord", c)(impl.EncodeWord(c, word[:c.Length-c.Checks]))
			if !slices.Equal(again, word) {
				t.Fatal(c, "two code words have one message:", again, word)
			}
		}
	}
}

// allWords are all lists of count elements.
func allWords(f impl.Field, count int64) [][]int64 {
	words := [][]int64{{}}
	for range count {
		var longer [][]int64
		for _, word := range words {
			for _, a := range allElements(f) {
				longer = append(longer, append(slices.Clone(word), a))
			}
		}
		words = longer
	}
	return words
}

// Every word of a small code: a word that is no code word has a syndrome other than 0, and every
// message has one code word, the encoded one.
func TestAllWordsOfSmallCodes(t *testing.T) {
	for _, c := range smallCodes() {
		found := 0
		for _, word := range allWords(c.Field, c.Length) {
			list := goodSyndromes(t, c, word)
			if !slices.Equal(list, oracleSyndromes(c, word)) {
				t.Fatal(c, word, "has the syndromes", list)
			}
			message := goodMessage(t, c, word)
			encoded := goodWord(t, "EncodeWord", c)(impl.EncodeWord(c, message))
			isEncoded := slices.Equal(encoded, word)
			if impl.IsCodeWord(c, word) != isEncoded || isZero(list) != isEncoded {
				t.Fatal(c, word, "has the syndromes", list, "and", message, "is encoded as", encoded)
			}
			if isEncoded {
				found++
			}
		}
		if messages := len(allWords(c.Field, c.Length-c.Checks)); found != messages {
			t.Error(c, "has", found, "code words and", messages, "messages")
		}
	}
}

// Promise 4: different code words differ at more indices than there are check elements.
func TestDistancesOfSmallCodes(t *testing.T) {
	for _, c := range smallCodes() {
		var words [][]int64
		for _, message := range allWords(c.Field, c.Length-c.Checks) {
			words = append(words, goodWord(t, "EncodeWord", c)(impl.EncodeWord(c, message)))
		}
		least := c.Length + 1
		for i, a := range words {
			for _, b := range words[:i] {
				distance := goodDistance(t, a, b)
				if distance != oracleDistance(a, b) || distance <= c.Checks {
					t.Fatal(c, "has code words with the distance", distance, a, b)
				}
				least = min(least, distance)
			}
		}
		// The generator polynomial is a code word with Checks + 1 elements.
		if least != c.Checks+1 {
			t.Error(c, "has code words with no distance less than", least)
		}
	}
}

func TestDistancesOfGreatCodes(t *testing.T) {
	source := rand.New(rand.NewSource(63))
	for _, c := range sampleCodes() {
		messages := someMessages(c, source)
		// Messages that differ at one index have the least chance of distant code words.
		for at := range messages[0] {
			if at < 6 || at > len(messages[0])-6 {
				near := slices.Clone(messages[len(messages)-1])
				near[at] = oracleAdd(c.Field, near[at], 1+source.Int63n(oracleSize(c.Field)-1))
				messages = append(messages, near)
			}
		}
		var words [][]int64
		for _, message := range messages {
			words = append(words, goodWord(t, "EncodeWord", c)(impl.EncodeWord(c, message)))
		}
		for i, a := range words {
			for j, b := range words[:i] {
				distance := goodDistance(t, a, b)
				if !slices.Equal(messages[i], messages[j]) && distance <= c.Checks {
					t.Fatal(c, "has code words with the distance", distance, a, b)
				}
			}
		}
	}
}

// A code word that is changed at up to Checks indices is none any more.
func TestChangedCodeWords(t *testing.T) {
	source := rand.New(rand.NewSource(64))
	for _, c := range sampleCodes() {
		size := oracleSize(c.Field)
		word := goodWord(t, "EncodeWord", c)(impl.EncodeWord(c, randomList(c.Field, source, c.Length-c.Checks)))
		change := func(indices ...int) {
			t.Helper()
			changed := slices.Clone(word)
			for _, i := range indices {
				changed[i] = oracleAdd(c.Field, changed[i], 1+source.Int63n(size-1))
			}
			list := goodSyndromes(t, c, changed)
			if isZero(list) || impl.IsCodeWord(c, changed) || oracleCodeWord(c, changed) {
				t.Fatal(c, word, "is a code word, and so is", changed)
			}
			if distance := goodDistance(t, word, changed); distance != int64(len(indices)) {
				t.Fatal(c, word, changed, "have the distance", distance)
			}
		}
		for i := 0; i < len(word); i += 1 + len(word)/16 {
			change(i)
		}
		change(len(word) - 1)
		for range 6 {
			change(source.Perm(len(word))[:1+source.Int63n(c.Checks)]...)
		}
		change(source.Perm(len(word))[:c.Checks]...)
	}
}

func TestSyndromesOf(t *testing.T) {
	source := rand.New(rand.NewSource(65))
	for _, c := range sampleCodes() {
		for range 4 {
			word := randomList(c.Field, source, c.Length)
			list := goodSyndromes(t, c, word)
			if !slices.Equal(list, oracleSyndromes(c, word)) {
				t.Fatal(c, word, "has the syndromes", list)
			}
			if impl.IsCodeWord(c, word) != oracleCodeWord(c, word) {
				t.Fatal(c, word, "is rightly or wrongly a code word")
			}
		}
		if list := goodSyndromes(t, c, make([]int64, c.Length)); !isZero(list) || !impl.IsCodeWord(c, make([]int64, c.Length)) {
			t.Fatal(c, "zeros have the syndromes", list)
		}
	}
}

// A word with one element a at the index i is a x^(Length - 1 - i).
func TestSyndromesOfSingleElements(t *testing.T) {
	source := rand.New(rand.NewSource(66))
	for _, c := range sampleCodes() {
		powers := oraclePowers(c.Field)
		for i := 0; i < int(c.Length); i += 1 + int(c.Length)/12 {
			for _, a := range []int64{1, oracleSize(c.Field) - 1, 1 + source.Int63n(oracleSize(c.Field)-1)} {
				list := goodSyndromes(t, c, with(make([]int64, c.Length), i, a))
				for j, value := range list {
					power := powers[(j+1)*(int(c.Length)-1-i)%len(powers)]
					if value != oracleMul(c.Field, a, power) {
						t.Fatal(c, a, "at", i, "has the syndromes", list)
					}
				}
			}
		}
		// The last element is the coefficient of x^0, which counts alike everywhere.
		if list := goodSyndromes(t, c, with(make([]int64, c.Length), int(c.Length)-1, 2)); !slices.Equal(list, slices.Repeat([]int64{2}, int(c.Checks))) {
			t.Fatal(c, "the last element has the syndromes", list)
		}
		// The one before it is the coefficient of x.
		if list := goodSyndromes(t, c, with(make([]int64, c.Length), int(c.Length)-2, 1)); !slices.Equal(list, powers[1:c.Checks+1]) {
			t.Fatal(c, "the element before the last has the syndromes", list)
		}
	}
}

// The syndromes agree with the values of chapter 3.
func TestSyndromesAreValues(t *testing.T) {
	source := rand.New(rand.NewSource(67))
	for _, c := range sampleCodes() {
		powers := oraclePowers(c.Field)
		word := randomList(c.Field, source, c.Length)
		for j, value := range goodSyndromes(t, c, word) {
			if want := good(t, "PolyEval")(impl.PolyEval(c.Field, wordPolynomial(word), powers[j+1])); value != want {
				t.Fatal(c, word, "has the syndrome", value, "and not", want)
			}
		}
	}
}

func TestAddWords(t *testing.T) {
	source := rand.New(rand.NewSource(68))
	for _, c := range sampleCodes() {
		greatest := slices.Repeat([]int64{oracleSize(c.Field) - 1}, int(c.Length))
		zeros := make([]int64, c.Length)
		words := [][]int64{zeros, greatest, randomList(c.Field, source, c.Length), randomList(c.Field, source, c.Length)}
		for _, a := range words {
			for _, b := range words {
				sum := goodWord(t, "AddWords", c)(impl.AddWords(c, a, b))
				if !slices.Equal(sum, oracleWordSum(c.Field, a, b)) {
					t.Fatal(c, a, "plus", b, "is", sum)
				}
				// The syndromes of a sum are the sums of the syndromes.
				list := goodSyndromes(t, c, sum)
				if !slices.Equal(list, oracleWordSum(c.Field, goodSyndromes(t, c, a), goodSyndromes(t, c, b))) {
					t.Fatal(c, a, "plus", b, "has the syndromes", list)
				}
			}
		}
	}
}

// The sum of two code words is the code word of the sum of both messages.
func TestSumsOfCodeWords(t *testing.T) {
	source := rand.New(rand.NewSource(69))
	for _, c := range sampleCodes() {
		messages := someMessages(c, source)
		for i, message := range messages {
			other := messages[(i*3+1)%len(messages)]
			a := goodWord(t, "EncodeWord", c)(impl.EncodeWord(c, message))
			b := goodWord(t, "EncodeWord", c)(impl.EncodeWord(c, other))
			sum := goodWord(t, "AddWords", c)(impl.AddWords(c, a, b))
			if !impl.IsCodeWord(c, sum) || !oracleCodeWord(c, sum) {
				t.Fatal(c, a, "plus", b, "is", sum, "which is no code word")
			}
			want := goodWord(t, "EncodeWord", c)(impl.EncodeWord(c, oracleWordSum(c.Field, message, other)))
			if !slices.Equal(sum, want) {
				t.Fatal(c, a, "plus", b, "is", sum, "and not", want)
			}
		}
	}
}

// The message of a word that is no code word is still its beginning.
func TestMessageOf(t *testing.T) {
	source := rand.New(rand.NewSource(70))
	for _, c := range sampleCodes() {
		for range 3 {
			word := randomList(c.Field, source, c.Length)
			if message := goodMessage(t, c, word); !slices.Equal(message, word[:c.Length-c.Checks]) {
				t.Fatal(c, word, "has the message", message)
			}
		}
	}
}

func TestWordDistance(t *testing.T) {
	source := rand.New(rand.NewSource(71))
	for _, count := range []int{0, 1, 2, 3, 20, 254, impl.MaxWord} {
		a := make([]int64, count)
		for i := range a {
			a[i] = source.Int63()
		}
		if distance := goodDistance(t, a, slices.Clone(a)); distance != 0 {
			t.Error("equal lists have the distance", distance)
		}
		for _, changes := range []int{0, 1, 2, count / 2, count} {
			b := slices.Clone(a)
			for _, i := range source.Perm(count)[:min(changes, count)] {
				b[i] -= 1 + int64(source.Intn(5))
			}
			if distance := goodDistance(t, a, b); distance != int64(min(changes, count)) {
				t.Error(changes, "changes of", count, "are the distance", distance)
			}
		}
	}
	// Any numbers: also those that are elements of no field, and the ends of the list.
	for _, one := range extremes {
		for _, two := range slices.Concat(extremes, []int64{0, 1}) {
			want := int64(0)
			if one != two {
				want = 1
			}
			for _, at := range []int{0, 1, 2} {
				a, b := with([]int64{5, 5, 5}, at, one), with([]int64{5, 5, 5}, at, two)
				if goodDistance(t, a, b) != want || goodDistance(t, b, a) != want {
					t.Error("WordDistance", a, b)
				}
			}
		}
	}
	for _, a := range [][]int64{nil, {}} {
		for _, b := range [][]int64{nil, {}} {
			if distance := goodDistance(t, a, b); distance != 0 {
				t.Error("empty lists have the distance", distance)
			}
		}
	}
}

func TestWordDistanceErrors(t *testing.T) {
	lengths := []int{0, 1, 2, 100, 254, 255, 256, 257, 512, 5000}
	for _, one := range lengths {
		for _, two := range lengths {
			want := int64(impl.ErrNone)
			switch {
			case one > 255 || two > 255: // The limit comes before different lengths.
				want = impl.ErrLimit
			case one != two:
				want = impl.ErrState
			}
			distance, code := impl.WordDistance(slices.Repeat([]int64{1}, one), slices.Repeat([]int64{2}, two))
			wantDistance := int64(0)
			if want == impl.ErrNone {
				wantDistance = int64(one)
			}
			if code != want || distance != wantDistance {
				t.Error("WordDistance of", one, "and", two, "elements yields", distance, code)
			}
		}
	}
	if distance, code := impl.WordDistance(nil, []int64{0}); code != impl.ErrState || distance != 0 {
		t.Error("WordDistance of nil and an element yields", distance, code)
	}
}

// oracleWithin computes with integers of any size.
func oracleWithin(c impl.Code, errors, erasures int64) bool {
	sum := new(big.Int).Mul(big.NewInt(2), big.NewInt(errors))
	sum.Add(sum, big.NewInt(erasures))
	return errors >= 0 && erasures >= 0 && sum.Cmp(big.NewInt(c.Checks)) <= 0
}

func TestIsWithin(t *testing.T) {
	for _, f := range []impl.Field{fieldOf(t, 256), fieldOf(t, 67)} {
		for _, checks := range []int64{1, 2, 3, 10, 11, 63, impl.MaxChecks} {
			c := impl.Code{Field: f, Length: checks + 1, Checks: checks}
			for errors := int64(-3); errors <= 67; errors++ {
				for erasures := int64(-3); erasures <= 67; erasures++ {
					if got := impl.IsWithin(c, errors, erasures); got != oracleWithin(c, errors, erasures) {
						t.Fatal("IsWithin", c, errors, erasures, got)
					}
				}
			}
		}
	}
}

// Twice a great number overflows to a small one, and a sum of great ones does too.
func TestIsWithinExtremes(t *testing.T) {
	great := slices.Concat(extremes, []int64{
		0, 1, 2, 31, 32, 33, 64, 65, -2, -3, -64, 1<<62 - 1, 1<<62 + 1, 1<<62 + 2, 1<<62 + 16, -1 << 62, -1<<62 + 1,
		math.MaxInt64 - 2, math.MaxInt64 - 63, math.MinInt64 + 2, math.MinInt64 + 64, 1<<31 + 1, 1 << 33,
	})
	for _, c := range sampleCodes() {
		for _, errors := range great {
			for _, erasures := range great {
				if got := impl.IsWithin(c, errors, erasures); got != oracleWithin(c, errors, erasures) {
					t.Fatal("IsWithin", c, errors, erasures, got)
				}
			}
		}
	}
}

// codeCalls are the functions that have a code and fail, with message for EncodeWord, and with a
// wherever there is a word; b stands for the second one.
func codeCalls(c impl.Code, message, a, b []int64) map[string]func() ([]int64, int64) {
	return map[string]func() ([]int64, int64){
		"GeneratorOf": func() ([]int64, int64) { return impl.GeneratorOf(c) },
		"EncodeWord":  func() ([]int64, int64) { return impl.EncodeWord(c, message) },
		"SyndromesOf": func() ([]int64, int64) { return impl.SyndromesOf(c, a) },
		"MessageOf":   func() ([]int64, int64) { return impl.MessageOf(c, a) },
		"AddWords":    func() ([]int64, int64) { return impl.AddWords(c, a, b) },
	}
}

// codeFail checks that the functions with these names return a code and an empty list, all of
// them if there is no name; IsCodeWord among them reports false.
func codeFail(t *testing.T, c impl.Code, message, a, b []int64, want int64, names ...string) {
	t.Helper()
	returns(t, "a function of chapter 4", func() {
		for name, call := range codeCalls(c, message, a, b) {
			if len(names) > 0 && !slices.Contains(names, name) {
				continue
			}
			if list, code := call(); code != want || len(list) != 0 {
				t.Fatal(name, c, message, a, b, "yields", list, code, "instead of the error", want)
			}
		}
		if (len(names) == 0 || slices.Contains(names, "IsCodeWord")) && impl.IsCodeWord(c, a) {
			t.Fatal("IsCodeWord", c, a)
		}
	})
}

// invalidCodes fail for the field or for the numbers.
func invalidCodes() []impl.Code {
	codes := append(brokenCodes(), impl.Code{})
	for i, f := range brokenFields() {
		lengths := []int64{2, 4, 6, 255, -1}
		codes = append(codes, impl.Code{Field: f, Length: lengths[i%len(lengths)], Checks: 1},
			impl.Code{Field: f, Length: 4, Checks: 2}, impl.Code{Field: f})
	}
	return codes
}

// A code that is not valid comes before everything else; lists that would fit do not help.
func TestCodeErrorsOfInvalidCodes(t *testing.T) {
	for _, c := range invalidCodes() {
		length := max(0, min(c.Length, 600))
		messageLength := int64(0)
		if c.Checks >= 0 && c.Checks <= length {
			messageLength = length - c.Checks
		}
		zeros, message := make([]int64, length), make([]int64, messageLength)
		codeFail(t, c, message, zeros, zeros, impl.ErrInvalid)
		codeFail(t, c, nil, nil, nil, impl.ErrInvalid)
		codeFail(t, c, []int64{-1}, []int64{math.MaxInt64}, nil, impl.ErrInvalid)
		codeFail(t, c, []int64{0, 0}, []int64{0, 0, 0, 0}, []int64{0, 0, 0, 0}, impl.ErrInvalid)
	}
}

func TestIsWithinOfInvalidCodes(t *testing.T) {
	for _, c := range invalidCodes() {
		for _, errors := range []int64{0, 1, -1, math.MinInt64, math.MaxInt64} {
			for _, erasures := range []int64{0, 1, -1, math.MinInt64, math.MaxInt64} {
				returns(t, "IsWithin", func() {
					if impl.IsWithin(c, errors, erasures) {
						t.Fatal("IsWithin", c, errors, erasures)
					}
				})
			}
		}
	}
}

// Lists with a wrong length are no words, whatever they have.
func TestCodeErrorsOfLengths(t *testing.T) {
	for _, c := range sampleCodes() {
		word, message := make([]int64, c.Length), make([]int64, c.Length-c.Checks)
		for _, count := range []int64{0, 1, 2, c.Checks, c.Length - c.Checks - 1, c.Length - c.Checks, c.Length - c.Checks + 1,
			c.Length - 1, c.Length, c.Length + 1, 2 * c.Length, 256, 257, 1021, 5000} {
			for _, element := range []int64{0, 1, -1} {
				wrong := slices.Repeat([]int64{element}, int(count))
				if count != c.Length {
					codeFail(t, c, message, wrong, word, impl.ErrRange, "SyndromesOf", "MessageOf", "AddWords", "IsCodeWord")
					codeFail(t, c, message, word, wrong, impl.ErrRange, "AddWords")
					codeFail(t, c, message, wrong, wrong, impl.ErrRange, "AddWords")
				}
				if count != c.Length-c.Checks {
					codeFail(t, c, wrong, word, word, impl.ErrRange, "EncodeWord")
				}
			}
		}
		for _, empty := range [][]int64{nil, {}} {
			codeFail(t, c, empty, empty, word, impl.ErrRange, "EncodeWord", "SyndromesOf", "MessageOf", "AddWords", "IsCodeWord")
			codeFail(t, c, empty, word, empty, impl.ErrRange, "AddWords")
		}
	}
}

// A number that is no element is found wherever it is: also among the check elements, and behind
// the message.
func TestCodeErrorsOfElements(t *testing.T) {
	for _, c := range sampleCodes() {
		word, message := make([]int64, c.Length), make([]int64, c.Length-c.Checks)
		places := []int{0, 1, len(message) - 1, len(message), len(word) / 2, len(word) - 1}
		for _, wrong := range noElements(c.Field) {
			for _, at := range places {
				bad := with(word, at, wrong)
				codeFail(t, c, message, bad, word, impl.ErrRange, "SyndromesOf", "MessageOf", "AddWords", "IsCodeWord")
				codeFail(t, c, message, word, bad, impl.ErrRange, "AddWords")
				codeFail(t, c, message, bad, bad, impl.ErrRange, "AddWords")
				if at < len(message) {
					codeFail(t, c, with(message, at, wrong), word, word, impl.ErrRange, "EncodeWord")
				}
			}
		}
		// The greatest element is one, everywhere.
		greatest := slices.Repeat([]int64{oracleSize(c.Field) - 1}, int(c.Length))
		for name, call := range codeCalls(c, greatest[:len(message)], greatest, greatest) {
			if list, code := call(); code != impl.ErrNone || len(list) == 0 {
				t.Error(name, c, "of the greatest element yields", list, code)
			}
		}
	}
}

func TestCodeArgumentsAndResults(t *testing.T) {
	source := rand.New(rand.NewSource(72))
	for _, c := range sampleCodes() {
		message := guard(randomList(c.Field, source, c.Length-c.Checks))
		encoded := goodWord(t, "EncodeWord", c)(impl.EncodeWord(c, message.list))
		message.check(t, "EncodeWord")
		one, two := guard(randomList(c.Field, source, c.Length)), guard(encoded)
		memory := func(name string, call func() ([]int64, int64)) {
			t.Helper()
			unshared(t, name, func() []int64 { out, _ := call(); return out }, message, one, two)
		}
		memory("GeneratorOf", func() ([]int64, int64) { return impl.GeneratorOf(c) })
		memory("EncodeWord", func() ([]int64, int64) { return impl.EncodeWord(c, message.list) })
		memory("AddWords", func() ([]int64, int64) { return impl.AddWords(c, one.list, two.list) })
		memory("AddWords", func() ([]int64, int64) { return impl.AddWords(c, two.list, one.list) })
		memory("AddWords", func() ([]int64, int64) { return impl.AddWords(c, one.list, one.list) })
		memory("AddWords", func() ([]int64, int64) { return impl.AddWords(c, one.list, make([]int64, c.Length)) })
		for _, word := range [][]int64{one.list, two.list} {
			memory("SyndromesOf", func() ([]int64, int64) { return impl.SyndromesOf(c, word) })
			memory("MessageOf", func() ([]int64, int64) { return impl.MessageOf(c, word) })
			memory("IsCodeWord", func() ([]int64, int64) {
				impl.IsCodeWord(c, word)
				return nil, 0
			})
			memory("WordDistance", func() ([]int64, int64) {
				distance, code := impl.WordDistance(word, one.list)
				return []int64{distance}, code
			})
		}
	}
}

// A call that fails leaves its arguments alone too.
func TestCodeArgumentsOfErrors(t *testing.T) {
	source := rand.New(rand.NewSource(73))
	for _, c := range sampleCodes() {
		word := guard(append(randomList(c.Field, source, c.Length-1), -1))
		short := guard(randomList(c.Field, source, c.Length-c.Checks-1))
		codeFail(t, c, short.list, word.list, word.list, impl.ErrRange, "EncodeWord", "SyndromesOf", "MessageOf", "AddWords", "IsCodeWord")
		codeFail(t, c, short.list, word.list[:c.Length-1], word.list, impl.ErrRange, "SyndromesOf", "MessageOf", "AddWords", "IsCodeWord")
		for _, broken := range []impl.Code{{Field: c.Field, Length: c.Length}, {Length: c.Length, Checks: c.Checks}} {
			codeFail(t, broken, short.list, word.list, word.list, impl.ErrInvalid)
		}
		word.check(t, "a function of chapter 4")
		short.check(t, "a function of chapter 4")
	}
}

// Two words may overlap in memory.
func TestCodeWordsInOneMemory(t *testing.T) {
	source := rand.New(rand.NewSource(74))
	for _, c := range sampleCodes() {
		whole := guard(randomList(c.Field, source, c.Length+1))
		a, b := whole.list[:c.Length], whole.list[1:]
		sum := goodWord(t, "AddWords", c)(impl.AddWords(c, a, b))
		if !slices.Equal(sum, oracleWordSum(c.Field, a, b)) {
			t.Fatal(c, a, "plus", b, "is", sum)
		}
		if distance := goodDistance(t, a, b); distance != oracleDistance(a, b) {
			t.Fatal(a, b, "have the distance", distance)
		}
		// A message may be the beginning of a word.
		word := goodWord(t, "EncodeWord", c)(impl.EncodeWord(c, a[:c.Length-c.Checks]))
		if !oracleCodeWord(c, word) {
			t.Fatal(c, a, "is encoded as", word)
		}
		whole.check(t, "a function of chapter 4")
	}
}

// No call changes what a later one with another code yields.
func TestCodesKeepNoState(t *testing.T) {
	codes := sampleCodes()
	lists := func(c impl.Code) (message, a, b []int64) {
		source := rand.New(rand.NewSource(75))
		return randomList(c.Field, source, c.Length-c.Checks), randomList(c.Field, source, c.Length), randomList(c.Field, source, c.Length)
	}
	first := make([]map[string][]int64, len(codes))
	for i, c := range codes {
		first[i] = map[string][]int64{}
		message, a, b := lists(c)
		for name, call := range codeCalls(c, message, a, b) {
			first[i][name], _ = call()
		}
	}
	for i := len(codes) - 1; i >= 0; i-- {
		message, a, b := lists(codes[i])
		for name, call := range codeCalls(codes[i], message, a, b) {
			list, code := call()
			if !slices.Equal(list, first[i][name]) || code != impl.ErrNone {
				t.Error(name, codes[i], "yields", first[i][name], "and then", list, code)
			}
		}
	}
}

// Codes that differ only in the Poly of their fields have different words.
func TestCodesOfOtherPolys(t *testing.T) {
	for _, polys := range [][2]impl.Field{
		{{Prime: 2, Power: 3, Poly: 11}, {Prime: 2, Power: 3, Poly: 13}},
		{{Prime: 2, Power: 8, Poly: 285}, {Prime: 2, Power: 8, Poly: 501}},
	} {
		one := impl.Code{Field: polys[0], Length: 7, Checks: 3}
		two := impl.Code{Field: polys[1], Length: 7, Checks: 3}
		message := []int64{1, 2, 3, 4}
		a := goodWord(t, "EncodeWord", one)(impl.EncodeWord(one, message))
		b := goodWord(t, "EncodeWord", two)(impl.EncodeWord(two, message))
		if slices.Equal(a, b) || impl.IsCodeWord(one, b) || impl.IsCodeWord(two, a) {
			t.Error(one, two, "have the words", a, b)
		}
	}
}
