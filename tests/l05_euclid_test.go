package tests

import (
	"math"
	"math/bits"
	"math/rand"
	"slices"
	"strconv"
	"strings"
	"testing"

	"loop.example/g00879/impl"
)

// The oracles below do not use what they check: small codes are searched through, great words are
// held against what was sent, and syndromes and products are those of the tests before.

// oracleLocator multiplies with the oracles of the tests of chapter 3.
func oracleLocator(c impl.Code, indices []int64) []int64 {
	powers := oraclePowers(c.Field)
	p := []int64{1}
	for _, i := range indices {
		p = oracleProduct(c.Field, p, []int64{1, oracleNegative(c.Field, powers[c.Length-1-i])})
	}
	return p
}

func oracleDifferences(a, b []int64) []int64 {
	var indices []int64
	for i := range a {
		if a[i] != b[i] {
			indices = append(indices, int64(i))
		}
	}
	return indices
}

// oracleDamage counts erasures once and other differences twice.
func oracleDamage(word, sent, erasures []int64) int64 {
	damage := int64(0)
	for i := range word {
		switch {
		case slices.Contains(erasures, int64(i)):
			damage++
		case word[i] != sent[i]:
			damage += 2
		}
	}
	return damage
}

// numbersUpTo are 0 to count - 1.
func numbersUpTo(count int64) []int64 {
	list := make([]int64, count)
	for i := range list {
		list[i] = int64(i)
	}
	return list
}

// someIndices are in order, and none is there twice.
func someIndices(c impl.Code, source *rand.Rand, count int64) []int64 {
	indices := numbersUpTo(c.Length)
	source.Shuffle(len(indices), func(i, j int) { indices[i], indices[j] = indices[j], indices[i] })
	return slices.Sorted(slices.Values(indices[:count]))
}

// halves are two lists of random indices that have none in common.
func halves(c impl.Code, source *rand.Rand, one, two int64) (a, b []int64) {
	both := someIndices(c, source, one+two)
	source.Shuffle(len(both), func(i, j int) { both[i], both[j] = both[j], both[i] })
	a, b = both[:one], both[one:]
	slices.Sort(a)
	slices.Sort(b)
	return a, b
}

// masked are the indices of a small code whose bits are set.
func masked(mask uint64) []int64 {
	var indices []int64
	for i := range int64(64) {
		if mask>>i&1 == 1 {
			indices = append(indices, i)
		}
	}
	return indices
}

func maskOf(indices []int64) uint64 {
	mask := uint64(0)
	for _, i := range indices {
		mask |= 1 << i
	}
	return mask
}

// changedAt has another element at each of the indices.
func changedAt(c impl.Code, source *rand.Rand, word []int64, indices []int64) []int64 {
	changed := slices.Clone(word)
	for _, i := range indices {
		changed[i] = oracleAdd(c.Field, changed[i], 1+source.Int63n(oracleSize(c.Field)-1))
	}
	return changed
}

// placed is a word with these values at the indices and 0 elsewhere.
func placed(c impl.Code, indices, values []int64) []int64 {
	word := make([]int64, c.Length)
	for k, i := range indices {
		word[i] = values[k]
	}
	return word
}

func textOf(list []int64) string {
	var text strings.Builder
	for _, a := range list {
		text.WriteString(strconv.FormatInt(a, 10) + " ")
	}
	return text.String()
}

func someCodeWord(t *testing.T, c impl.Code, source *rand.Rand) []int64 {
	t.Helper()
	return goodWord(t, "EncodeWord", c)(impl.EncodeWord(c, randomList(c.Field, source, c.Length-c.Checks)))
}

// correct checks all that is true of every word with erasures: either there is a code word within
// the bound, with exactly the indices at which it differs, or the call ends in ErrDamage.
func correct(t *testing.T, c impl.Code, word, erasures []int64) (corrected []int64, found bool) {
	t.Helper()
	corrected, indices, code := impl.CorrectWord(c, word, erasures)
	if impl.IsCorrectable(c, word, erasures) != (code == impl.ErrNone) {
		t.Fatal("IsCorrectable", c, word, erasures, "does not agree with", code)
	}
	if code != impl.ErrNone {
		if code != impl.ErrDamage || len(corrected) != 0 || len(indices) != 0 {
			t.Fatal("CorrectWord", c, word, erasures, "yields", corrected, indices, code)
		}
		return nil, false
	}
	if !isList(c.Field, corrected, c.Length) || !impl.IsCodeWord(c, corrected) {
		t.Fatal("CorrectWord", c, word, erasures, "yields", corrected, "which is no code word")
	}
	if !slices.Equal(indices, oracleDifferences(word, corrected)) || !isIncreasing(indices) {
		t.Fatal("CorrectWord", c, word, erasures, "yields", corrected, "with the indices", indices)
	}
	if damage := oracleDamage(word, corrected, erasures); damage > c.Checks {
		t.Fatal("CorrectWord", c, word, erasures, "yields", corrected, "at the damage", damage)
	}
	return corrected, true
}

// correctsTo fails unless the code word that was sent is the corrected one.
func correctsTo(t *testing.T, c impl.Code, word, erasures, sent []int64) {
	t.Helper()
	if corrected, found := correct(t, c, word, erasures); !found || !slices.Equal(corrected, sent) {
		t.Fatal("CorrectWord", c, word, erasures, "yields", corrected, found, "and not", sent)
	}
}

func isDamaged(t *testing.T, c impl.Code, word, erasures []int64) {
	t.Helper()
	if corrected, found := correct(t, c, word, erasures); found {
		t.Fatal("CorrectWord", c, word, erasures, "yields", corrected, "and not ErrDamage")
	}
}

func goodLocator(t *testing.T, c impl.Code, indices []int64) []int64 {
	t.Helper()
	return goodList(t, "LocatorOf", c.Field)(impl.LocatorOf(c, indices))
}

func locates(t *testing.T, c impl.Code, locator, want []int64) {
	t.Helper()
	indices, code := impl.IndicesOf(c, locator)
	if code != impl.ErrNone || !slices.Equal(indices, want) {
		t.Fatal("IndicesOf", c, locator, "yields", indices, code, "and not", want)
	}
}

func locatesNothing(t *testing.T, c impl.Code, locator []int64) {
	t.Helper()
	indices, code := impl.IndicesOf(c, locator)
	if code != impl.ErrNotFound || len(indices) != 0 {
		t.Fatal("IndicesOf", c, locator, "yields", indices, code)
	}
}

func hasValues(t *testing.T, c impl.Code, syndromes, indices, want []int64) {
	t.Helper()
	values, code := impl.ErrorValues(c, syndromes, indices)
	if code != impl.ErrNone || !slices.Equal(values, want) {
		t.Fatal("ErrorValues", c, syndromes, indices, "yields", values, code, "and not", want)
	}
}

func hasNoValues(t *testing.T, c impl.Code, syndromes, indices []int64) {
	t.Helper()
	values, code := impl.ErrorValues(c, syndromes, indices)
	if code != impl.ErrDamage || len(values) != 0 {
		t.Fatal("ErrorValues", c, syndromes, indices, "yields", values, code)
	}
}

// decodedCodes add to the sample codes some with few and with odd numbers of check elements.
func decodedCodes() []impl.Code {
	codes := sampleCodes()
	for _, f := range []impl.Field{
		{Prime: 257, Power: 1, Poly: 3}, {Prime: 1021, Power: 1, Poly: 10},
		{Prime: 2, Power: 4, Poly: 19}, {Prime: 2, Power: 8, Poly: 285},
	} {
		for _, checks := range []int64{1, 2, 3, 4, 5, 7, 12} {
			codes = append(codes, impl.Code{Field: f, Length: checks + 1, Checks: checks},
				impl.Code{Field: f, Length: checks + 2, Checks: checks},
				impl.Code{Field: f, Length: min(impl.MaxWord, oracleSize(f)-1), Checks: checks})
		}
	}
	return codes
}

// greatestCodes have MaxChecks check elements, in the shortest words and in the longest ones.
func greatestCodes() []impl.Code {
	return []impl.Code{
		{Field: impl.Field{Prime: 67, Power: 1, Poly: 2}, Length: 65, Checks: 64},
		{Field: impl.Field{Prime: 257, Power: 1, Poly: 3}, Length: 255, Checks: 64},
		{Field: impl.Field{Prime: 2, Power: 7, Poly: 137}, Length: 127, Checks: 63},
		{Field: impl.Field{Prime: 2, Power: 8, Poly: 285}, Length: 255, Checks: 64},
	}
}

// The example of the document: a code word is its own corrected word.
func TestCorrectWordExample(t *testing.T) {
	t.Parallel()
	source := rand.New(rand.NewSource(81))
	for _, c := range decodedCodes() {
		for _, message := range someMessages(c, source) {
			sent := goodWord(t, "EncodeWord", c)(impl.EncodeWord(c, message))
			corrected, indices, code := impl.CorrectWord(c, sent, nil)
			if code != impl.ErrNone || !slices.Equal(corrected, sent) || len(indices) != 0 {
				t.Fatal("CorrectWord", c, sent, "yields", corrected, indices, code)
			}
			if !impl.IsCorrectable(c, sent, nil) {
				t.Fatal("IsCorrectable", c, sent)
			}
			for _, count := range []int64{0, 1, c.Checks / 2, c.Checks} {
				correctsTo(t, c, sent, someIndices(c, source, count), sent)
			}
		}
	}
}

// Words that are worked out by hand, over the elements 0 to 6 with the generator 3: 3, 6, 4 is a
// code word, and the locators of the indices 0, 1, 2 are 3^2 = 2, 3 and 1.
func TestDecodingByHand(t *testing.T) {
	c := impl.Code{Field: fieldOf(t, 7), Length: 3, Checks: 2}
	correctsTo(t, c, []int64{3, 6, 5}, nil, []int64{3, 6, 4})
	correctsTo(t, c, []int64{3, 0, 4}, nil, []int64{3, 6, 4})
	correctsTo(t, c, []int64{0, 6, 4}, nil, []int64{3, 6, 4})
	correctsTo(t, c, []int64{0, 6, 0}, []int64{0, 2}, []int64{3, 6, 4})
	isDamaged(t, c, []int64{3, 0, 4}, []int64{0})
	// (1 - 2 x) (1 - x) = 1 - 3 x + 2 x^2.
	if p := goodLocator(t, c, []int64{0, 2}); !slices.Equal(p, []int64{1, 4, 2}) {
		t.Error("LocatorOf", p)
	}
	locates(t, c, []int64{1, 4, 2}, []int64{0, 2})
	// 5 at the index 1 has the syndromes 5 * 3 and 5 * 2, which no other single index has.
	hasValues(t, c, []int64{1, 3}, []int64{1}, []int64{5})
	hasValues(t, c, []int64{1, 3}, []int64{0, 1}, []int64{0, 5})
	hasNoValues(t, c, []int64{1, 3}, []int64{0})
	hasNoValues(t, c, []int64{1, 3}, []int64{2})
	hasNoValues(t, c, []int64{1, 3}, nil)
	if damage := good(t, "DamageOf")(impl.DamageOf(c, []int64{3, 0, 5}, []int64{3, 6, 4}, []int64{0, 2})); damage != 4 {
		t.Error("DamageOf", damage)
	}
	// In the field of 8 elements, one check element is good for one erasure and for no error.
	d := impl.Code{Field: fieldOf(t, 8), Length: 2, Checks: 1}
	correctsTo(t, d, []int64{5, 0}, []int64{1}, []int64{5, 1})
	correctsTo(t, d, []int64{7, 1}, []int64{0}, []int64{5, 1})
	isDamaged(t, d, []int64{5, 0}, nil)
}

// received is a word with erasures, and the code word that was sent.
type received struct {
	word, erasures, sent []int64
}

// receivedWords are a code word that is changed at some indices, and others that are erased. The
// erased elements are all right, all wrong, and as it comes.
func receivedWords(t *testing.T, c impl.Code, source *rand.Rand, wrong, erasures []int64) []received {
	t.Helper()
	sent := someCodeWord(t, c, source)
	word := changedAt(c, source, sent, wrong)
	if len(erasures) == 0 {
		return []received{{word, erasures, sent}}
	}
	mixed := slices.Clone(word)
	for _, i := range erasures {
		mixed[i] = source.Int63n(oracleSize(c.Field))
	}
	mixed[erasures[0]] = sent[erasures[0]]
	return []received{{word, erasures, sent}, {changedAt(c, source, word, erasures), erasures, sent}, {mixed, erasures, sent}}
}

// counts are those of errors and erasures.
type counts struct {
	wrong, erased int64
}

// countsWithinTheBound are all that the bound allows.
func countsWithinTheBound(c impl.Code) []counts {
	var all []counts
	for wrong := int64(0); 2*wrong <= c.Checks; wrong++ {
		for erased := int64(0); 2*wrong+erased <= c.Checks; erased++ {
			all = append(all, counts{wrong, erased})
		}
	}
	return all
}

// receivedJustBeyondTheBound have a damage that exceeds the bound by one.
func receivedJustBeyondTheBound(t *testing.T, c impl.Code, source *rand.Rand) []received {
	t.Helper()
	var all []received
	step := 1 + c.Checks/12
	for wrong := int64(0); 2*wrong <= c.Checks+1; wrong += step {
		erased := c.Checks + 1 - 2*wrong
		if wrong+erased <= c.Length {
			a, b := halves(c, source, wrong, erased)
			all = append(all, receivedWords(t, c, source, a, b)...)
		}
	}
	return all
}

func receivedFarBeyondTheBound(t *testing.T, c impl.Code, source *rand.Rand, erased int64) received {
	t.Helper()
	wrong := min(c.Length-erased, (c.Checks-erased)/2+1+source.Int63n(c.Checks+1))
	a, b := halves(c, source, wrong, erased)
	return receivedWords(t, c, source, a, b)[0]
}

// checkBound checks a code word that is changed at some indices, and where others are erased.
func checkBound(t *testing.T, c impl.Code, source *rand.Rand, wrong, erasures []int64) {
	t.Helper()
	for _, x := range receivedWords(t, c, source, wrong, erasures) {
		correctsTo(t, c, x.word, x.erasures, x.sent)
	}
}

// Promise 5: a word within the bound is corrected to what was sent, for every number of errors and
// erasures that the bound allows.
func TestWordsWithinTheBound(t *testing.T) {
	t.Parallel()
	source := rand.New(rand.NewSource(82))
	for _, c := range decodedCodes() {
		if c.Checks > 12 {
			continue
		}
		for _, n := range countsWithinTheBound(c) {
			for range 3 {
				a, b := halves(c, source, n.wrong, n.erased)
				checkBound(t, c, source, a, b)
			}
		}
	}
}

func TestWordsWithinTheBoundOfGreatestCodes(t *testing.T) {
	for _, c := range greatestCodes() {
		t.Run(strconv.FormatInt(oracleSize(c.Field), 10), func(t *testing.T) {
			t.Parallel()
			source := rand.New(rand.NewSource(83))
			for _, n := range countsWithinTheBound(c) {
				a, b := halves(c, source, n.wrong, n.erased)
				words := receivedWords(t, c, source, a, b)
				x := words[len(words)-1]
				corrected, indices, code := impl.CorrectWord(c, x.word, b)
				if code != impl.ErrNone || !slices.Equal(corrected, x.sent) || !slices.Equal(indices, oracleDifferences(x.word, x.sent)) {
					t.Fatal("CorrectWord", c, x.word, b, "yields", corrected, indices, code, "and not", x.sent)
				}
			}
		})
	}
}

// At the bound itself, for codes with many check elements; and at indices next to one another.
func TestWordsAtTheBound(t *testing.T) {
	t.Parallel()
	source := rand.New(rand.NewSource(84))
	for _, c := range decodedCodes() {
		for _, wrong := range []int64{0, 1, c.Checks / 4, c.Checks / 2} {
			erased := c.Checks - 2*wrong
			if erased < 0 {
				continue
			}
			a, b := halves(c, source, wrong, erased)
			checkBound(t, c, source, a, b)
			all := numbersUpTo(c.Length)
			count := wrong + erased
			// The first indices and the last ones, with the errors in front of the erasures.
			checkBound(t, c, source, all[:wrong], all[wrong:count])
			checkBound(t, c, source, all[c.Length-count:c.Length-erased], all[c.Length-erased:])
			checkBound(t, c, source, all[erased:count], all[:erased])
			checkBound(t, c, source, all[c.Length-wrong:], all[c.Length-count:c.Length-wrong])
		}
	}
}

// A single error at every index, and a single erasure.
func TestSingleErrors(t *testing.T) {
	t.Parallel()
	source := rand.New(rand.NewSource(85))
	for _, c := range decodedCodes() {
		for i := int64(0); i < c.Length; i += 1 + c.Length/12 {
			if c.Checks >= 2 {
				checkBound(t, c, source, []int64{i}, nil)
			}
			checkBound(t, c, source, nil, []int64{i})
		}
		last := c.Length - 1
		if c.Checks >= 2 {
			checkBound(t, c, source, []int64{last}, nil)
		}
		checkBound(t, c, source, nil, []int64{last})
	}
}

// One error too many never leads to another code word if the damage exceeds the bound by one: two
// code words would differ at no more than Checks indices.
func TestWordsJustBeyondTheBound(t *testing.T) {
	t.Parallel()
	source := rand.New(rand.NewSource(86))
	for _, c := range decodedCodes() {
		for _, x := range receivedJustBeyondTheBound(t, c, source) {
			isDamaged(t, c, x.word, x.erasures)
		}
	}
}

// More erasures than Checks are too many, whatever the word is; as many are good for every word.
func TestManyErasures(t *testing.T) {
	t.Parallel()
	source := rand.New(rand.NewSource(87))
	for _, c := range decodedCodes() {
		zeros := make([]int64, c.Length)
		for _, word := range [][]int64{zeros, someCodeWord(t, c, source), randomList(c.Field, source, c.Length)} {
			for _, count := range []int64{c.Checks + 1, c.Checks + 2, c.Length - 1, c.Length} {
				if count > c.Checks && count <= c.Length {
					isDamaged(t, c, word, someIndices(c, source, count))
					isDamaged(t, c, word, numbersUpTo(count))
				}
			}
			erasures := someIndices(c, source, c.Checks)
			corrected, found := correct(t, c, word, erasures)
			if !found {
				t.Fatal("CorrectWord", c, word, erasures, "finds nothing")
			}
			for _, i := range oracleDifferences(word, corrected) {
				if !slices.Contains(erasures, i) {
					t.Fatal("CorrectWord", c, word, erasures, "yields", corrected)
				}
			}
		}
	}
}

// searchedCode has all code words of a small code.
type searchedCode struct {
	code  impl.Code
	words [][]int64
}

func searched(c impl.Code) searchedCode {
	s := searchedCode{code: c}
	for _, word := range allWords(c.Field, c.Length) {
		if oracleCodeWord(c, word) {
			s.words = append(s.words, word)
		}
	}
	return s
}

// check holds a word with every set of erasures against the search.
func (s searchedCode) check(t *testing.T, word []int64) {
	t.Helper()
	c := s.code
	differs := make([]uint64, len(s.words))
	for k, sent := range s.words {
		differs[k] = maskOf(oracleDifferences(word, sent))
	}
	for mask := range uint64(1) << c.Length {
		var near [][]int64
		for k, sent := range s.words {
			if 2*bits.OnesCount64(differs[k]&^mask)+bits.OnesCount64(mask) <= int(c.Checks) {
				near = append(near, sent)
			}
		}
		switch len(near) {
		case 0:
			isDamaged(t, c, word, masked(mask))
		case 1:
			correctsTo(t, c, word, masked(mask), near[0])
		default:
			t.Fatal(c, word, masked(mask), "has more than one code word within the bound:", near)
		}
	}
}

// Promise 5, for every word of small codes, with every set of erasures.
func TestCorrectWordAgainstASearch(t *testing.T) {
	for at, c := range smallCodes() {
		t.Run(strconv.Itoa(at), func(t *testing.T) {
			t.Parallel()
			source := rand.New(rand.NewSource(88))
			s := searched(c)
			words := allWords(c.Field, c.Length)
			for _, word := range words {
				if len(words) <= 5000 || source.Intn(len(words)) < 2000 {
					s.check(t, word)
				}
			}
		})
	}
}

// sparseCodes have longer words with few messages: here words far from every code word are common.
func sparseCodes() []impl.Code {
	return []impl.Code{
		{Field: impl.Field{Prime: 7, Power: 1, Poly: 3}, Length: 6, Checks: 4},
		{Field: impl.Field{Prime: 7, Power: 1, Poly: 3}, Length: 6, Checks: 5},
		{Field: impl.Field{Prime: 2, Power: 3, Poly: 11}, Length: 7, Checks: 5},
		{Field: impl.Field{Prime: 2, Power: 3, Poly: 13}, Length: 7, Checks: 6},
		{Field: impl.Field{Prime: 11, Power: 1, Poly: 2}, Length: 8, Checks: 6},
		{Field: impl.Field{Prime: 13, Power: 1, Poly: 2}, Length: 9, Checks: 7},
	}
}

func TestCorrectWordAgainstASearchOfSparseCodes(t *testing.T) {
	t.Parallel()
	source := rand.New(rand.NewSource(89))
	for _, c := range sparseCodes() {
		s := searchedCode{code: c}
		for _, message := range allWords(c.Field, c.Length-c.Checks) {
			s.words = append(s.words, goodWord(t, "EncodeWord", c)(impl.EncodeWord(c, message)))
		}
		for range 40 {
			s.check(t, randomList(c.Field, source, c.Length))
			sent := s.words[source.Intn(len(s.words))]
			s.check(t, changedAt(c, source, sent, someIndices(c, source, source.Int63n(c.Checks+1))))
		}
	}
}

// Far beyond the bound: some end in ErrDamage, and some are corrected to what was not sent. What
// correct checks holds for all of them.
func TestWordsBeyondTheBound(t *testing.T) {
	t.Parallel()
	source := rand.New(rand.NewSource(90))
	lost, other := 0, 0
	for _, c := range decodedCodes() {
		for range 8 {
			x := receivedFarBeyondTheBound(t, c, source, source.Int63n(c.Checks+1))
			corrected, found := correct(t, c, x.word, x.erasures)
			if !found {
				lost++
				continue
			}
			if !oracleCodeWord(c, corrected) {
				t.Fatal("CorrectWord", c, x.word, x.erasures, "yields", corrected)
			}
			if !slices.Equal(corrected, x.sent) {
				other++
			}
		}
	}
	if lost == 0 || other == 0 {
		t.Error("beyond the bound are", lost, "words that are lost and", other, "that become others")
	}
}

// A word on the way from one code word to another is corrected to the one or to the other as soon
// as it is within the bound of it. They differ by the generator polynomial, at Checks + 1 indices.
func TestWordsBetweenCodeWords(t *testing.T) {
	t.Parallel()
	source := rand.New(rand.NewSource(91))
	for _, c := range decodedCodes() {
		sent := someCodeWord(t, c, source)
		factor := make([]int64, c.Length-c.Checks)
		factor[source.Intn(len(factor))] = 1
		shifted := oracleProduct(c.Field, goodList(t, "GeneratorOf", c.Field)(impl.GeneratorOf(c)), strip(factor))
		step := make([]int64, c.Length)
		for power, a := range shifted {
			step[len(step)-1-power] = a
		}
		other := oracleWordSum(c.Field, sent, step)
		ways := oracleDifferences(sent, other)
		if int64(len(ways)) != c.Checks+1 {
			t.Fatal(c, sent, other, "differ at", ways)
		}
		source.Shuffle(len(ways), func(i, j int) { ways[i], ways[j] = ways[j], ways[i] })
		word := slices.Clone(sent)
		for taken, i := range ways {
			word[i] = other[i]
			switch {
			case 2*int64(taken+1) <= c.Checks:
				correctsTo(t, c, word, nil, sent)
			case 2*(c.Checks-int64(taken)) <= c.Checks:
				correctsTo(t, c, word, nil, other)
			default:
				correct(t, c, word, nil)
			}
		}
	}
}

// CorrectWord only looks at what is not erased: whatever an erased element is, the corrected word
// is the same.
func TestErasedElementsDoNotCount(t *testing.T) {
	t.Parallel()
	source := rand.New(rand.NewSource(92))
	for _, c := range decodedCodes() {
		for range 3 {
			erasures := someIndices(c, source, 1+source.Int63n(c.Checks))
			word := randomList(c.Field, source, c.Length)
			if source.Intn(2) == 0 {
				word = changedAt(c, source, someCodeWord(t, c, source), someIndices(c, source, c.Checks/3))
			}
			first, found := correct(t, c, word, erasures)
			for range 2 {
				for _, i := range erasures {
					word[i] = source.Int63n(oracleSize(c.Field))
				}
				if again, still := correct(t, c, word, erasures); still != found || !slices.Equal(again, first) {
					t.Fatal("CorrectWord", c, word, erasures, "yields", again, still, "and not", first, found)
				}
			}
		}
	}
}

// The changes of a sum are those of its summands: adding a code word moves the corrected word.
func TestCorrectWordOfSums(t *testing.T) {
	t.Parallel()
	source := rand.New(rand.NewSource(93))
	for _, c := range decodedCodes() {
		word := randomList(c.Field, source, c.Length)
		erasures := someIndices(c, source, c.Checks-source.Int63n(min(c.Checks, 3)))
		added := someCodeWord(t, c, source)
		one, found := correct(t, c, word, erasures)
		two, still := correct(t, c, oracleWordSum(c.Field, word, added), erasures)
		if found != still || found && !slices.Equal(two, oracleWordSum(c.Field, one, added)) {
			t.Fatal("CorrectWord", c, word, erasures, "yields", one, found, "and with", added, two, still)
		}
	}
}

func TestDamageOf(t *testing.T) {
	t.Parallel()
	source := rand.New(rand.NewSource(94))
	for _, c := range decodedCodes() {
		sent := randomList(c.Field, source, c.Length)
		for _, erased := range []int64{0, 1, c.Checks, c.Checks + 1, c.Length / 2, c.Length} {
			for _, changes := range []int64{0, 1, c.Checks / 2, c.Length / 2, c.Length} {
				erasures := someIndices(c, source, erased)
				word := changedAt(c, source, sent, someIndices(c, source, changes))
				want := oracleDamage(word, sent, erasures)
				damage := good(t, "DamageOf")(impl.DamageOf(c, word, sent, erasures))
				back := good(t, "DamageOf")(impl.DamageOf(c, sent, word, erasures))
				if damage != want || back != want {
					t.Fatal("DamageOf", c, word, sent, erasures, "yields", damage, back, "and not", want)
				}
			}
		}
	}
}

// An erasure counts once, whether or not the word differs there.
func TestDamageOfErasures(t *testing.T) {
	t.Parallel()
	source := rand.New(rand.NewSource(95))
	for _, c := range decodedCodes() {
		sent := someCodeWord(t, c, source)
		for range 4 {
			wrong, erasures := halves(c, source, source.Int63n(c.Length/2+1), source.Int63n(c.Length/2+1))
			word := changedAt(c, source, sent, wrong)
			want := 2*int64(len(wrong)) + int64(len(erasures))
			for _, w := range [][]int64{word, changedAt(c, source, word, erasures)} {
				if damage := good(t, "DamageOf")(impl.DamageOf(c, w, sent, erasures)); damage != want {
					t.Fatal("DamageOf", c, w, sent, erasures, "yields", damage, "and not", want)
				}
			}
			// The guarantee of the chapter.
			if want <= c.Checks {
				correctsTo(t, c, word, erasures, sent)
			}
		}
		if damage := good(t, "DamageOf")(impl.DamageOf(c, sent, sent, numbersUpTo(c.Length))); damage != c.Length {
			t.Fatal("DamageOf", c, "with every index erased yields", damage)
		}
		if damage := good(t, "DamageOf")(impl.DamageOf(c, sent, sent, nil)); damage != 0 {
			t.Fatal("DamageOf", c, "without a change yields", damage)
		}
	}
}

func TestLocatorOf(t *testing.T) {
	t.Parallel()
	source := rand.New(rand.NewSource(96))
	for _, c := range decodedCodes() {
		for _, count := range []int64{0, 1, 2, 3, c.Checks, c.Checks + 1, 20} {
			if count > c.Length {
				continue
			}
			indices := someIndices(c, source, count)
			p := goodLocator(t, c, indices)
			if !slices.Equal(p, oracleLocator(c, indices)) || int64(len(p)) != count+1 || p[0] != 1 {
				t.Fatal("LocatorOf", c, indices, "yields", p)
			}
			locates(t, c, p, indices)
		}
		for _, none := range [][]int64{nil, {}} {
			if p := goodLocator(t, c, none); !slices.Equal(p, []int64{1}) {
				t.Fatal("LocatorOf", c, "no indices yields", p)
			}
		}
		// The locator of the last index is 1.
		if p := goodLocator(t, c, []int64{c.Length - 1}); !slices.Equal(p, []int64{1, oracleNegative(c.Field, 1)}) {
			t.Fatal("LocatorOf", c, "the last index yields", p)
		}
	}
}

// Its roots are the inverses of the locators.
func TestRootsOfLocators(t *testing.T) {
	t.Parallel()
	source := rand.New(rand.NewSource(97))
	for _, c := range decodedCodes() {
		powers := oraclePowers(c.Field)
		indices := someIndices(c, source, min(c.Length, 1+source.Int63n(30)))
		var want []int64
		for _, i := range indices {
			want = append(want, powers[(len(powers)-int(c.Length-1-i))%len(powers)])
		}
		slices.Sort(want)
		if roots := goodRoots(t, c.Field, goodLocator(t, c, indices)); !slices.Equal(roots, want) {
			t.Fatal("LocatorOf", c, indices, "has the roots", roots, "and not", want)
		}
	}
}

// As many indices as there are: also more than Checks.
func TestLocatorsOfManyIndices(t *testing.T) {
	t.Parallel()
	source := rand.New(rand.NewSource(98))
	for _, c := range decodedCodes() {
		for _, count := range []int64{c.Length / 2, c.Length - 1, c.Length} {
			indices := someIndices(c, source, count)
			p := goodLocator(t, c, indices)
			if int64(len(p)) != count+1 || p[0] != 1 {
				t.Fatal("LocatorOf", c, indices, "yields", p)
			}
			locates(t, c, p, indices)
		}
		// If every power of g is a locator, the product is 1 - x^(size - 1).
		if c.Length == oracleSize(c.Field)-1 {
			want := with(monomial(oracleNegative(c.Field, 1), int(c.Length)), 0, 1)
			if p := goodLocator(t, c, numbersUpTo(c.Length)); !slices.Equal(p, want) {
				t.Fatal("LocatorOf", c, "all indices yields", p)
			}
			locates(t, c, want, numbersUpTo(c.Length))
		}
	}
}

// Every polynomial with few coefficients: it has indices if and only if it is the locator
// polynomial of a list.
func TestIndicesOfAllSmallPolynomials(t *testing.T) {
	t.Parallel()
	for _, c := range smallCodes() {
		lists := map[string][]int64{}
		for mask := range uint64(1) << c.Length {
			lists[textOf(oracleLocator(c, masked(mask)))] = masked(mask)
		}
		if len(lists) != 1<<c.Length {
			t.Fatal(c, "has", len(lists), "locator polynomials")
		}
		found := 0
		for _, p := range polynomialsUpTo(c.Field, min(5, int(c.Length)+2)) {
			if indices, ok := lists[textOf(p)]; ok {
				locates(t, c, p, indices)
				found++
			} else {
				locatesNothing(t, c, p)
			}
		}
		if found == 0 {
			t.Error(c, "has no locator polynomials")
		}
	}
}

// rootless is a polynomial of the degree 2 with 1 at 0 and without a root.
func rootless(t *testing.T, f impl.Field, source *rand.Rand) []int64 {
	t.Helper()
	for range 1000 {
		p := []int64{1, source.Int63n(oracleSize(f)), 1 + source.Int63n(oracleSize(f)-1)}
		if len(goodRoots(t, f, p)) == 0 {
			return p
		}
	}
	t.Fatal(f, "has no polynomial without a root")
	return nil
}

func TestIndicesOfOtherPolynomials(t *testing.T) {
	t.Parallel()
	source := rand.New(rand.NewSource(99))
	for _, c := range decodedCodes() {
		powers := oraclePowers(c.Field)
		for _, count := range []int64{0, 1, 2, c.Checks} {
			indices := someIndices(c, source, min(count, 20))
			p := oracleLocator(c, indices)
			locates(t, c, p, indices)
			// The element at 0 is not 1: it is 0, or another one with the same roots.
			locatesNothing(t, c, oracleProduct(c.Field, p, []int64{0, 1}))
			if size := oracleSize(c.Field); size > 2 {
				locatesNothing(t, c, oracleProduct(c.Field, p, []int64{2 + source.Int63n(size-2)}))
				locatesNothing(t, c, oracleProduct(c.Field, p, []int64{size - 1}))
			}
			// A root that is no inverse of a locator of the word, as far as there are others.
			for _, n := range []int{int(c.Length), len(powers) - 1} {
				if n >= int(c.Length) && n < len(powers) {
					locatesNothing(t, c, oracleProduct(c.Field, p, []int64{1, oracleNegative(c.Field, powers[n])}))
				}
			}
			// A root of the order 2 or 3.
			if len(indices) > 0 {
				again := oracleLocator(c, indices[:1])
				locatesNothing(t, c, oracleProduct(c.Field, p, again))
				locatesNothing(t, c, oracleProduct(c.Field, again, again))
				locatesNothing(t, c, oracleProduct(c.Field, oracleProduct(c.Field, p, again), again))
			}
			// Fewer roots than its degree.
			factor := rootless(t, c.Field, source)
			locatesNothing(t, c, factor)
			locatesNothing(t, c, oracleProduct(c.Field, p, factor))
		}
		locatesNothing(t, c, nil)
		locatesNothing(t, c, []int64{})
		locatesNothing(t, c, []int64{0, 1})
		locates(t, c, []int64{1}, nil)
		// The greatest polynomials have too many roots to be all those of indices.
		locatesNothing(t, c, slices.Repeat([]int64{1}, impl.MaxTerms))
		locatesNothing(t, c, with(monomial(1, impl.MaxTerms-1), 0, 1))
		locatesNothing(t, c, randomPolynomial(c.Field, source, impl.MaxTerms))
		locatesNothing(t, c, randomPolynomial(c.Field, source, int(c.Length)+2))
	}
}

// All syndromes of small codes, and all lists of indices: there are values if and only if some
// elements have these syndromes.
func TestErrorValuesAgainstASearch(t *testing.T) {
	for at, c := range smallCodes() {
		t.Run(strconv.Itoa(at), func(t *testing.T) {
			t.Parallel()
			for mask := range uint64(1) << c.Length {
				indices := masked(mask)
				if int64(len(indices)) > c.Checks {
					continue
				}
				values := map[string][]int64{}
				for _, elements := range allWords(c.Field, int64(len(indices))) {
					values[textOf(oracleSyndromes(c, placed(c, indices, elements)))] = elements
				}
				for _, syndromes := range allWords(c.Field, c.Checks) {
					if want, ok := values[textOf(syndromes)]; ok {
						hasValues(t, c, syndromes, indices, want)
					} else {
						hasNoValues(t, c, syndromes, indices)
					}
				}
			}
		})
	}
}

// Values come back from the syndromes of a word that is 0 but at the indices, also where they
// are 0.
func TestErrorValues(t *testing.T) {
	t.Parallel()
	source := rand.New(rand.NewSource(100))
	for _, c := range decodedCodes() {
		for _, count := range []int64{0, 1, 2, c.Checks / 2, c.Checks - 1, c.Checks} {
			if count > c.Checks {
				continue
			}
			indices := someIndices(c, source, count)
			values := randomList(c.Field, source, count)
			greatest := slices.Repeat([]int64{oracleSize(c.Field) - 1}, int(count))
			lists := [][]int64{values, greatest, make([]int64, count)}
			if count > 0 {
				lists = append(lists, with(greatest, source.Intn(int(count)), 0), with(make([]int64, count), source.Intn(int(count)), 1))
			}
			for _, want := range lists {
				hasValues(t, c, oracleSyndromes(c, placed(c, indices, want)), indices, want)
			}
			// Further indices with the value 0 change nothing.
			if more := someIndices(c, source, c.Checks); count > 0 {
				one := with(make([]int64, c.Checks), source.Intn(int(c.Checks)), values[0])
				hasValues(t, c, oracleSyndromes(c, placed(c, more, one)), more, one)
			}
		}
	}
}

// With fewer indices than Checks, there are no values after a change of the first syndrome alone,
// or of the last one: the others determine all of them.
func TestErrorValuesOfOtherSyndromes(t *testing.T) {
	t.Parallel()
	source := rand.New(rand.NewSource(101))
	for _, c := range decodedCodes() {
		for _, count := range []int64{0, 1, c.Checks / 2, c.Checks - 1} {
			if count >= c.Checks {
				continue
			}
			indices := someIndices(c, source, count)
			syndromes := oracleSyndromes(c, placed(c, indices, randomList(c.Field, source, count)))
			for _, at := range []int{0, len(syndromes) - 1} {
				wrong := oracleAdd(c.Field, syndromes[at], 1+source.Int63n(oracleSize(c.Field)-1))
				hasNoValues(t, c, with(syndromes, at, wrong), indices)
			}
		}
		// No index at all: only 0 has no values to be found.
		zeros := make([]int64, c.Checks)
		for _, none := range [][]int64{nil, {}} {
			hasValues(t, c, zeros, none, nil)
			for _, at := range []int{0, int(c.Checks) / 2, int(c.Checks) - 1} {
				hasNoValues(t, c, with(zeros, at, 1), none)
			}
		}
	}
}

// As many indices as syndromes have values for all syndromes. With fewer indices, the values that
// the first syndromes determine are held against the rest.
func TestErrorValuesOfAnySyndromes(t *testing.T) {
	t.Parallel()
	source := rand.New(rand.NewSource(102))
	for _, c := range decodedCodes() {
		syndromes := randomList(c.Field, source, c.Checks)
		for _, count := range []int64{1, c.Checks / 2, c.Checks - 1, c.Checks} {
			if count < 1 || count > c.Checks {
				continue
			}
			indices := someIndices(c, source, count)
			smaller := impl.Code{Field: c.Field, Length: c.Length, Checks: count}
			values, code := impl.ErrorValues(smaller, syndromes[:count], indices)
			if code != impl.ErrNone || !isList(c.Field, values, count) {
				t.Fatal("ErrorValues", smaller, syndromes[:count], indices, "yields", values, code)
			}
			all := oracleSyndromes(c, placed(c, indices, values))
			if !slices.Equal(all[:count], syndromes[:count]) {
				t.Fatal("ErrorValues", smaller, syndromes[:count], indices, "yields", values, "with the syndromes", all)
			}
			hasValues(t, c, all, indices, values)
			if !slices.Equal(all, syndromes) {
				hasNoValues(t, c, syndromes, indices)
			}
		}
	}
}

// The values of a word that is changed are the changes: with LocatorOf and IndicesOf this is
// decoding by hand.
func TestErrorValuesAreTheChanges(t *testing.T) {
	t.Parallel()
	source := rand.New(rand.NewSource(103))
	for _, c := range decodedCodes() {
		sent := someCodeWord(t, c, source)
		indices := someIndices(c, source, 1+source.Int63n(c.Checks))
		values := randomList(c.Field, source, int64(len(indices)))
		word := oracleWordSum(c.Field, sent, placed(c, indices, values))
		hasValues(t, c, goodSyndromes(t, c, word), indices, values)
		correctsTo(t, c, word, indices, sent)
	}
}

// decoding has an argument of each kind.
type decoding struct {
	code                                    impl.Code
	indices, locator, syndromes, word, sent []int64
}

// goodDecoding has arguments with which no function fails.
func goodDecoding(t *testing.T, c impl.Code, source *rand.Rand) decoding {
	t.Helper()
	sent := someCodeWord(t, c, source)
	indices := someIndices(c, source, 1+source.Int63n(c.Checks))
	changes := placed(c, indices, randomList(c.Field, source, int64(len(indices))))
	return decoding{
		code: c, indices: indices, locator: goodLocator(t, c, indices),
		syndromes: oracleSyndromes(c, changes), word: oracleWordSum(c.Field, sent, changes), sent: sent,
	}
}

// calls are the functions of the chapter that return a code; a number that is 0 is an empty list.
func (d decoding) calls() map[string]func() (one, two []int64, code int64) {
	single := func(list []int64, code int64) ([]int64, []int64, int64) { return list, nil, code }
	return map[string]func() ([]int64, []int64, int64){
		"LocatorOf":   func() ([]int64, []int64, int64) { return single(impl.LocatorOf(d.code, d.indices)) },
		"IndicesOf":   func() ([]int64, []int64, int64) { return single(impl.IndicesOf(d.code, d.locator)) },
		"ErrorValues": func() ([]int64, []int64, int64) { return single(impl.ErrorValues(d.code, d.syndromes, d.indices)) },
		"CorrectWord": func() ([]int64, []int64, int64) { return impl.CorrectWord(d.code, d.word, d.indices) },
		"DamageOf": func() ([]int64, []int64, int64) {
			damage, code := impl.DamageOf(d.code, d.word, d.sent, d.indices)
			return strip([]int64{damage}), nil, code
		},
	}
}

// fails checks that the functions with these names return a code and nothing else, all of them if
// there is no name; IsCorrectable reports false if CorrectWord is among them.
func (d decoding) fails(t *testing.T, want int64, names ...string) {
	t.Helper()
	returns(t, "a function of chapter 5", func() {
		t.Helper()
		for name, call := range d.calls() {
			if len(names) > 0 && !slices.Contains(names, name) {
				continue
			}
			if one, two, code := call(); code != want || len(one) != 0 || len(two) != 0 {
				t.Fatal(name, d, "yields", one, two, code, "instead of the error", want)
			}
			if name == "CorrectWord" && impl.IsCorrectable(d.code, d.word, d.indices) {
				t.Fatal("IsCorrectable", d)
			}
		}
	})
}

// succeeds checks that all of the functions return ErrNone.
func (d decoding) succeeds(t *testing.T) {
	t.Helper()
	for name, call := range d.calls() {
		if one, two, code := call(); code != impl.ErrNone {
			t.Fatal(name, d, "yields", one, two, code)
		}
	}
	if !impl.IsCorrectable(d.code, d.word, d.indices) {
		t.Fatal("IsCorrectable", d)
	}
}

// A code that is not valid comes before everything else; lists that would fit do not help.
func TestDecodingErrorsOfInvalidCodes(t *testing.T) {
	t.Parallel()
	for _, c := range invalidCodes() {
		zeros := make([]int64, max(0, min(c.Length, 600)))
		checks := make([]int64, max(0, min(c.Checks, 600)))
		broken := []int64{-1}
		decoding{code: c, locator: []int64{1}, syndromes: checks, word: zeros, sent: zeros}.fails(t, impl.ErrInvalid)
		decoding{code: c, indices: []int64{0}, locator: []int64{1, 1}, syndromes: checks, word: zeros, sent: zeros}.fails(t, impl.ErrInvalid)
		decoding{code: c}.fails(t, impl.ErrInvalid)
		decoding{code: c, indices: broken, locator: broken, syndromes: broken, word: broken, sent: broken}.fails(t, impl.ErrInvalid)
		decoding{code: c, indices: extremes, locator: extremes, syndromes: extremes, word: extremes, sent: extremes}.fails(t, impl.ErrInvalid)
	}
}

// brokenIndices are lists that are not valid, each for a reason of its own.
func brokenIndices(c impl.Code) [][]int64 {
	last := c.Length - 1
	all := numbersUpTo(c.Length)
	lists := [][]int64{
		{-1}, {c.Length}, {0, 0}, {1, 0}, {last, last}, {last, 0}, {-1, 0}, {0, -1}, {0, c.Length}, {last, c.Length},
		{0, c.Length, 1}, {0, 1, 1}, {0, 1, 0}, {-2, -1}, {c.Length, c.Length + 1}, {c.Length, 0}, {0, 256}, {0, 1 << 32},
		append(slices.Clone(all), c.Length), append(slices.Clone(all), last), append(slices.Clone(all), 0),
		append([]int64{0}, all...), append([]int64{-1}, all...), with(all, 0, -1), with(all, int(last), c.Length), with(all, 1, 0),
		make([]int64, 5000), slices.Repeat([]int64{last}, 300), numbersUpTo(300), numbersUpTo(5000),
	}
	for _, extreme := range extremes {
		if extreme >= 0 && extreme < c.Length {
			continue
		}
		lists = append(lists, []int64{extreme}, []int64{0, extreme}, []int64{extreme, 0}, []int64{extreme, extreme},
			[]int64{0, extreme, 1}, []int64{extreme, math.MaxInt64}, []int64{math.MinInt64, extreme}, with(all, int(last), extreme))
	}
	return lists
}

// A list of indices that is not valid comes before all that is to be found with it: before too
// many indices, and before damage.
func TestDecodingErrorsOfIndices(t *testing.T) {
	t.Parallel()
	source := rand.New(rand.NewSource(104))
	for _, c := range decodedCodes() {
		d := goodDecoding(t, c, source)
		d.succeeds(t)
		damaged := d
		damaged.word, damaged.syndromes = randomList(c.Field, source, c.Length), randomList(c.Field, source, c.Checks)
		for _, broken := range brokenIndices(c) {
			d.indices, damaged.indices = broken, broken
			d.fails(t, impl.ErrState, "LocatorOf", "ErrorValues", "CorrectWord", "DamageOf")
			damaged.fails(t, impl.ErrState, "LocatorOf", "ErrorValues", "CorrectWord", "DamageOf")
		}
		// Both ends are indices.
		d.indices = []int64{0, c.Length - 1}
		for _, name := range []string{"LocatorOf", "DamageOf"} {
			if one, _, code := d.calls()[name](); code != impl.ErrNone || len(one) == 0 {
				t.Fatal(name, c, "with both ends yields", one, code)
			}
		}
	}
}

// A list that is no word comes before lists of indices.
func TestDecodingErrorsOfWords(t *testing.T) {
	t.Parallel()
	source := rand.New(rand.NewSource(105))
	for _, c := range sampleCodes() {
		d := goodDecoding(t, c, source)
		lists := [][]int64{nil, {}, d.word[:1], d.word[1:], d.word[:c.Length-1], append(slices.Clone(d.word), 0), append(slices.Clone(d.word), -1),
			slices.Concat(d.word, d.word), make([]int64, 5000)}
		for _, wrong := range noElements(c.Field) {
			for _, at := range []int{0, 1, int(c.Length - c.Checks), int(c.Length) - 1} {
				lists = append(lists, with(d.word, at, wrong))
			}
			// An erased element has to be one too.
			lists = append(lists, with(d.word, int(d.indices[0]), wrong))
		}
		for _, broken := range lists {
			for _, indices := range [][]int64{d.indices, nil, {-1}, {0, 0}, {c.Length}, numbersUpTo(c.Length)} {
				decoding{code: c, indices: indices, word: broken, sent: d.sent}.fails(t, impl.ErrRange, "CorrectWord", "DamageOf")
				decoding{code: c, indices: indices, word: d.word, sent: broken}.fails(t, impl.ErrRange, "DamageOf")
				decoding{code: c, indices: indices, word: broken, sent: broken}.fails(t, impl.ErrRange, "DamageOf")
			}
		}
		// The word sent need not be a code word.
		d.sent = slices.Repeat([]int64{oracleSize(c.Field) - 1}, int(c.Length))
		d.succeeds(t)
	}
}

// Syndromes that are not Checks elements come before lists of indices and too many of them.
func TestErrorValuesErrorsOfSyndromes(t *testing.T) {
	t.Parallel()
	source := rand.New(rand.NewSource(106))
	for _, c := range decodedCodes() {
		d := goodDecoding(t, c, source)
		valid := d.syndromes
		lists := [][]int64{nil, {}, valid[1:], valid[:c.Checks-1], append(slices.Clone(valid), 0), append(slices.Clone(valid), -1),
			make([]int64, c.Length), make([]int64, 5000)}
		for _, wrong := range noElements(c.Field) {
			lists = append(lists, with(valid, 0, wrong), with(valid, int(c.Checks)-1, wrong))
		}
		for _, broken := range lists {
			if int64(len(broken)) == c.Checks && isList(c.Field, broken, c.Checks) {
				continue
			}
			for _, indices := range [][]int64{d.indices, nil, {-1}, {0, 0}, {c.Length}, numbersUpTo(c.Length)} {
				decoding{code: c, indices: indices, syndromes: broken}.fails(t, impl.ErrRange, "ErrorValues")
			}
		}
	}
}

// Up to Checks indices are not too many; one more is, also if there are values.
func TestErrorValuesErrorsOfCounts(t *testing.T) {
	t.Parallel()
	source := rand.New(rand.NewSource(107))
	for _, c := range decodedCodes() {
		zeros := make([]int64, c.Checks)
		hasValues(t, c, zeros, someIndices(c, source, c.Checks), zeros)
		for _, count := range []int64{c.Checks + 1, c.Checks + 2, c.Length} {
			if count > c.Length {
				continue
			}
			for _, syndromes := range [][]int64{zeros, randomList(c.Field, source, c.Checks)} {
				decoding{code: c, indices: numbersUpTo(count), syndromes: syndromes}.fails(t, impl.ErrLimit, "ErrorValues")
				decoding{code: c, indices: someIndices(c, source, count), syndromes: syndromes}.fails(t, impl.ErrLimit, "ErrorValues")
			}
		}
	}
}

func TestIndicesOfErrors(t *testing.T) {
	t.Parallel()
	for _, c := range sampleCodes() {
		for _, broken := range notPolynomials(c.Field) {
			decoding{code: c, locator: broken}.fails(t, impl.ErrRange, "IndicesOf")
		}
	}
}

// Nil and empty lists are the same value.
func TestDecodingOfNoIndices(t *testing.T) {
	t.Parallel()
	source := rand.New(rand.NewSource(108))
	for _, c := range decodedCodes() {
		sent := someCodeWord(t, c, source)
		for _, word := range [][]int64{sent, changedAt(c, source, sent, someIndices(c, source, c.Checks/2)), randomList(c.Field, source, c.Length)} {
			one, found := correct(t, c, word, nil)
			two, still := correct(t, c, word, []int64{})
			if found != still || !slices.Equal(one, two) {
				t.Fatal("CorrectWord", c, word, "yields", one, found, "and then", two, still)
			}
			a := good(t, "DamageOf")(impl.DamageOf(c, word, sent, nil))
			b := good(t, "DamageOf")(impl.DamageOf(c, word, sent, []int64{}))
			if a != b || a != 2*oracleDistance(word, sent) {
				t.Fatal("DamageOf", c, word, sent, "yields", a, b)
			}
		}
	}
}

func TestDecodingArgumentsAndResults(t *testing.T) {
	t.Parallel()
	source := rand.New(rand.NewSource(109))
	for _, c := range decodedCodes() {
		right := goodDecoding(t, c, source)
		lost := right
		lost.word, lost.syndromes, lost.locator = randomList(c.Field, source, c.Length), randomList(c.Field, source, c.Checks), []int64{1, 0, 1}
		still := right
		still.word, still.syndromes, still.indices, still.locator = right.sent, make([]int64, c.Checks), nil, []int64{1}
		for _, d := range []decoding{right, lost, still} {
			arguments := []guarded{guard(d.indices), guard(d.locator), guard(d.syndromes), guard(d.word), guard(d.sent)}
			d.indices, d.locator, d.syndromes = arguments[0].list, arguments[1].list, arguments[2].list
			d.word, d.sent = arguments[3].list, arguments[4].list
			for name, call := range d.calls() {
				unshared(t, name, func() []int64 { one, _, _ := call(); return one }, arguments...)
				unshared(t, name, func() []int64 { _, two, _ := call(); return two }, arguments...)
			}
			impl.IsCorrectable(c, d.word, d.indices)
			for _, argument := range arguments {
				argument.check(t, "IsCorrectable")
			}
		}
	}
}

// The two results of one call are not in the same memory.
func TestCorrectWordResults(t *testing.T) {
	t.Parallel()
	source := rand.New(rand.NewSource(110))
	for _, c := range decodedCodes() {
		sent := someCodeWord(t, c, source)
		erasures := someIndices(c, source, c.Checks)
		word := changedAt(c, source, sent, erasures)
		corrected, indices, _ := impl.CorrectWord(c, word, erasures)
		scribble(corrected)
		if !slices.Equal(indices, erasures) {
			t.Fatal("CorrectWord", c, "has both results in one memory")
		}
		corrected, indices, _ = impl.CorrectWord(c, word, erasures)
		scribble(indices)
		if !slices.Equal(corrected, sent) {
			t.Fatal("CorrectWord", c, "has both results in one memory")
		}
	}
}

// Calls that fail leave their arguments alone too.
func TestDecodingArgumentsOfErrors(t *testing.T) {
	t.Parallel()
	source := rand.New(rand.NewSource(111))
	for _, c := range sampleCodes() {
		word, sent := guard(append(randomList(c.Field, source, c.Length-1), -1)), guard(someCodeWord(t, c, source))
		syndromes, locator := guard(with(make([]int64, c.Checks), 0, -1)), guard([]int64{1, 0})
		many, broken := guard(numbersUpTo(c.Length)), guard([]int64{1, 0})
		decoding{c, many.list, locator.list, syndromes.list, word.list, sent.list}.fails(t, impl.ErrRange, "IndicesOf", "ErrorValues", "CorrectWord", "DamageOf")
		decoding{c, broken.list, locator.list, make([]int64, c.Checks), sent.list, sent.list}.fails(t, impl.ErrState, "LocatorOf", "ErrorValues", "CorrectWord", "DamageOf")
		decoding{c, many.list, nil, make([]int64, c.Checks), sent.list, sent.list}.fails(t, impl.ErrLimit, "ErrorValues")
		decoding{c, many.list, nil, nil, sent.list, sent.list}.fails(t, impl.ErrDamage, "CorrectWord")
		other := impl.Code{Field: c.Field, Length: c.Length}
		decoding{other, many.list, locator.list, syndromes.list, word.list, sent.list}.fails(t, impl.ErrInvalid)
		for _, argument := range []guarded{word, sent, syndromes, locator, many, broken} {
			argument.check(t, "a function of chapter 5")
		}
	}
}

// Arguments may overlap in memory.
func TestDecodingArgumentsInOneMemory(t *testing.T) {
	t.Parallel()
	for _, c := range decodedCodes() {
		if oracleSize(c.Field) <= c.Length+1 {
			continue
		}
		// The same numbers are elements and indices.
		whole := guard(numbersUpTo(c.Length + 1))
		word, sent, indices := whole.list[:c.Length], whole.list[1:], whole.list[:c.Checks]
		if damage := good(t, "DamageOf")(impl.DamageOf(c, word, sent, indices)); damage != oracleDamage(word, sent, indices) {
			t.Fatal("DamageOf", c, word, sent, indices, "yields", damage)
		}
		if corrected, found := correct(t, c, word, indices); !found || !slices.Equal(corrected[c.Checks:], word[c.Checks:]) {
			t.Fatal("CorrectWord", c, word, indices, "yields", corrected, found)
		}
		values, code := impl.ErrorValues(c, whole.list[1:c.Checks+1], indices)
		if code != impl.ErrNone || !slices.Equal(oracleSyndromes(c, placed(c, indices, values)), whole.list[1:c.Checks+1]) {
			t.Fatal("ErrorValues", c, indices, "yields", values, code)
		}
		whole.check(t, "a function of chapter 5")
	}
}

// No call changes what a later one with another code yields.
func TestDecodingKeepsNoState(t *testing.T) {
	t.Parallel()
	var first []map[string]string
	var list []decoding
	source := rand.New(rand.NewSource(112))
	for _, c := range sampleCodes() {
		list = append(list, goodDecoding(t, c, source))
	}
	results := func(d decoding) map[string]string {
		out := map[string]string{}
		for name, call := range d.calls() {
			one, two, code := call()
			out[name] = textOf(one) + "/ " + textOf(two) + "/ " + textOf([]int64{code})
		}
		return out
	}
	for _, d := range list {
		first = append(first, results(d))
	}
	for i := len(list) - 1; i >= 0; i-- {
		for name, again := range results(list[i]) {
			if again != first[i][name] {
				t.Error(name, list[i], "yields", first[i][name], "and then", again)
			}
		}
	}
}

// One word is corrected to different words by codes that differ only in the Poly of their
// fields.
func TestDecodingOfOtherPolys(t *testing.T) {
	for _, polys := range [][2]impl.Field{
		{{Prime: 2, Power: 3, Poly: 11}, {Prime: 2, Power: 3, Poly: 13}},
		{{Prime: 2, Power: 8, Poly: 285}, {Prime: 2, Power: 8, Poly: 501}},
	} {
		one := impl.Code{Field: polys[0], Length: 7, Checks: 5}
		two := impl.Code{Field: polys[1], Length: 7, Checks: 5}
		// With two elements alike, the word with only these could be one of both codes.
		word, erasures := []int64{0, 1, 0, 0, 3, 0, 0}, []int64{0, 2, 3, 5, 6}
		a, oneFound := correct(t, one, word, erasures)
		b, twoFound := correct(t, two, word, erasures)
		if !oneFound || !twoFound || slices.Equal(a, b) || slices.Equal(goodLocator(t, one, []int64{0, 3}), goodLocator(t, two, []int64{0, 3})) {
			t.Error(one, two, word, "is corrected to", a, b)
		}
	}
}
