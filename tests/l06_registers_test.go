package tests

import (
	"math"
	"math/rand"
	"slices"
	"strconv"
	"testing"

	"loop.example/g00879/impl"
)

// The oracles below do not use what they check: lengths are found by a search through all
// polynomials, or by solving linear equations, and a word is corrected by CorrectWord, which does
// not look for recurrences.

// logarithms multiply by adding exponents, so that searches do not take too long.
type logarithms struct {
	field    impl.Field
	powers   []int64
	exponent []int
}

func logarithmsOf(f impl.Field) logarithms {
	q := logarithms{field: f, powers: oraclePowers(f), exponent: make([]int, oracleSize(f))}
	for n, power := range q.powers {
		q.exponent[power] = n
	}
	return q
}

func (q logarithms) product(a, b int64) int64 {
	if a == 0 || b == 0 {
		return 0
	}
	return q.powers[(q.exponent[a]+q.exponent[b])%len(q.powers)]
}

func (q logarithms) inverse(a int64) int64 {
	return q.powers[(len(q.powers)-q.exponent[a])%len(q.powers)]
}

// negative multiplies by the element whose sum with 1 is 0.
func (q logarithms) negative(a int64) int64 {
	if q.field.Power == 1 {
		return q.product(a, q.field.Prime-1)
	}
	return a
}

// sumAt is the sum of the document, as far as c has coefficients.
func (q logarithms) sumAt(list, c []int64, k int) int64 {
	sum := int64(0)
	for i := range c {
		sum = oracleAdd(q.field, sum, q.product(c[i], list[k-i]))
	}
	return sum
}

// satisfies is the definition of the document. It needs a sequence and a c with 1 at 0.
func (q logarithms) satisfies(list, c []int64, length int) bool {
	if len(strip(c))-1 > length {
		return false
	}
	for k := length; k < len(list); k++ {
		if q.sumAt(list, strip(c), k) != 0 {
			return false
		}
	}
	return true
}

// continued appends elements so that the sum is 0 at each of them.
func (q logarithms) continued(list, c []int64, count int) []int64 {
	longer := slices.Clone(list)
	for range count {
		longer = append(longer, 0)
		k := len(longer) - 1
		longer[k] = q.negative(q.sumAt(longer, c, k))
	}
	return longer
}

// solved are coefficients with which the sum of c_i * row_i is the last number of each row, and
// false if there are none. It changes the rows.
func (q logarithms) solved(rows [][]int64, count int) ([]int64, bool) {
	solution := make([]int64, count)
	var pivots []int
	for column := range count {
		top := len(pivots)
		at := slices.IndexFunc(rows[top:], func(row []int64) bool { return row[column] != 0 })
		if at < 0 {
			continue
		}
		rows[top], rows[top+at] = rows[top+at], rows[top]
		inverse := q.inverse(rows[top][column])
		for i, a := range rows[top] {
			rows[top][i] = q.product(a, inverse)
		}
		for n, row := range rows {
			if factor := q.negative(row[column]); n != top && factor != 0 {
				for i, a := range rows[top] {
					row[i] = oracleAdd(q.field, row[i], q.product(factor, a))
				}
			}
		}
		pivots = append(pivots, column)
	}
	for n, row := range rows {
		if n >= len(pivots) && row[count] != 0 {
			return nil, false
		}
		if n < len(pivots) {
			solution[pivots[n]] = row[count]
		}
	}
	return solution, true
}

// shortest is the least length with which there is a polynomial, and one of these: its
// coefficients from x^1 on solve linear equations.
func (q logarithms) shortest(list []int64) (length int, c []int64) {
	for length := range len(list) {
		var rows [][]int64
		for k := length; k < len(list); k++ {
			var row []int64
			for i := 1; i <= length; i++ {
				row = append(row, list[k-i])
			}
			rows = append(rows, append(row, q.negative(list[k])))
		}
		if solution, found := q.solved(rows, length); found {
			return length, strip(append([]int64{1}, solution...))
		}
	}
	return len(list), []int64{1}
}

func goodLength(t *testing.T, f impl.Field, list []int64) int64 {
	t.Helper()
	return good(t, "SequenceLength")(impl.SequenceLength(f, list))
}

func goodRecurrence(t *testing.T, f impl.Field, list []int64) []int64 {
	t.Helper()
	return goodList(t, "RecurrenceOf", f)(impl.RecurrenceOf(f, list))
}

func goodContinuation(t *testing.T, f impl.Field, list []int64, count int64) []int64 {
	t.Helper()
	next, code := impl.ContinueSequence(f, list, count)
	if code != impl.ErrNone || !isList(f, next, count) {
		t.Fatal("ContinueSequence", f, list, count, "yields", next, code)
	}
	return next
}

func hasNoRecurrence(t *testing.T, f impl.Field, list []int64) {
	t.Helper()
	if c, code := impl.RecurrenceOf(f, list); code != impl.ErrState || len(c) != 0 {
		t.Fatal("RecurrenceOf", f, list, "yields", c, code)
	}
	for _, count := range []int64{0, 1, impl.MaxSequence} {
		if next, code := impl.ContinueSequence(f, list, count); code != impl.ErrState || len(next) != 0 {
			t.Fatal("ContinueSequence", f, list, count, "yields", next, code)
		}
	}
}

// hasRecurrence checks the length of a sequence, and its recurrence, if 2 * length is not greater
// than the number of elements.
func hasRecurrence(t *testing.T, f impl.Field, list []int64, length int, c []int64) {
	t.Helper()
	if got := goodLength(t, f, list); got != int64(length) {
		t.Fatal("SequenceLength", f, list, "yields", got, "and not", length)
	}
	if 2*length > len(list) {
		hasNoRecurrence(t, f, list)
		return
	}
	if got := goodRecurrence(t, f, list); !slices.Equal(got, c) {
		t.Fatal("RecurrenceOf", f, list, "yields", got, "and not", c)
	}
	if !impl.IsSatisfied(f, list, c, int64(length)) || impl.IsSatisfied(f, list, c, int64(length)-1) {
		t.Fatal("IsSatisfied", f, list, c, "with", length, "and one less")
	}
}

func TestSequenceLimit(t *testing.T) {
	if impl.MaxSequence != 64 {
		t.Error("limit", impl.MaxSequence)
	}
}

// The examples of the document.
func TestSequenceExamples(t *testing.T) {
	for _, f := range sampleFields() {
		for count := range impl.MaxSequence + 1 {
			hasRecurrence(t, f, make([]int64, count), 0, []int64{1})
		}
		hasRecurrence(t, f, []int64{0, 0, 1}, 3, nil)
	}
	f := fieldOf(t, 7)
	hasRecurrence(t, f, []int64{1, 2, 4, 1}, 1, []int64{1, 5})
	if next := goodContinuation(t, f, []int64{1, 2, 4, 1}, 5); !slices.Equal(next, []int64{2, 4, 1, 2, 4}) {
		t.Error("ContinueSequence", next)
	}
}

// Sequences that are worked out by hand.
func TestSequencesByHand(t *testing.T) {
	seven, eight := fieldOf(t, 7), fieldOf(t, 8)
	// 1, 1, 2, 3, 5, 8 = 1: each is the sum of both before it, so 1 - x - x^2.
	hasRecurrence(t, seven, []int64{1, 1, 2, 3, 5, 1}, 2, []int64{1, 6, 6})
	hasRecurrence(t, seven, []int64{1, 1, 2, 3}, 2, []int64{1, 6, 6})
	hasRecurrence(t, seven, []int64{1, 1, 2}, 2, nil)
	if next := goodContinuation(t, seven, []int64{1, 1, 2, 3}, 4); !slices.Equal(next, []int64{5, 1, 6, 0}) {
		t.Error("ContinueSequence", next)
	}
	// Doubled from the third element on: the degree 1 is less than the length 3.
	hasRecurrence(t, seven, []int64{0, 0, 1, 2, 4, 1}, 3, []int64{1, 5})
	hasRecurrence(t, seven, []int64{0, 0, 1, 2, 4}, 3, nil)
	hasRecurrence(t, seven, []int64{3, 0, 1, 2, 4, 1}, 3, []int64{1, 5})
	if next := goodContinuation(t, seven, []int64{0, 0, 1, 2, 4, 1}, 2); !slices.Equal(next, []int64{2, 4}) {
		t.Error("ContinueSequence", next)
	}
	// A sequence that ends in zeros: the degree is 0.
	hasRecurrence(t, seven, []int64{0, 0, 1, 0, 0, 0}, 3, []int64{1})
	hasRecurrence(t, eight, []int64{5, 0}, 1, []int64{1})
	// The powers of 2 in the field of 8 elements are 1, 2, 4, 3, 6.
	hasRecurrence(t, eight, []int64{1, 2, 4, 3, 6}, 1, []int64{1, 2})
	if next := goodContinuation(t, eight, []int64{1, 2}, 4); !slices.Equal(next, []int64{4, 3, 6, 7}) {
		t.Error("ContinueSequence", next)
	}
	// With one element that is wrong at the end, the length jumps.
	hasRecurrence(t, eight, []int64{1, 2, 4, 3, 7}, 4, nil)
	hasRecurrence(t, eight, []int64{1, 2, 4, 3, 6, 7, 0}, 6, nil)
}

// searchedFields are small, with a number of elements up to which all sequences are looked at.
func searchedFields() map[impl.Field]int64 {
	return map[impl.Field]int64{
		{Prime: 3, Power: 1, Poly: 2}:  7,
		{Prime: 5, Power: 1, Poly: 2}:  5,
		{Prime: 7, Power: 1, Poly: 3}:  5,
		{Prime: 2, Power: 3, Poly: 11}: 4,
		{Prime: 2, Power: 3, Poly: 13}: 4,
	}
}

// Promise 6: the length is the least one with which a sequence satisfies some polynomial, and
// where 2 * L is at most the number of elements, no other polynomial has this length. All
// polynomials are searched for all sequences.
func TestLengthsAgainstASearch(t *testing.T) {
	for f, most := range searchedFields() {
		t.Run(strconv.FormatInt(f.Poly, 10)+" "+strconv.FormatInt(f.Prime, 10), func(t *testing.T) {
			t.Parallel()
			q := logarithmsOf(f)
			var factors [][][]int64
			for length := range most + 1 {
				factors = append(factors, allWords(f, length))
			}
			for count := range most + 1 {
				for _, list := range allWords(f, count) {
					length := -1
					var found [][]int64
					for len(found) == 0 {
						length++
						for _, rest := range factors[length] {
							if c := append([]int64{1}, rest...); q.satisfies(list, c, length) {
								found = append(found, strip(c))
							}
						}
					}
					if 2*length <= len(list) && len(found) != 1 {
						t.Fatal(f, list, "satisfies with the length", length, "all of", found)
					}
					hasRecurrence(t, f, list, length, found[0])
					for _, c := range found {
						if !impl.IsSatisfied(f, list, c, int64(length)) {
							t.Fatal("IsSatisfied", f, list, c, length)
						}
					}
				}
			}
		})
	}
}

// A sequence satisfies no polynomial at all with a length that is less than its own.
func TestNoPolynomialHasALesserLength(t *testing.T) {
	t.Parallel()
	for f, most := range searchedFields() {
		count := min(most, 4)
		for _, list := range allWords(f, count) {
			length := goodLength(t, f, list)
			for _, p := range polynomialsUpTo(f, int(length)) {
				if impl.IsSatisfied(f, list, p, length-1) {
					t.Fatal("IsSatisfied", f, list, p, length-1, "although the length is", length)
				}
			}
		}
	}
}

// oneAmongZeros has a at one index and 0 at all others.
func oneAmongZeros(count, at int, a int64) []int64 {
	return with(make([]int64, count), at, a)
}

// With one element that is not 0, the length is the number of elements up to it.
func TestOneAmongZeros(t *testing.T) {
	t.Parallel()
	source := rand.New(rand.NewSource(121))
	for _, f := range sampleFields() {
		for _, count := range []int{1, 2, 3, 4, 5, 8, 31, 63, impl.MaxSequence} {
			for _, at := range []int{0, 1, 2, count / 2, count/2 - 1, count - 2, count - 1} {
				if at < 0 || at >= count {
					continue
				}
				list := oneAmongZeros(count, at, 1+source.Int63n(oracleSize(f)-1))
				hasRecurrence(t, f, list, at+1, []int64{1})
				if 2*(at+1) <= count {
					for _, more := range []int64{0, 1, impl.MaxSequence} {
						if next := goodContinuation(t, f, list, more); !isZero(next) {
							t.Fatal("ContinueSequence", f, list, more, "yields", next)
						}
					}
				}
			}
		}
	}
}

// somePieces are sequences of many shapes: random ones, parts of recurrences, with an element that
// is wrong, with zeros at either end, and with few different elements.
func somePieces(q logarithms, source *rand.Rand, count int) [][]int64 {
	f, size := q.field, oracleSize(q.field)
	lists := [][]int64{
		randomList(f, source, int64(count)), slices.Repeat([]int64{size - 1}, count), slices.Repeat([]int64{1}, count),
		randomBits(source, count), make([]int64, count),
	}
	for _, degree := range []int{1, 2, 3, count / 4, count / 2, count/2 + 1} {
		first := randomList(f, source, int64(min(degree, count)))
		c := with(randomPolynomial(f, source, len(first)+1), 0, 1)
		list := q.continued(first, c, count-len(first))
		lists = append(lists, list)
		if count > 0 {
			at := source.Intn(count)
			lists = append(lists, with(list, at, source.Int63n(size)), with(list, count-1, source.Int63n(size)), with(list, 0, 0))
			zeros := slices.Clone(list)
			clear(zeros[at:])
			lists = append(lists, zeros, append(make([]int64, at), list[:count-at]...))
		}
	}
	return lists
}

// Long sequences over all fields, held against linear equations.
func TestLengthsAgainstEquations(t *testing.T) {
	for _, f := range sampleFields() {
		t.Run(strconv.FormatInt(f.Poly, 10)+" "+strconv.FormatInt(f.Prime, 10), func(t *testing.T) {
			t.Parallel()
			source := rand.New(rand.NewSource(122))
			q := logarithmsOf(f)
			for _, count := range []int{0, 1, 2, 3, 4, 5, 6, 9, 16, 33, 63, impl.MaxSequence} {
				for _, list := range somePieces(q, source, count) {
					length, c := q.shortest(list)
					hasRecurrence(t, f, list, length, c)
				}
			}
		})
	}
}

// The length of a sequence never falls when an element is appended, and grows at once as far as
// it has to.
func TestLengthsOfLongerSequences(t *testing.T) {
	t.Parallel()
	source := rand.New(rand.NewSource(123))
	for _, f := range sampleFields() {
		for _, list := range somePieces(logarithmsOf(f), source, impl.MaxSequence) {
			last := int64(0)
			for count := range list {
				length := goodLength(t, f, list[:count+1])
				if length != last && length != int64(count+1)-last || length < last {
					t.Fatal("SequenceLength", f, list[:count+1], "yields", length, "after", last)
				}
				last = length
			}
		}
	}
}

// A sequence by a chosen recurrence from chosen first elements.
type chosen struct {
	first, c []int64
}

// expected is what a chosen recurrence leads to. The sequence is the series of numerator / c, and
// what is left of both without their common divisor has the least length.
func (x chosen) expected(t *testing.T, q logarithms) (length int, c []int64) {
	t.Helper()
	f := q.field
	var product []int64
	for k := range x.first {
		product = append(product, q.sumAt(x.first, x.c[:min(len(x.c), k+1)], k))
	}
	numerator := strip(product)
	if len(numerator) == 0 {
		return 0, []int64{1}
	}
	divisor := goodList(t, "PolyGcd", f)(impl.PolyGcd(f, x.c, numerator))
	c, _ = goodDivision(t, f, x.c, divisor)
	numerator, _ = goodDivision(t, f, numerator, divisor)
	c = oracleProduct(f, c, []int64{q.inverse(c[0])})
	return max(len(c)-1, len(numerator)), c
}

// someChosen are recurrences of the length of the first elements, with the same degree or a lesser
// one.
func someChosen(f impl.Field, source *rand.Rand, length int) []chosen {
	var all []chosen
	for _, degree := range []int{0, 1, 2, length / 2, length - 1, length} {
		if degree < 0 || degree > length {
			continue
		}
		c := with(randomPolynomial(f, source, degree+1), 0, 1)
		zeros := make([]int64, length)
		all = append(all, chosen{randomList(f, source, int64(length)), c}, chosen{zeros, c})
		if length > 0 {
			greatest := slices.Repeat([]int64{oracleSize(f) - 1}, length)
			all = append(all, chosen{with(zeros, length-1, 1), c}, chosen{with(zeros, 0, 1), c}, chosen{greatest, c})
		}
	}
	return all
}

// Promise 6: a sequence is recovered from as few as 2 * L elements, also where the degree is less
// than the length.
func TestChosenRecurrencesAreRecovered(t *testing.T) {
	t.Parallel()
	source := rand.New(rand.NewSource(124))
	same, lesser := 0, 0
	for _, f := range sampleFields() {
		q := logarithmsOf(f)
		for _, length := range []int{0, 1, 2, 3, 4, 7, 16, 31, 32} {
			for _, x := range someChosen(f, source, length) {
				want, c := x.expected(t, q)
				if want == length && len(c)-1 == length {
					same++
				}
				if want == length && len(c)-1 < length {
					lesser++
				}
				for _, count := range []int{length, 2*want - 1, 2 * want, 2*want + 1, 2 * length, 2*length + 1, impl.MaxSequence} {
					if count >= length && count >= 2*want-1 && count <= impl.MaxSequence {
						hasRecurrence(t, f, q.continued(x.first, x.c, count-length), want, c)
					}
				}
			}
		}
	}
	if same < 100 || lesser < 100 {
		t.Error("there are only", same, "recurrences with the degree of the length and", lesser, "with a lesser one")
	}
}

// Zeros in front: s_(L-1) = 1 makes every polynomial of a degree up to L a recurrence of the
// length L.
func TestRecurrencesBehindZeros(t *testing.T) {
	t.Parallel()
	source := rand.New(rand.NewSource(125))
	for _, f := range sampleFields() {
		q := logarithmsOf(f)
		for _, length := range []int{1, 2, 3, 5, 20, 32} {
			for degree := range length + 1 {
				c := with(randomPolynomial(f, source, degree+1), 0, 1)
				list := q.continued(oneAmongZeros(length, length-1, 1), c, impl.MaxSequence-length)
				hasRecurrence(t, f, list, length, c)
				hasRecurrence(t, f, list[:2*length], length, c)
				hasRecurrence(t, f, list[:2*length-1], length, nil)
			}
		}
	}
}

// The list that is continued has the same recurrence, and its new elements are those that the
// recurrence makes.
func TestContinueSequence(t *testing.T) {
	t.Parallel()
	source := rand.New(rand.NewSource(126))
	for _, f := range sampleFields() {
		q := logarithmsOf(f)
		for _, length := range []int{0, 1, 2, 3, 6, 32} {
			for _, x := range someChosen(f, source, length) {
				want, c := x.expected(t, q)
				whole := q.continued(x.first, x.c, 2*impl.MaxSequence-length)
				for _, size := range []int{max(length, 2*want), impl.MaxSequence} {
					for _, count := range []int64{0, 1, impl.MaxSequence} {
						next := goodContinuation(t, f, whole[:size], count)
						if !slices.Equal(next, whole[size:size+int(count)]) {
							t.Fatal("ContinueSequence", f, whole[:size], count, "yields", next)
						}
						longer := append(slices.Clone(whole[:size]), next...)
						if !q.satisfies(longer, c, want) {
							t.Fatal("ContinueSequence", f, whole[:size], count, "yields", next, "which does not satisfy", c)
						}
						hasRecurrence(t, f, longer[:min(len(longer), impl.MaxSequence)], want, c)
					}
				}
			}
		}
	}
}

// The next elements do not depend on how many are asked for, nor on how many are asked for at once.
func TestContinueSequenceInParts(t *testing.T) {
	t.Parallel()
	source := rand.New(rand.NewSource(127))
	for _, f := range sampleFields() {
		q := logarithmsOf(f)
		for _, x := range someChosen(f, source, 9) {
			list := q.continued(x.first, x.c, 11)
			whole := goodContinuation(t, f, list, impl.MaxSequence)
			for _, count := range []int64{0, 1, 5, 44} {
				next := goodContinuation(t, f, list, count)
				longer := append(slices.Clone(list), next...)
				rest := goodContinuation(t, f, longer, impl.MaxSequence-count)
				if !slices.Equal(append(next, rest...), whole) {
					t.Fatal("ContinueSequence", f, list, "by", count, "and then the rest")
				}
			}
		}
	}
}

// Every small sequence, polynomial and length.
func TestIsSatisfiedOfAllSmallOnes(t *testing.T) {
	for f := range searchedFields() {
		t.Run(strconv.FormatInt(f.Poly, 10)+" "+strconv.FormatInt(f.Prime, 10), func(t *testing.T) {
			t.Parallel()
			q := logarithmsOf(f)
			found := 0
			for count := range int64(4) {
				for _, list := range allWords(f, count) {
					for _, p := range polynomialsUpTo(f, 3) {
						for length := range 6 {
							want := len(p) > 0 && p[0] == 1 && q.satisfies(list, p, length)
							if impl.IsSatisfied(f, list, p, int64(length)) != want {
								t.Fatal("IsSatisfied", f, list, p, length, "is not", want)
							}
							if want && length < len(list) {
								found++
							}
						}
					}
				}
			}
			if found == 0 {
				t.Error(f, "has no polynomials that are satisfied")
			}
		})
	}
}

// The length may be greater than the degree, the number of elements, and the least one; it may not
// be less than the degree, nor such that the sum is not 0 somewhere.
func TestIsSatisfiedOfLengths(t *testing.T) {
	t.Parallel()
	source := rand.New(rand.NewSource(128))
	for _, f := range sampleFields() {
		q := logarithmsOf(f)
		for _, length := range []int{0, 1, 2, 3, 8, 32} {
			for _, x := range someChosen(f, source, length) {
				want, c := x.expected(t, q)
				list := q.continued(x.first, x.c, impl.MaxSequence-length)
				for _, size := range []int{0, 1, 2 * length, impl.MaxSequence} {
					for _, given := range []int{0, 1, want - 1, want, want + 1, len(x.c) - 2, len(x.c) - 1, size - 1, size, size + 1, impl.MaxSequence} {
						if given < 0 || given > impl.MaxSequence {
							continue
						}
						for _, p := range [][]int64{c, x.c, {1}} {
							if impl.IsSatisfied(f, list[:size], p, int64(given)) != q.satisfies(list[:size], p, given) {
								t.Fatal("IsSatisfied", f, list[:size], p, given)
							}
						}
					}
				}
				for _, given := range append(slices.Clone(extremes), -1, -2, impl.MaxSequence+1, impl.MaxSequence+2, 1<<32+int64(want)) {
					for _, size := range []int{0, impl.MaxSequence} {
						if impl.IsSatisfied(f, list[:size], c, given) {
							t.Fatal("IsSatisfied", f, list[:size], c, given)
						}
					}
				}
			}
		}
	}
}

func TestIsSatisfiedByHand(t *testing.T) {
	f := fieldOf(t, 7)
	for _, x := range []struct {
		list, c []int64
		length  int64
		want    bool
	}{
		{[]int64{1, 2, 4}, []int64{1, 5}, 1, true},
		{[]int64{1, 2, 4}, []int64{1, 5}, 0, false},
		{[]int64{1, 2, 5}, []int64{1, 5}, 1, false},
		{[]int64{1, 2, 5}, []int64{1, 5}, 2, false},
		{[]int64{1, 2, 5}, []int64{1, 5}, 3, true},
		{[]int64{3, 1, 2, 4}, []int64{1, 5}, 1, false},
		{[]int64{3, 1, 2, 4}, []int64{1, 5}, 2, true},
		{[]int64{1, 2, 4}, []int64{1}, 2, false},
		{[]int64{1, 2, 4}, []int64{1}, 3, true},
		{[]int64{1, 2, 0}, []int64{1}, 2, true},
		{[]int64{1, 2, 0}, []int64{1}, 1, false},
		{[]int64{0, 0}, []int64{1}, 0, true},
		{[]int64{0, 1}, []int64{1}, 0, false},
		{nil, []int64{1}, 0, true},
		{nil, []int64{1, 1}, 0, false},
		{nil, []int64{1, 1}, 1, true},
		{nil, []int64{1, 0, 0, 1}, 2, false},
		{nil, []int64{1, 0, 0, 1}, 3, true},
		// Three times the same recurrence is none, and 0 is none.
		{[]int64{1, 2, 4}, []int64{3, 1}, 1, false},
		{[]int64{1, 2, 4}, nil, 1, false},
		{[]int64{1, 2, 4}, []int64{}, 3, false},
		{[]int64{0, 0, 0}, []int64{0}, 0, false},
		{[]int64{0, 0, 0}, []int64{0, 1}, 1, false},
		{[]int64{0, 0, 0}, []int64{2}, 0, false},
		{[]int64{0, 0, 0}, []int64{8}, 0, false},
		{[]int64{0, 0, 0}, []int64{1, 0}, 1, false},
		{[]int64{1, 2, 4}, []int64{1, 5, 0}, 2, false},
		{[]int64{1, 2, 4}, []int64{1, -2}, 1, false},
		{[]int64{1, 2, 4}, []int64{1, 12}, 1, false},
	} {
		if impl.IsSatisfied(f, x.list, x.c, x.length) != x.want {
			t.Error("IsSatisfied", x.list, x.c, x.length, "is not", x.want)
		}
	}
}

// Polynomials up to the degree of MaxSequence are satisfied with this length; greater degrees are
// too great for every length.
func TestIsSatisfiedOfGreatDegrees(t *testing.T) {
	t.Parallel()
	source := rand.New(rand.NewSource(129))
	for _, f := range sampleFields() {
		q := logarithmsOf(f)
		for _, degree := range []int{1, 32, 63, 64, 65, 66, 128, impl.MaxTerms - 1} {
			c := with(randomPolynomial(f, source, degree+1), 0, 1)
			for _, list := range [][]int64{nil, make([]int64, impl.MaxSequence), randomList(f, source, impl.MaxSequence)} {
				if impl.IsSatisfied(f, list, c, impl.MaxSequence) != (degree <= impl.MaxSequence) {
					t.Fatal("IsSatisfied", f, list, c, impl.MaxSequence)
				}
				want := degree <= impl.MaxSequence && q.satisfies(list, c, degree)
				if impl.IsSatisfied(f, list, c, int64(degree)) != want {
					t.Fatal("IsSatisfied", f, list, c, degree, "is not", want)
				}
				if impl.IsSatisfied(f, list, c, int64(degree)-1) {
					t.Fatal("IsSatisfied", f, list, c, degree-1)
				}
			}
		}
	}
}

func TestIsSatisfiedOfNoPolynomials(t *testing.T) {
	t.Parallel()
	for _, f := range sampleFields() {
		lists := append(notPolynomials(f), nil, []int64{}, []int64{0, 1}, []int64{2}, []int64{oracleSize(f) - 1, 1})
		for _, broken := range lists {
			for _, length := range []int64{0, 1, 2, 5, impl.MaxSequence} {
				for _, list := range [][]int64{nil, {0}, make([]int64, 10)} {
					if impl.IsSatisfied(f, list, broken, length) {
						t.Fatal("IsSatisfied", f, list, broken, length)
					}
				}
			}
		}
	}
}

// agree checks that both ways of decoding have all three results in common, and that ErrorLocator
// fits them where nothing is erased.
func agree(t *testing.T, c impl.Code, word, erasures []int64) int64 {
	t.Helper()
	corrected, indices, code := impl.CorrectWord(c, word, erasures)
	again, changed, two := impl.CorrectByRegister(c, word, erasures)
	if code != two || !slices.Equal(corrected, again) || !slices.Equal(indices, changed) {
		t.Fatal("CorrectByRegister", c, word, erasures, "yields", again, changed, two, "and not", corrected, indices, code)
	}
	if len(erasures) > 0 {
		return code
	}
	locator, three := impl.ErrorLocator(c, word)
	if three != code || code != impl.ErrNone && len(locator) != 0 {
		t.Fatal("ErrorLocator", c, word, "yields", locator, three, "and not the error", code)
	}
	if code != impl.ErrNone {
		return code
	}
	if want := goodLocator(t, c, indices); !slices.Equal(locator, want) {
		t.Fatal("ErrorLocator", c, word, "yields", locator, "and not", want)
	}
	if recurrence := goodRecurrence(t, c.Field, goodSyndromes(t, c, word)); !slices.Equal(locator, recurrence) {
		t.Fatal("ErrorLocator", c, word, "yields", locator, "and not", recurrence)
	}
	return code
}

// agreeOn checks that both ways lead to the code word that was sent.
func agreeOn(t *testing.T, c impl.Code, word, erasures, sent []int64) {
	t.Helper()
	corrected, indices, code := impl.CorrectByRegister(c, word, erasures)
	if code != impl.ErrNone || !slices.Equal(corrected, sent) || !slices.Equal(indices, oracleDifferences(word, sent)) {
		t.Fatal("CorrectByRegister", c, word, erasures, "yields", corrected, indices, code, "and not", sent)
	}
	agree(t, c, word, erasures)
}

func agreeOnDamage(t *testing.T, c impl.Code, word, erasures []int64) {
	t.Helper()
	if code := agree(t, c, word, erasures); code != impl.ErrDamage {
		t.Fatal("CorrectByRegister", c, word, erasures, "yields", code)
	}
}

// Words that are worked out by hand, over the elements 0 to 6 with the generator 3: 3, 6, 4 is a
// code word, and the locators of the indices 0, 1, 2 are 2, 3 and 1.
func TestRegistersByHand(t *testing.T) {
	c := impl.Code{Field: fieldOf(t, 7), Length: 3, Checks: 2}
	agreeOn(t, c, []int64{3, 6, 4}, nil, []int64{3, 6, 4})
	agreeOn(t, c, []int64{3, 6, 5}, nil, []int64{3, 6, 4})
	agreeOn(t, c, []int64{3, 0, 4}, nil, []int64{3, 6, 4})
	agreeOn(t, c, []int64{0, 6, 0}, []int64{0, 2}, []int64{3, 6, 4})
	agreeOn(t, c, []int64{3, 0, 0}, []int64{0, 2}, []int64{0, 0, 0})
	agreeOnDamage(t, c, []int64{3, 0, 4}, []int64{0})
	agreeOnDamage(t, c, []int64{3, 6, 4}, []int64{0, 1, 2})
	// 1 - x and 1 - 2 x.
	for _, x := range [][2][]int64{{{3, 6, 5}, {1, 6}}, {{0, 6, 4}, {1, 5}}, {{3, 6, 4}, {1}}} {
		if locator, code := impl.ErrorLocator(c, x[0]); code != impl.ErrNone || !slices.Equal(locator, x[1]) {
			t.Error("ErrorLocator", x[0], "yields", locator, code, "and not", x[1])
		}
	}
	// One check element is enough to find an error, but not to locate it.
	d := impl.Code{Field: fieldOf(t, 8), Length: 2, Checks: 1}
	agreeOn(t, d, []int64{5, 0}, []int64{1}, []int64{5, 1})
	agreeOnDamage(t, d, []int64{5, 0}, nil)
}

// Promise 6: every word of small codes, with every set of erasures, correctable or not.
func TestBothWaysOfSmallCodes(t *testing.T) {
	for at, c := range smallCodes() {
		t.Run(strconv.Itoa(at), func(t *testing.T) {
			t.Parallel()
			source := rand.New(rand.NewSource(130))
			words := allWords(c.Field, c.Length)
			for _, word := range words {
				if len(words) > 5000 && source.Intn(len(words)) >= 2000 {
					continue
				}
				for mask := range uint64(1) << c.Length {
					agree(t, c, word, masked(mask))
				}
			}
		})
	}
}

// bothWays checks a code word that is changed at some indices, and where others are erased.
func bothWays(t *testing.T, c impl.Code, source *rand.Rand, wrong, erasures []int64) {
	t.Helper()
	for _, x := range receivedWords(t, c, source, wrong, erasures) {
		agreeOn(t, c, x.word, x.erasures, x.sent)
		if len(erasures) > 0 {
			continue
		}
		locator, code := impl.ErrorLocator(c, x.word)
		if code != impl.ErrNone || !slices.Equal(locator, oracleLocator(c, wrong)) {
			t.Fatal("ErrorLocator", c, x.word, "yields", locator, code, "for the indices", wrong)
		}
	}
}

// Promise 6, at every number of errors and erasures that the bound allows.
func TestBothWaysWithinTheBound(t *testing.T) {
	t.Parallel()
	source := rand.New(rand.NewSource(131))
	for _, c := range decodedCodes() {
		if c.Checks > 12 {
			continue
		}
		for _, n := range countsWithinTheBound(c) {
			a, b := halves(c, source, n.wrong, n.erased)
			bothWays(t, c, source, a, b)
		}
	}
}

func TestBothWaysWithinTheBoundOfGreatestCodes(t *testing.T) {
	for _, c := range greatestCodes() {
		t.Run(strconv.FormatInt(oracleSize(c.Field), 10), func(t *testing.T) {
			t.Parallel()
			source := rand.New(rand.NewSource(132))
			for _, n := range countsWithinTheBound(c) {
				a, b := halves(c, source, n.wrong, n.erased)
				words := receivedWords(t, c, source, a, b)
				x := words[source.Intn(len(words))]
				agreeOn(t, c, x.word, b, x.sent)
			}
		})
	}
}

// Errors next to one another, at both ends, and with erasures between.
func TestBothWaysAtTheBound(t *testing.T) {
	t.Parallel()
	source := rand.New(rand.NewSource(133))
	for _, c := range decodedCodes() {
		all := numbersUpTo(c.Length)
		for _, wrong := range []int64{0, 1, c.Checks / 2} {
			count := c.Checks - wrong
			if 2*wrong > c.Checks {
				continue
			}
			bothWays(t, c, source, all[:wrong], all[wrong:count])
			bothWays(t, c, source, all[c.Length-wrong:], all[c.Length-count:c.Length-wrong])
			bothWays(t, c, source, all[:wrong], nil)
			bothWays(t, c, source, all[c.Length-wrong:], nil)
		}
	}
}

// Any word with as many erasures as there are check elements is correctable, and none with more.
func TestBothWaysOfManyErasures(t *testing.T) {
	t.Parallel()
	source := rand.New(rand.NewSource(134))
	for _, c := range decodedCodes() {
		for _, word := range [][]int64{make([]int64, c.Length), someCodeWord(t, c, source), randomList(c.Field, source, c.Length)} {
			for _, count := range []int64{c.Checks + 1, c.Checks + 2, c.Length - 1, c.Length} {
				if count > c.Checks && count <= c.Length {
					agreeOnDamage(t, c, word, someIndices(c, source, count))
				}
			}
			if code := agree(t, c, word, someIndices(c, source, c.Checks)); code != impl.ErrNone {
				t.Fatal("CorrectByRegister", c, word, "with", c.Checks, "erasures yields", code)
			}
		}
	}
}

// One error or erasure too many: the damage exceeds the bound by one.
func TestBothWaysJustBeyondTheBound(t *testing.T) {
	t.Parallel()
	source := rand.New(rand.NewSource(135))
	for _, c := range decodedCodes() {
		for _, x := range receivedJustBeyondTheBound(t, c, source) {
			agreeOnDamage(t, c, x.word, x.erasures)
		}
	}
}

// Far beyond the bound, both ways lead to the same other code word or to none.
func TestBothWaysBeyondTheBound(t *testing.T) {
	t.Parallel()
	source := rand.New(rand.NewSource(136))
	lost, other := 0, 0
	for _, c := range decodedCodes() {
		for range 8 {
			for _, erased := range []int64{0, source.Int63n(c.Checks + 1)} {
				x := receivedFarBeyondTheBound(t, c, source, erased)
				if agree(t, c, x.word, x.erasures) == impl.ErrNone {
					other++
				} else {
					lost++
				}
				agree(t, c, randomList(c.Field, source, c.Length), x.erasures)
			}
		}
	}
	if lost < 100 || other < 100 {
		t.Error("beyond the bound are", lost, "words that are lost and", other, "that become others")
	}
}

func TestBothWaysOfSparseCodes(t *testing.T) {
	t.Parallel()
	source := rand.New(rand.NewSource(137))
	for _, c := range sparseCodes() {
		for range 60 {
			word := randomList(c.Field, source, c.Length)
			sent := changedAt(c, source, someCodeWord(t, c, source), someIndices(c, source, source.Int63n(c.Checks+1)))
			for mask := range uint64(1) << c.Length {
				agree(t, c, word, masked(mask))
				agree(t, c, sent, masked(mask))
			}
		}
	}
}

// Syndromes whose recurrence is no locator polynomial: its degree is less than the length, it has
// a root of the order 2, no roots, or one beyond the word. A word with chosen syndromes has
// elements at its last indices only.
func TestRecurrencesThatAreNoLocators(t *testing.T) {
	t.Parallel()
	source := rand.New(rand.NewSource(138))
	for _, c := range decodedCodes() {
		if c.Checks < 2 {
			continue
		}
		q := logarithmsOf(c.Field)
		last := numbersUpTo(c.Length)[c.Length-c.Checks:]
		lists := [][]int64{oneAmongZeros(int(c.Checks), 0, 1), oneAmongZeros(int(c.Checks), int(c.Checks)/2, 1), oneAmongZeros(int(c.Checks), int(c.Checks)-1, 1)}
		if c.Checks >= 4 {
			single := oracleLocator(c, someIndices(c, source, 1))
			for _, p := range [][]int64{oracleProduct(c.Field, single, single), rootless(t, c.Field, source)} {
				lists = append(lists, q.continued([]int64{0, 1}, p, int(c.Checks)-2))
			}
			lists = append(lists, q.continued([]int64{0, 1}, single, int(c.Checks)-2))
		}
		if powers := oraclePowers(c.Field); int(c.Length) < len(powers) {
			lists = append(lists, q.continued([]int64{1}, []int64{1, oracleNegative(c.Field, powers[c.Length])}, int(c.Checks)-1))
		}
		for _, syndromes := range lists {
			values, code := impl.ErrorValues(c, syndromes, last)
			if code != impl.ErrNone {
				t.Fatal("ErrorValues", c, syndromes, last, "yields", code)
			}
			word := oracleWordSum(c.Field, someCodeWord(t, c, source), placed(c, last, values))
			if !slices.Equal(oracleSyndromes(c, word), syndromes) {
				t.Fatal(c, word, "has not the syndromes", syndromes)
			}
			agreeOnDamage(t, c, word, nil)
		}
	}
}

// The error locator of a code word is 1, and that of a single error is 1 - X_i x.
func TestErrorLocatorOfFewErrors(t *testing.T) {
	t.Parallel()
	source := rand.New(rand.NewSource(139))
	for _, c := range decodedCodes() {
		sent := someCodeWord(t, c, source)
		locator, code := impl.ErrorLocator(c, sent)
		if code != impl.ErrNone || !slices.Equal(locator, []int64{1}) {
			t.Fatal("ErrorLocator", c, sent, "yields", locator, code)
		}
		for _, i := range []int64{0, c.Length / 2, c.Length - 1} {
			word := changedAt(c, source, sent, []int64{i})
			locator, code := impl.ErrorLocator(c, word)
			if c.Checks == 1 {
				if code != impl.ErrDamage || len(locator) != 0 {
					t.Fatal("ErrorLocator", c, word, "yields", locator, code)
				}
				continue
			}
			if code != impl.ErrNone || !slices.Equal(locator, oracleLocator(c, []int64{i})) {
				t.Fatal("ErrorLocator", c, word, "yields", locator, code)
			}
		}
	}
}

// noSequences are lists that are too long or that have a number that is no element.
func noSequences(f impl.Field) [][]int64 {
	longest := slices.Repeat([]int64{1}, impl.MaxSequence)
	lists := [][]int64{
		make([]int64, impl.MaxSequence+1), append(slices.Clone(longest), 1), append(slices.Clone(longest), -1),
		make([]int64, 2*impl.MaxSequence), make([]int64, 5000), slices.Repeat([]int64{-1}, impl.MaxSequence+1),
	}
	for _, wrong := range noElements(f) {
		lists = append(lists, []int64{wrong}, []int64{0, 0, wrong}, []int64{wrong, 0, 0, 0}, with(longest, 0, wrong),
			with(longest, impl.MaxSequence/2, wrong), with(longest, impl.MaxSequence-1, wrong), []int64{wrong, wrong})
	}
	return lists
}

// sequenceFails checks that the functions with these names return a code and nothing else, all of
// them if there is no name. A sequence that is none satisfies nothing.
func sequenceFails(t *testing.T, f impl.Field, list []int64, count, want int64, names ...string) {
	t.Helper()
	returns(t, "a function of chapter 6", func() {
		t.Helper()
		length, one := impl.SequenceLength(f, list)
		recurrence, two := impl.RecurrenceOf(f, list)
		next, three := impl.ContinueSequence(f, list, count)
		for name, failed := range map[string]bool{
			"SequenceLength":   one == want && length == 0,
			"RecurrenceOf":     two == want && len(recurrence) == 0,
			"ContinueSequence": three == want && len(next) == 0,
		} {
			if !failed && (len(names) == 0 || slices.Contains(names, name)) {
				t.Fatal(name, f, list, count, "yields", length, one, recurrence, two, next, three, "instead of the error", want)
			}
		}
		if len(names) == 0 && (impl.IsSatisfied(f, list, []int64{1}, impl.MaxSequence) || impl.IsSatisfied(f, list, []int64{1}, 0)) {
			t.Fatal("IsSatisfied", f, list)
		}
	})
}

// wrongCounts are not in 0..MaxSequence.
func wrongCounts() []int64 {
	return append(slices.Clone(extremes), -2, impl.MaxSequence+1, impl.MaxSequence+2, 2*impl.MaxSequence)
}

// A field that is not valid comes before everything else.
func TestSequenceErrorsOfInvalidFields(t *testing.T) {
	t.Parallel()
	for _, f := range brokenFields() {
		for _, list := range [][]int64{nil, {}, {0}, {1, 1, 1, 1}, {0, 0, 1}, {-1}, make([]int64, impl.MaxSequence+1), extremes} {
			for _, count := range []int64{0, 1, -1, impl.MaxSequence + 1, math.MaxInt64} {
				sequenceFails(t, f, list, count, impl.ErrInvalid)
			}
		}
	}
}

// A list that is no sequence, with every count.
func TestSequenceErrorsOfLists(t *testing.T) {
	t.Parallel()
	for _, f := range sampleFields() {
		for _, list := range noSequences(f) {
			for _, count := range []int64{0, 1, impl.MaxSequence, impl.MaxSequence + 1, -1, math.MinInt64} {
				sequenceFails(t, f, list, count, impl.ErrRange)
			}
		}
	}
}

// A count that is not in its range comes before a sequence without a recurrence; the functions
// that have no count do not look at it.
func TestSequenceErrorsOfCounts(t *testing.T) {
	t.Parallel()
	source := rand.New(rand.NewSource(140))
	for _, f := range sampleFields() {
		recurrent := [][]int64{nil, {}, {0}, {0, 0}, {1, 0}, {1, 1}, make([]int64, impl.MaxSequence), slices.Repeat([]int64{1}, impl.MaxSequence)}
		others := [][]int64{{1}, {0, 1}, {0, 0, 1}, {1, 0, 1}, oneAmongZeros(impl.MaxSequence, impl.MaxSequence-1, 1), oneAmongZeros(impl.MaxSequence, 32, 1), oneAmongZeros(63, 31, 1)}
		for _, count := range wrongCounts() {
			for _, list := range slices.Concat(recurrent, others, [][]int64{randomList(f, source, 7)}) {
				sequenceFails(t, f, list, count, impl.ErrRange, "ContinueSequence")
			}
		}
		for _, list := range others {
			hasNoRecurrence(t, f, list)
			if goodLength(t, f, list) <= int64(len(list)/2) {
				t.Fatal("SequenceLength", f, list)
			}
		}
		for _, list := range recurrent {
			goodRecurrence(t, f, list)
			for _, count := range []int64{0, 1, impl.MaxSequence} {
				goodContinuation(t, f, list, count)
			}
		}
	}
}

// Nil and empty lists are the same value: a sequence with the recurrence 1.
func TestSequencesOfNothing(t *testing.T) {
	t.Parallel()
	for _, f := range sampleFields() {
		for _, none := range [][]int64{nil, {}} {
			hasRecurrence(t, f, none, 0, []int64{1})
			for _, count := range []int64{0, 1, impl.MaxSequence} {
				if next := goodContinuation(t, f, none, count); !isZero(next) {
					t.Fatal("ContinueSequence", f, count, "yields", next)
				}
			}
			for length := range int64(impl.MaxSequence + 1) {
				if !impl.IsSatisfied(f, none, []int64{1}, length) || impl.IsSatisfied(f, none, none, length) || impl.IsSatisfied(f, none, []int64{1, 1}, length) != (length > 0) {
					t.Fatal("IsSatisfied", f, none, length)
				}
			}
		}
	}
	for _, c := range decodedCodes() {
		for _, word := range [][]int64{make([]int64, c.Length), oneAmongZeros(int(c.Length), 0, 1)} {
			if agree(t, c, word, nil) != agree(t, c, word, []int64{}) {
				t.Fatal("CorrectByRegister", c, word)
			}
		}
	}
}

// registerFails checks that both ways of decoding fail with a code; without erasures, so does
// ErrorLocator.
func registerFails(t *testing.T, c impl.Code, word, erasures []int64, want int64) {
	t.Helper()
	returns(t, "a function of chapter 6", func() {
		t.Helper()
		if code := agree(t, c, word, erasures); code != want {
			t.Fatal("CorrectByRegister", c, word, erasures, "yields", code, "and not", want)
		}
	})
}

// A code that is not valid comes before everything else.
func TestRegisterErrorsOfInvalidCodes(t *testing.T) {
	t.Parallel()
	for _, c := range invalidCodes() {
		zeros := make([]int64, max(0, min(c.Length, 600)))
		for _, word := range [][]int64{zeros, nil, {-1}, extremes} {
			for _, erasures := range [][]int64{nil, {0}, {-1}, {1, 0}, extremes} {
				registerFails(t, c, word, erasures, impl.ErrInvalid)
			}
		}
	}
}

// A list that is no word comes before lists of indices, and before damage.
func TestRegisterErrorsOfWords(t *testing.T) {
	t.Parallel()
	source := rand.New(rand.NewSource(141))
	for _, c := range sampleCodes() {
		word := someCodeWord(t, c, source)
		lists := [][]int64{nil, {}, word[1:], word[:c.Length-1], append(slices.Clone(word), 0), append(slices.Clone(word), -1), make([]int64, 5000)}
		for _, wrong := range noElements(c.Field) {
			for _, at := range []int{0, int(c.Length-c.Checks) / 2, int(c.Length) - 1} {
				lists = append(lists, with(word, at, wrong))
			}
		}
		for _, broken := range lists {
			for _, erasures := range [][]int64{nil, {0}, {-1}, {1, 0}, {c.Length}, numbersUpTo(c.Length)} {
				registerFails(t, c, broken, erasures, impl.ErrRange)
			}
		}
	}
}

// A list of indices that is not valid comes before damage, and before too many erasures.
func TestRegisterErrorsOfIndices(t *testing.T) {
	t.Parallel()
	source := rand.New(rand.NewSource(142))
	for _, c := range sampleCodes() {
		sent := someCodeWord(t, c, source)
		damaged := changedAt(c, source, sent, someIndices(c, source, (c.Checks+1)/2))
		for _, broken := range brokenIndices(c) {
			registerFails(t, c, sent, broken, impl.ErrState)
			registerFails(t, c, damaged, broken, impl.ErrState)
		}
		// Both ends are indices.
		for _, ends := range [][]int64{{0}, {c.Length - 1}} {
			agreeOn(t, c, sent, ends, sent)
		}
	}
}

func TestRegisterArgumentsAndResults(t *testing.T) {
	t.Parallel()
	source := rand.New(rand.NewSource(143))
	for _, f := range sampleFields() {
		q := logarithmsOf(f)
		good := q.continued(randomList(f, source, 3), with(randomPolynomial(f, source, 4), 0, 1), 17)
		for _, values := range [][]int64{nil, good, make([]int64, 30), {0, 0, 1}, append(slices.Clone(good), -1), slices.Repeat(good, 4)} {
			list, c := guard(values), guard([]int64{1, 1})
			unshared(t, "RecurrenceOf", func() []int64 { out, _ := impl.RecurrenceOf(f, list.list); return out }, list)
			for _, count := range []int64{0, 1, 40, impl.MaxSequence, -1} {
				unshared(t, "ContinueSequence", func() []int64 { out, _ := impl.ContinueSequence(f, list.list, count); return out }, list)
			}
			impl.SequenceLength(f, list.list)
			list.check(t, "SequenceLength")
			for _, length := range []int64{-1, 0, 1, 3, impl.MaxSequence} {
				impl.IsSatisfied(f, list.list, c.list, length)
				impl.IsSatisfied(f, list.list, list.list, length)
				list.check(t, "IsSatisfied")
				c.check(t, "IsSatisfied")
			}
		}
	}
}

func TestCorrectByRegisterArgumentsAndResults(t *testing.T) {
	t.Parallel()
	source := rand.New(rand.NewSource(144))
	for _, c := range decodedCodes() {
		sent := someCodeWord(t, c, source)
		erased := someIndices(c, source, c.Checks)
		wrong := someIndices(c, source, c.Checks/2)
		for _, x := range [][2][]int64{
			{changedAt(c, source, sent, erased), erased}, {changedAt(c, source, sent, wrong), nil}, {sent, nil}, {sent, erased},
			{randomList(c.Field, source, c.Length), nil}, {with(sent, 0, -1), erased}, {sent, {1, 0}}, {sent, numbersUpTo(c.Length)},
		} {
			word, erasures := guard(x[0]), guard(x[1])
			call := func() ([]int64, []int64, int64) { return impl.CorrectByRegister(c, word.list, erasures.list) }
			unshared(t, "CorrectByRegister", func() []int64 { one, _, _ := call(); return one }, word, erasures)
			unshared(t, "CorrectByRegister", func() []int64 { _, two, _ := call(); return two }, word, erasures)
			unshared(t, "ErrorLocator", func() []int64 { out, _ := impl.ErrorLocator(c, word.list); return out }, word)
			corrected, indices, _ := call()
			want := slices.Clone(indices)
			scribble(corrected)
			if !slices.Equal(indices, want) {
				t.Fatal("CorrectByRegister", c, "has both results in one memory")
			}
		}
	}
}

// No call changes what a later one with another field or code yields.
func TestRegistersKeepNoState(t *testing.T) {
	t.Parallel()
	results := func(f impl.Field) string {
		list := []int64{0, 1, 2, 1, 1, 0, 2, 2}
		length, one := impl.SequenceLength(f, list)
		recurrence, two := impl.RecurrenceOf(f, list)
		next, three := impl.ContinueSequence(f, list, 9)
		c := impl.Code{Field: f, Length: 6, Checks: 4}
		corrected, indices, four := impl.CorrectByRegister(c, []int64{1, 0, 2, 1, 1, 0}, []int64{1, 2})
		locator, five := impl.ErrorLocator(c, []int64{1, 0, 0, 0, 0, 2})
		return textOf([]int64{length, one, two, three, four, five}) + textOf(slices.Concat(recurrence, next, corrected, indices, locator))
	}
	fields := sampleFields()
	var first []string
	for _, f := range fields {
		first = append(first, results(f))
	}
	for i := len(fields) - 1; i >= 0; i-- {
		if again := results(fields[i]); again != first[i] {
			t.Error(fields[i], "yields", first[i], "and then", again)
		}
	}
}
