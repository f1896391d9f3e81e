package tests

import (
	"math"
	"math/rand"
	"slices"
	"testing"

	"loop.example/g00879/impl"
)

// The oracles below do not use what they check: they add and multiply elements with the oracles
// of the tests of chapter 2, values are sums of powers, and nothing is divided.

// strip leaves out the last coefficients that are 0.
func strip(list []int64) []int64 {
	for len(list) > 0 && list[len(list)-1] == 0 {
		list = list[:len(list)-1]
	}
	return slices.Clone(list)
}

func oracleValue(f impl.Field, p []int64, x int64) int64 {
	sum, power := int64(0), int64(1)
	for _, a := range p {
		sum = oracleAdd(f, sum, oracleMul(f, a, power))
		power = oracleMul(f, power, x)
	}
	return sum
}

func oracleSum(f impl.Field, p, q []int64) []int64 {
	out := make([]int64, max(len(p), len(q)))
	for i := range out {
		if i < len(p) {
			out[i] = oracleAdd(f, out[i], p[i])
		}
		if i < len(q) {
			out[i] = oracleAdd(f, out[i], q[i])
		}
	}
	return strip(out)
}

func oracleProduct(f impl.Field, p, q []int64) []int64 {
	out := make([]int64, len(p)+len(q))
	for i, a := range p {
		for j, b := range q {
			out[i+j] = oracleAdd(f, out[i+j], oracleMul(f, a, b))
		}
	}
	return strip(out)
}

// oracleNegative is found by search.
func oracleNegative(f impl.Field, a int64) int64 {
	for b := range oracleSize(f) {
		if oracleAdd(f, a, b) == 0 {
			return b
		}
	}
	return filler
}

// polynomialsUpTo are all polynomials over a small field with at most count coefficients.
func polynomialsUpTo(f impl.Field, count int) [][]int64 {
	size := oracleSize(f)
	total := int64(1)
	for range count {
		total *= size
	}
	var all [][]int64
	for n := range total {
		var p []int64
		for rest := n; rest > 0; rest /= size {
			p = append(p, rest%size)
		}
		all = append(all, p)
	}
	return all
}

// randomPolynomial has exactly count coefficients; some inner ones are 0.
func randomPolynomial(f impl.Field, source *rand.Rand, count int) []int64 {
	p := make([]int64, count)
	for i := range p {
		if source.Intn(4) > 0 {
			p[i] = source.Int63n(oracleSize(f))
		}
	}
	if count > 0 {
		p[count-1] = 1 + source.Int63n(oracleSize(f)-1)
	}
	return p
}

// monomial is a * x^degree.
func monomial(a int64, degree int) []int64 {
	p := make([]int64, degree+1)
	p[degree] = a
	return p
}

// rootedAt is the product of all x - root.
func rootedAt(f impl.Field, roots ...int64) []int64 {
	p := []int64{1}
	for _, root := range roots {
		p = oracleProduct(f, p, []int64{oracleNegative(f, root), 1})
	}
	return p
}

// someDifferent are elements in a random order, none of them twice.
func someDifferent(f impl.Field, source *rand.Rand, count int) []int64 {
	elements := allElements(f)
	source.Shuffle(len(elements), func(i, j int) { elements[i], elements[j] = elements[j], elements[i] })
	return elements[:count]
}

// goodList fails unless a call has ended without an error and with a polynomial over f.
func goodList(t *testing.T, what string, f impl.Field) func(list []int64, code int64) []int64 {
	return func(list []int64, code int64) []int64 {
		t.Helper()
		if code != impl.ErrNone {
			t.Fatal(what, f, "fails with", code)
		}
		if !oraclePolynomial(f, list) {
			t.Fatal(what, f, "yields no polynomial:", list)
		}
		return list
	}
}

func goodDivision(t *testing.T, f impl.Field, p, q []int64) (quotient, remainder []int64) {
	t.Helper()
	quotient, remainder, code := impl.PolyDiv(f, p, q)
	goodList(t, "PolyDiv", f)(quotient, code)
	goodList(t, "PolyDiv", f)(remainder, code)
	return quotient, remainder
}

// oraclePolynomial needs a valid field.
func oraclePolynomial(f impl.Field, p []int64) bool {
	return len(p) <= 512 && slices.Equal(p, strip(p)) &&
		!slices.ContainsFunc(p, func(a int64) bool { return a < 0 || a >= oracleSize(f) })
}

// notPolynomials are lists that are no polynomials over f, each for a reason of its own.
func notPolynomials(f impl.Field) [][]int64 {
	longest := slices.Repeat([]int64{1}, impl.MaxTerms)
	lists := [][]int64{
		{0}, {0, 0}, {1, 0}, {0, 1, 0}, {1, 1, 0, 0},
		with(longest, impl.MaxTerms-1, 0),
		make([]int64, impl.MaxTerms),
		make([]int64, impl.MaxTerms+1),
		append(slices.Clone(longest), 1),
		append(slices.Clone(longest), 0),
		slices.Repeat([]int64{1}, 1<<16),
	}
	for _, wrong := range noElements(f) {
		lists = append(lists, []int64{wrong}, []int64{wrong, 1}, []int64{1, wrong}, []int64{0, wrong, 1},
			with(longest, 0, wrong), with(longest, impl.MaxTerms-1, wrong), []int64{wrong, 0})
	}
	return lists
}

// sizedPolynomials are polynomials of many lengths: 0 twice, then constants and longer ones.
func sizedPolynomials(f impl.Field, source *rand.Rand) [][]int64 {
	list := [][]int64{nil, {}, {1}, {oracleSize(f) - 1}, {0, 1}, {1, 1}, {0, 0, oracleSize(f) - 1}}
	for _, count := range []int{1, 2, 3, 4, 5, 8, 13, 30} {
		list = append(list, randomPolynomial(f, source, count))
	}
	return list
}

func TestPolynomialExamples(t *testing.T) {
	f := fieldOf(t, 7)
	if product := goodList(t, "PolyMul", f)(impl.PolyMul(f, []int64{1, 1}, []int64{6, 1})); !slices.Equal(product, []int64{6, 0, 1}) {
		t.Error("PolyMul", product)
	}
	g := fieldOf(t, 8)
	if derivative := goodList(t, "PolyDerivative", g)(impl.PolyDerivative(g, []int64{3, 5, 7})); !slices.Equal(derivative, []int64{5}) {
		t.Error("PolyDerivative", derivative)
	}
	if impl.MaxTerms != 512 {
		t.Error("MaxTerms", impl.MaxTerms)
	}
}

func TestIsPolynomial(t *testing.T) {
	source := rand.New(rand.NewSource(31))
	for _, f := range sampleFields() {
		for _, p := range sizedPolynomials(f, source) {
			if !impl.IsPolynomial(f, p) {
				t.Fatal(f, p, "is no polynomial")
			}
		}
		greatest := slices.Repeat([]int64{oracleSize(f) - 1}, impl.MaxTerms)
		if !impl.IsPolynomial(f, greatest) || !impl.IsPolynomial(f, monomial(1, impl.MaxTerms-1)) {
			t.Error(f, "has no polynomials with MaxTerms coefficients")
		}
		for _, p := range notPolynomials(f) {
			if impl.IsPolynomial(f, p) {
				t.Fatal(f, p, "is a polynomial")
			}
		}
	}
	for _, f := range brokenFields() {
		for _, p := range [][]int64{nil, {}, {1}, {0, 1}, {0}, {-1}, {math.MaxInt64}} {
			if impl.IsPolynomial(f, p) {
				t.Error(f, p, "is a polynomial")
			}
		}
	}
}

// Every list of up to 4 numbers from -1 to the size.
func TestIsPolynomialOfAllSmallLists(t *testing.T) {
	for _, f := range []impl.Field{{Prime: 3, Power: 1, Poly: 2}, {Prime: 2, Power: 3, Poly: 11}} {
		lists := [][]int64{nil}
		for at := 0; at < len(lists); at++ {
			if got, want := impl.IsPolynomial(f, lists[at]), oraclePolynomial(f, lists[at]); got != want {
				t.Fatal(f, lists[at], "yields", got)
			}
			for a := int64(-1); a <= oracleSize(f) && len(lists[at]) < 4; a++ {
				lists = append(lists, append(slices.Clone(lists[at]), a))
			}
		}
	}
}

func TestPolyAdd(t *testing.T) {
	source := rand.New(rand.NewSource(32))
	for _, f := range sampleFields() {
		list := sizedPolynomials(f, source)
		longest := randomPolynomial(f, source, impl.MaxTerms)
		list = append(list, longest, randomPolynomial(f, source, impl.MaxTerms))
		for _, p := range list {
			for _, q := range list {
				sum := goodList(t, "PolyAdd", f)(impl.PolyAdd(f, p, q))
				if !slices.Equal(sum, oracleSum(f, p, q)) {
					t.Fatal(f, p, "plus", q, "is", sum)
				}
			}
		}
		for _, p := range list {
			var negative []int64
			for _, a := range p {
				negative = append(negative, oracleNegative(f, a))
			}
			if sum := goodList(t, "PolyAdd", f)(impl.PolyAdd(f, p, negative)); len(sum) != 0 {
				t.Fatal(f, p, "plus", negative, "is", sum)
			}
			if len(p) < 2 {
				continue
			}
			// Only the coefficient of x^0 is left.
			negative[0] = oracleAdd(f, negative[0], 1)
			if sum := goodList(t, "PolyAdd", f)(impl.PolyAdd(f, negative, p)); !slices.Equal(sum, []int64{1}) {
				t.Fatal(f, negative, "plus", p, "is", sum)
			}
		}
	}
}

func TestPolyMul(t *testing.T) {
	source := rand.New(rand.NewSource(33))
	for _, f := range sampleFields() {
		list := sizedPolynomials(f, source)
		for _, p := range list {
			for _, q := range list {
				product := goodList(t, "PolyMul", f)(impl.PolyMul(f, p, q))
				if !slices.Equal(product, oracleProduct(f, p, q)) {
					t.Fatal(f, p, "times", q, "is", product)
				}
			}
		}
	}
}

// Promise 3: the value of a product is the product of the values; so it is with sums.
func TestValuesOfSumsAndProducts(t *testing.T) {
	source := rand.New(rand.NewSource(34))
	for _, f := range sampleFields() {
		eval := func(p []int64, x int64) int64 { return good(t, "PolyEval")(impl.PolyEval(f, p, x)) }
		list := sizedPolynomials(f, source)
		list = append(list, randomPolynomial(f, source, 256))
		for range 60 {
			p, q := list[source.Intn(len(list))], list[source.Intn(len(list))]
			product := goodList(t, "PolyMul", f)(impl.PolyMul(f, p, q))
			sum := goodList(t, "PolyAdd", f)(impl.PolyAdd(f, p, q))
			for _, x := range someElements(f, source) {
				if eval(product, x) != oracleMul(f, eval(p, x), eval(q, x)) {
					t.Fatal(f, "the product of", p, "and", q, "has a wrong value at", x)
				}
				if eval(sum, x) != oracleAdd(f, eval(p, x), eval(q, x)) {
					t.Fatal(f, "the sum of", p, "and", q, "has a wrong value at", x)
				}
			}
		}
	}
}

func TestPolyEval(t *testing.T) {
	source := rand.New(rand.NewSource(35))
	for _, f := range sampleFields() {
		list := sizedPolynomials(f, source)
		list = append(list, randomPolynomial(f, source, impl.MaxTerms))
		for _, p := range list {
			for _, x := range someElements(f, source) {
				if value := good(t, "PolyEval")(impl.PolyEval(f, p, x)); value != oracleValue(f, p, x) {
					t.Fatal(f, p, "has at", x, "the value", value)
				}
			}
		}
		for _, x := range allElements(f) {
			if value := good(t, "PolyEval")(impl.PolyEval(f, nil, x)); value != 0 {
				t.Fatal(f, "0 has at", x, "the value", value)
			}
			if value := good(t, "PolyEval")(impl.PolyEval(f, []int64{0, 1}, x)); value != x {
				t.Fatal(f, "x has at", x, "the value", value)
			}
		}
	}
}

func TestPolyMulLimit(t *testing.T) {
	source := rand.New(rand.NewSource(36))
	for _, f := range sampleFields() {
		for _, count := range []int{1, 2, 3, 200, 256, 257, 400, 511, 512} {
			p := randomPolynomial(f, source, count)
			for _, more := range []int{-1, 0, 1, 2} {
				length := impl.MaxTerms + 1 - count + more
				if length < 1 || length > impl.MaxTerms {
					continue
				}
				q := randomPolynomial(f, source, length)
				product, code := impl.PolyMul(f, p, q)
				if more > 0 {
					if code != impl.ErrLimit || len(product) != 0 {
						t.Error(f, count, "times", length, "coefficients yield", len(product), code)
					}
					continue
				}
				if code != impl.ErrNone || len(product) != impl.MaxTerms+more {
					t.Error(f, count, "times", length, "coefficients yield", len(product), code)
				}
			}
		}
		longest := randomPolynomial(f, source, impl.MaxTerms)
		if _, code := impl.PolyMul(f, longest, longest); code != impl.ErrLimit {
			t.Error(f, "the longest square yields", code)
		}
		// A product with 0 is 0, whatever the lengths.
		for _, zero := range [][]int64{nil, {}} {
			if product, code := impl.PolyMul(f, longest, zero); code != impl.ErrNone || len(product) != 0 {
				t.Error(f, "the longest times 0 yields", product, code)
			}
			if product, code := impl.PolyMul(f, zero, longest); code != impl.ErrNone || len(product) != 0 {
				t.Error(f, "0 times the longest yields", product, code)
			}
		}
	}
	f := fieldOf(t, 257)
	p, q := randomPolynomial(f, source, 300), randomPolynomial(f, source, 213)
	if product := goodList(t, "PolyMul", f)(impl.PolyMul(f, p, q)); !slices.Equal(product, oracleProduct(f, p, q)) {
		t.Error("the longest product is wrong")
	}
}

// isDivision is what the document says of a quotient and a remainder; only one pair has it.
func isDivision(f impl.Field, p, q, quotient, remainder []int64) bool {
	return len(remainder) < len(q) && slices.Equal(oracleSum(f, oracleProduct(f, quotient, q), remainder), p)
}

// Promise 3: a polynomial is the quotient times the divisor plus the remainder.
func TestPolyDiv(t *testing.T) {
	source := rand.New(rand.NewSource(37))
	for _, f := range sampleFields() {
		list := sizedPolynomials(f, source)
		for _, p := range list {
			for _, q := range list {
				if len(q) == 0 {
					continue
				}
				quotient, remainder := goodDivision(t, f, p, q)
				if !isDivision(f, p, q, quotient, remainder) {
					t.Fatal(f, p, "by", q, "is", quotient, remainder)
				}
				product := goodList(t, "PolyMul", f)(impl.PolyMul(f, quotient, q))
				sum := goodList(t, "PolyAdd", f)(impl.PolyAdd(f, product, remainder))
				if !slices.Equal(sum, p) {
					t.Fatal(f, p, "by", q, "is", quotient, remainder, "but gives back", sum)
				}
			}
		}
	}
}

func TestPolyDivOfAllSmallOnes(t *testing.T) {
	for _, f := range []impl.Field{{Prime: 3, Power: 1, Poly: 2}, {Prime: 2, Power: 3, Poly: 13}} {
		all := polynomialsUpTo(f, 3)
		for _, p := range all {
			for _, q := range all[1:] {
				quotient, remainder := goodDivision(t, f, p, q)
				if !isDivision(f, p, q, quotient, remainder) {
					t.Fatal(f, p, "by", q, "is", quotient, remainder)
				}
			}
		}
	}
}

func TestPolyDivOfLongOnes(t *testing.T) {
	source := rand.New(rand.NewSource(38))
	for _, f := range []impl.Field{{Prime: 3, Power: 1, Poly: 2}, {Prime: 1021, Power: 1, Poly: 10}, {Prime: 2, Power: 8, Poly: 285}} {
		longest := randomPolynomial(f, source, impl.MaxTerms)
		for _, count := range []int{1, 2, 40, 256, 511, 512} {
			q := randomPolynomial(f, source, count)
			quotient, remainder := goodDivision(t, f, longest, q)
			if !isDivision(f, longest, q, quotient, remainder) || len(quotient) != impl.MaxTerms+1-count {
				t.Error(f, "the longest polynomial by one with", count, "coefficients is", quotient, remainder)
			}
		}
		quotient, remainder := goodDivision(t, f, longest, longest)
		if !slices.Equal(quotient, []int64{1}) || len(remainder) != 0 {
			t.Error(f, "a polynomial by itself is", quotient, remainder)
		}
		quotient, remainder = goodDivision(t, f, []int64{1, 1}, longest)
		if len(quotient) != 0 || !slices.Equal(remainder, []int64{1, 1}) {
			t.Error(f, "1 + x by the longest polynomial is", quotient, remainder)
		}
	}
}

// Promise 3: dividing undoes multiplying.
func TestDividingUndoesMultiplying(t *testing.T) {
	source := rand.New(rand.NewSource(39))
	for _, f := range sampleFields() {
		list := sizedPolynomials(f, source)
		list = append(list, randomPolynomial(f, source, 256))
		for range 100 {
			p, q := list[source.Intn(len(list))], list[source.Intn(len(list))]
			if len(q) == 0 {
				continue
			}
			product := goodList(t, "PolyMul", f)(impl.PolyMul(f, p, q))
			quotient, remainder := goodDivision(t, f, product, q)
			if !slices.Equal(quotient, p) || len(remainder) != 0 {
				t.Fatal(f, p, "times", q, "by the latter is", quotient, remainder)
			}
			// A shorter summand is the remainder.
			rest := randomPolynomial(f, source, source.Intn(len(q)))
			sum := goodList(t, "PolyAdd", f)(impl.PolyAdd(f, product, rest))
			quotient, remainder = goodDivision(t, f, sum, q)
			if !slices.Equal(quotient, p) || !slices.Equal(remainder, rest) {
				t.Fatal(f, p, "times", q, "plus", rest, "by", q, "is", quotient, remainder)
			}
		}
	}
}

// oracleDerivative adds each coefficient as often as the document says.
func oracleDerivative(f impl.Field, p []int64) []int64 {
	var out []int64
	for k := 0; k+1 < len(p); k++ {
		sum := int64(0)
		for range k + 1 {
			sum = oracleAdd(f, sum, p[k+1])
		}
		out = append(out, sum)
	}
	return strip(out)
}

func TestPolyDerivative(t *testing.T) {
	source := rand.New(rand.NewSource(40))
	for _, f := range sampleFields() {
		list := sizedPolynomials(f, source)
		list = append(list, randomPolynomial(f, source, impl.MaxTerms), slices.Repeat([]int64{oracleSize(f) - 1}, impl.MaxTerms))
		for _, p := range list {
			if derivative := goodList(t, "PolyDerivative", f)(impl.PolyDerivative(f, p)); !slices.Equal(derivative, oracleDerivative(f, p)) {
				t.Fatal(f, "the derivative of", p, "is", derivative)
			}
		}
		// As many equal elements as Prime add up to 0, so the greatest coefficient vanishes.
		if f.Prime < impl.MaxTerms {
			p := monomial(1, int(f.Prime))
			if derivative := goodList(t, "PolyDerivative", f)(impl.PolyDerivative(f, p)); len(derivative) != 0 {
				t.Fatal(f, "the derivative of x to the power of Prime is", derivative)
			}
			p[1] = 1
			if derivative := goodList(t, "PolyDerivative", f)(impl.PolyDerivative(f, p)); !slices.Equal(derivative, []int64{1}) {
				t.Fatal(f, "the derivative of x plus x to the power of Prime is", derivative)
			}
		}
	}
}

func TestPolyDerivativeOfProducts(t *testing.T) {
	source := rand.New(rand.NewSource(41))
	for _, f := range sampleFields() {
		list := sizedPolynomials(f, source)
		for _, p := range list {
			q := list[source.Intn(len(list))]
			product := goodList(t, "PolyMul", f)(impl.PolyMul(f, p, q))
			whole := goodList(t, "PolyDerivative", f)(impl.PolyDerivative(f, product))
			first := goodList(t, "PolyDerivative", f)(impl.PolyDerivative(f, p))
			second := goodList(t, "PolyDerivative", f)(impl.PolyDerivative(f, q))
			if want := oracleSum(f, oracleProduct(f, first, q), oracleProduct(f, p, second)); !slices.Equal(whole, want) {
				t.Fatal(f, "the derivative of", p, "times", q, "is", whole, "and not", want)
			}
		}
	}
}

func isIncreasing(list []int64) bool {
	for i := 1; i < len(list); i++ {
		if list[i] <= list[i-1] {
			return false
		}
	}
	return true
}

func goodRoots(t *testing.T, f impl.Field, p []int64) []int64 {
	t.Helper()
	roots, code := impl.PolyRoots(f, p)
	if code != impl.ErrNone {
		t.Fatal("PolyRoots", f, p, "fails with", code)
	}
	return roots
}

// Promise 3: the roots are the zeros of the value, strictly increasing, and no more than the
// degree.
func TestPolyRoots(t *testing.T) {
	source := rand.New(rand.NewSource(42))
	for _, f := range sampleFields() {
		list := sizedPolynomials(f, source)
		list = append(list, rootedAt(f, 0), rootedAt(f, oracleSize(f)-1, 0), rootedAt(f, 1, 1, 1))
		for _, p := range list {
			if len(p) == 0 {
				continue
			}
			roots := goodRoots(t, f, p)
			if !isIncreasing(roots) || len(roots) > len(p)-1 {
				t.Fatal(f, p, "has the roots", roots)
			}
			for _, x := range allElements(f) {
				zero := oracleValue(f, p, x) == 0
				value := good(t, "PolyEval")(impl.PolyEval(f, p, x))
				if slices.Contains(roots, x) != zero || zero != (value == 0) {
					t.Fatal(f, p, "has the roots", roots, "and at", x, "the value", value)
				}
			}
		}
	}
}

func TestPolyRootsAreThoseOfTheFactors(t *testing.T) {
	source := rand.New(rand.NewSource(43))
	for _, f := range sampleFields() {
		for range 20 {
			count := 1 + source.Intn(min(int(oracleSize(f)), 12))
			want := someDifferent(f, source, count)
			p := oracleProduct(f, rootedAt(f, want...), []int64{1 + source.Int63n(oracleSize(f)-1)})
			slices.Sort(want)
			if roots := goodRoots(t, f, p); !slices.Equal(roots, want) {
				t.Fatal(f, p, "has the roots", roots, "and not", want)
			}
			q := randomPolynomial(f, source, 1+source.Intn(9))
			product := goodList(t, "PolyMul", f)(impl.PolyMul(f, p, q))
			both := slices.Concat(want, goodRoots(t, f, q))
			slices.Sort(both)
			if roots := goodRoots(t, f, product); !slices.Equal(roots, slices.Compact(both)) {
				t.Fatal(f, p, "times", q, "has the roots", roots, "and not", both)
			}
		}
	}
}

// As many roots as there can be: x to the power of the size is x, for every element.
func TestPolyRootsOfWholeFields(t *testing.T) {
	for _, f := range sampleFields() {
		size := oracleSize(f)
		if size >= impl.MaxTerms {
			continue
		}
		p := monomial(1, int(size))
		p[1] = oracleNegative(f, 1)
		if roots := goodRoots(t, f, p); !slices.Equal(roots, allElements(f)) {
			t.Error(f, "the roots are", roots)
		}
		p[0] = 1
		if roots := goodRoots(t, f, p); len(roots) != 0 {
			t.Error(f, "the roots are", roots)
		}
	}
	f := fieldOf(t, impl.MaxPrime)
	all := goodRoots(t, f, with(monomial(1, 510), 0, 1020))
	if len(all) != 510 || !isIncreasing(all) {
		t.Error("x^510 - 1 has", len(all), "roots")
	}
}

// Promise 3: a fitted polynomial has the given values, and no more coefficients than there are xs.
func TestPolyFit(t *testing.T) {
	source := rand.New(rand.NewSource(44))
	for _, f := range sampleFields() {
		most := min(int(oracleSize(f)), 64)
		for _, count := range []int{0, 1, 2, 3, most / 2, most - 1, most} {
			xs := someDifferent(f, source, count)
			ys := make([]int64, count)
			for i := range ys {
				ys[i] = source.Int63n(oracleSize(f))
			}
			for _, values := range [][]int64{ys, make([]int64, count), slices.Repeat([]int64{oracleSize(f) - 1}, count), xs} {
				fit := goodList(t, "PolyFit", f)(impl.PolyFit(f, xs, values))
				if len(fit) > count {
					t.Fatal(f, xs, values, "yields too many coefficients:", fit)
				}
				for i, x := range xs {
					value := good(t, "PolyEval")(impl.PolyEval(f, fit, x))
					if value != values[i] || value != oracleValue(f, fit, x) {
						t.Fatal(f, xs, values, "yields", fit, "with the value", value, "at", x)
					}
				}
			}
		}
	}
}

// Promise 3: a polynomial is recovered from as many of its values as it has coefficients, or more.
func TestPolynomialsAreRecoveredFromValues(t *testing.T) {
	source := rand.New(rand.NewSource(45))
	for _, f := range sampleFields() {
		most := min(int(oracleSize(f)), 64)
		for _, count := range []int{0, 1, 2, 3, most / 2, most - 1, most} {
			p := randomPolynomial(f, source, count)
			for _, more := range []int{count, min(count+1, most), most} {
				xs := someDifferent(f, source, more)
				ys := make([]int64, more)
				for i, x := range xs {
					ys[i] = good(t, "PolyEval")(impl.PolyEval(f, p, x))
				}
				if fit := goodList(t, "PolyFit", f)(impl.PolyFit(f, xs, ys)); !slices.Equal(fit, p) {
					t.Fatal(f, p, "comes back from", xs, ys, "as", fit)
				}
			}
		}
	}
}

func TestPolyFitOfSpecialValues(t *testing.T) {
	f := fieldOf(t, impl.MaxPrime)
	xs := allElements(f)[:64]
	tests := []struct{ xs, ys, want []int64 }{
		{nil, nil, nil},
		{[]int64{}, nil, nil},
		{[]int64{5}, []int64{0}, nil},
		{[]int64{5}, []int64{9}, []int64{9}},
		{[]int64{0, 1}, []int64{3, 5}, []int64{3, 2}},
		{[]int64{1, 0}, []int64{5, 3}, []int64{3, 2}},
		{xs, make([]int64, 64), nil},
		{xs, slices.Repeat([]int64{7}, 64), []int64{7}},
		{xs, xs, []int64{0, 1}},
	}
	for _, test := range tests {
		if fit := goodList(t, "PolyFit", f)(impl.PolyFit(f, test.xs, test.ys)); !slices.Equal(fit, test.want) {
			t.Error(test.xs, test.ys, "yield", fit)
		}
	}
}

// dividesBy needs a divisor other than 0; it relies on PolyDiv, which has tests of its own.
func dividesBy(t *testing.T, f impl.Field, p, divisor []int64) bool {
	t.Helper()
	_, remainder := goodDivision(t, f, p, divisor)
	return len(remainder) == 0
}

// Promise 3: the common divisor divides both, its last coefficient is 1, and it is the greatest:
// every common divisor with a last coefficient of 1 is looked for among all polynomials.
func TestPolyGcdOfAllSmallOnes(t *testing.T) {
	counts := map[int64]int{3: 4, 5: 3, 8: 2}
	for size, count := range counts {
		f := fieldOf(t, size)
		all := polynomialsUpTo(f, count)
		multiples := map[[2]int]bool{}
		for i, p := range all {
			for j, q := range all {
				if len(q) > 0 && q[len(q)-1] == 1 && dividesBy(t, f, p, q) {
					multiples[[2]int{i, j}] = true
				}
			}
		}
		for i, p := range all {
			for j, q := range all {
				if i == 0 && j == 0 {
					continue
				}
				var best [][]int64
				for k, divisor := range all {
					if !multiples[[2]int{i, k}] || !multiples[[2]int{j, k}] {
						continue
					}
					if len(best) > 0 && len(divisor) > len(best[0]) {
						best = nil
					}
					if len(best) == 0 || len(divisor) == len(best[0]) {
						best = append(best, divisor)
					}
				}
				divisor := goodList(t, "PolyGcd", f)(impl.PolyGcd(f, p, q))
				if len(best) != 1 || !slices.Equal(divisor, best[0]) {
					t.Fatal(f, p, "and", q, "have the common divisor", divisor, "and not", best)
				}
			}
		}
	}
}

// monicOf multiplies by the element that makes the last coefficient 1.
func monicOf(f impl.Field, p []int64) []int64 {
	for a := range oracleSize(f) {
		if scaled := oracleProduct(f, p, []int64{a}); len(scaled) > 0 && scaled[len(scaled)-1] == 1 {
			return scaled
		}
	}
	return nil
}

// Two products with factors that have no root in common and are products of x - root have just
// the third factor as their common divisor.
func TestPolyGcdOfProducts(t *testing.T) {
	source := rand.New(rand.NewSource(46))
	for _, f := range sampleFields() {
		size := int(oracleSize(f))
		for range 12 {
			roots := someDifferent(f, source, min(size, 20))
			middle := source.Intn(len(roots) + 1)
			a, b := rootedAt(f, roots[:middle]...), rootedAt(f, roots[middle:]...)
			common := randomPolynomial(f, source, 1+source.Intn(20))
			factor := []int64{1 + source.Int63n(int64(size)-1)}
			p := oracleProduct(f, oracleProduct(f, a, factor), common)
			q := oracleProduct(f, b, common)
			want := monicOf(f, common)
			if divisor := goodList(t, "PolyGcd", f)(impl.PolyGcd(f, p, q)); !slices.Equal(divisor, want) {
				t.Fatal(f, p, "and", q, "have the common divisor", divisor, "and not", want)
			}
			if divisor := goodList(t, "PolyGcd", f)(impl.PolyGcd(f, q, p)); !slices.Equal(divisor, want) {
				t.Fatal(f, q, "and", p, "have the common divisor", divisor, "and not", want)
			}
		}
	}
}

func TestPolyGcdOfRandomOnes(t *testing.T) {
	source := rand.New(rand.NewSource(47))
	for _, f := range sampleFields() {
		list := sizedPolynomials(f, source)
		for _, p := range list {
			for _, q := range list {
				if len(p) == 0 && len(q) == 0 {
					continue
				}
				divisor := goodList(t, "PolyGcd", f)(impl.PolyGcd(f, p, q))
				if len(divisor) == 0 || divisor[len(divisor)-1] != 1 {
					t.Fatal(f, p, "and", q, "have the common divisor", divisor)
				}
				if !dividesBy(t, f, p, divisor) || !dividesBy(t, f, q, divisor) {
					t.Fatal(f, divisor, "does not divide", p, "and", q)
				}
			}
		}
	}
}

func TestPolyGcdWithZero(t *testing.T) {
	source := rand.New(rand.NewSource(48))
	for _, f := range sampleFields() {
		list := append(sizedPolynomials(f, source), randomPolynomial(f, source, impl.MaxTerms))
		for _, p := range list {
			if len(p) == 0 {
				continue
			}
			want := monicOf(f, p)
			for _, zero := range [][]int64{nil, {}} {
				if divisor := goodList(t, "PolyGcd", f)(impl.PolyGcd(f, p, zero)); !slices.Equal(divisor, want) {
					t.Fatal(f, p, "and 0 have the common divisor", divisor)
				}
				if divisor := goodList(t, "PolyGcd", f)(impl.PolyGcd(f, zero, p)); !slices.Equal(divisor, want) {
					t.Fatal(f, "0 and", p, "have the common divisor", divisor)
				}
			}
			if divisor := goodList(t, "PolyGcd", f)(impl.PolyGcd(f, p, p)); !slices.Equal(divisor, want) {
				t.Fatal(f, p, "and itself have the common divisor", divisor)
			}
		}
	}
}

// The most steps: two long polynomials of nearly the same degree.
func TestPolyGcdOfLongOnes(t *testing.T) {
	source := rand.New(rand.NewSource(49))
	for _, size := range []int64{3, 257, impl.MaxPrime, 256} {
		f := fieldOf(t, size)
		common := monicOf(f, randomPolynomial(f, source, 57))
		p := oracleProduct(f, common, monomial(1, 455))
		q := oracleProduct(f, common, rootedAt(f, slices.Repeat([]int64{1}, 455)...))
		if len(p) != impl.MaxTerms || len(q) != impl.MaxTerms {
			t.Fatal(len(p), len(q))
		}
		if divisor := goodList(t, "PolyGcd", f)(impl.PolyGcd(f, p, q)); !slices.Equal(divisor, common) {
			t.Error(f, "the common divisor has", len(divisor), "coefficients")
		}
	}
}

// polyCall is the result of a function with polynomials; value is 0 where there is a list.
type polyCall struct {
	first, second []int64
	value, code   int64
}

// polyCalls calls every function that has polynomials.
func polyCalls(f impl.Field, p, q []int64, x int64) map[string]polyCall {
	calls := map[string]polyCall{}
	keep := func(name string) func(list []int64, code int64) {
		return func(list []int64, code int64) { calls[name] = polyCall{first: list, code: code} }
	}
	keep("PolyAdd")(impl.PolyAdd(f, p, q))
	keep("PolyMul")(impl.PolyMul(f, p, q))
	keep("PolyDerivative")(impl.PolyDerivative(f, p))
	keep("PolyRoots")(impl.PolyRoots(f, p))
	keep("PolyGcd")(impl.PolyGcd(f, p, q))
	quotient, remainder, code := impl.PolyDiv(f, p, q)
	calls["PolyDiv"] = polyCall{first: quotient, second: remainder, code: code}
	value, code := impl.PolyEval(f, p, x)
	calls["PolyEval"] = polyCall{value: value, code: code}
	return calls
}

func (c polyCall) failsWith(code int64) bool {
	return c.code == code && len(c.first) == 0 && len(c.second) == 0 && c.value == 0
}

// polyFail checks that the functions with these names return a code and else only zero values,
// all of them if there is no name. ErrNone stands for results that are 0.
func polyFail(t *testing.T, f impl.Field, p, q []int64, x int64, want int64, names ...string) {
	t.Helper()
	returns(t, "a function of chapter 3", func() {
		for name, call := range polyCalls(f, p, q, x) {
			if (len(names) == 0 || slices.Contains(names, name)) && !call.failsWith(want) {
				t.Fatal(name, f, p, q, x, "yields", call, "instead of the error", want)
			}
		}
	})
}

// An invalid field comes before everything else.
func TestPolynomialErrorsOfInvalidFields(t *testing.T) {
	lists := [][]int64{nil, {}, {1}, {1, 1}, {0}, {1, 0}, {-1}, {1021}, {math.MinInt64}, slices.Repeat([]int64{1}, impl.MaxTerms)}
	for _, f := range brokenFields() {
		for _, p := range lists {
			polyFail(t, f, p, p, 1, impl.ErrInvalid)
			polyFail(t, f, p, nil, -1, impl.ErrInvalid)
			polyFail(t, f, nil, p, math.MaxInt64, impl.ErrInvalid)
		}
	}
}

// Lists that are no polynomials come before an x that is no element, before 0 and before the limit.
func TestPolynomialErrorsOfLists(t *testing.T) {
	two := []string{"PolyAdd", "PolyMul", "PolyDiv", "PolyGcd"}
	for _, f := range sampleFields() {
		longest := slices.Repeat([]int64{1}, impl.MaxTerms)
		for _, wrong := range notPolynomials(f) {
			for _, other := range [][]int64{nil, {1}, longest, wrong} {
				polyFail(t, f, wrong, other, 1, impl.ErrInvalid)
				polyFail(t, f, wrong, other, -1, impl.ErrInvalid)
				polyFail(t, f, other, wrong, 1, impl.ErrInvalid, two...)
			}
		}
	}
}

func TestPolyEvalErrors(t *testing.T) {
	for _, f := range sampleFields() {
		for _, wrong := range noElements(f) {
			for _, p := range [][]int64{nil, {}, {1}, {0, 1}, slices.Repeat([]int64{1}, impl.MaxTerms)} {
				polyFail(t, f, p, nil, wrong, impl.ErrRange, "PolyEval")
			}
		}
		for _, x := range []int64{0, oracleSize(f) - 1} {
			if _, code := impl.PolyEval(f, slices.Repeat([]int64{1}, impl.MaxTerms), x); code != impl.ErrNone {
				t.Error(f, "at", x, "fails with", code)
			}
		}
	}
}

// The polynomial 0, as nil and as an empty list, in every place.
func TestPolynomialErrorsOfZero(t *testing.T) {
	for _, f := range sampleFields() {
		for _, zero := range [][]int64{nil, {}} {
			polyFail(t, f, zero, zero, 1, impl.ErrState, "PolyDiv", "PolyRoots", "PolyGcd")
			polyFail(t, f, zero, zero, 1, impl.ErrNone, "PolyAdd", "PolyMul", "PolyDerivative", "PolyEval")
			for _, p := range [][]int64{{1}, {0, 1}, slices.Repeat([]int64{1}, impl.MaxTerms)} {
				polyFail(t, f, p, zero, 1, impl.ErrState, "PolyDiv")
				polyFail(t, f, p, zero, 1, impl.ErrNone, "PolyMul")
				polyFail(t, f, zero, p, 1, impl.ErrState, "PolyRoots")
				polyFail(t, f, zero, p, 1, impl.ErrNone, "PolyMul", "PolyDiv", "PolyDerivative", "PolyEval")
				if sum := goodList(t, "PolyAdd", f)(impl.PolyAdd(f, zero, p)); !slices.Equal(sum, p) {
					t.Error(f, "0 plus", p, "is", sum)
				}
				if sum := goodList(t, "PolyAdd", f)(impl.PolyAdd(f, p, zero)); !slices.Equal(sum, p) {
					t.Error(f, p, "plus 0 is", sum)
				}
			}
		}
		// Constants have no roots and no derivative, and divide everything.
		for a := int64(1); a < min(oracleSize(f), 20); a++ {
			constant := []int64{a}
			if roots := goodRoots(t, f, constant); len(roots) != 0 {
				t.Error(f, constant, "has the roots", roots)
			}
			if derivative := goodList(t, "PolyDerivative", f)(impl.PolyDerivative(f, constant)); len(derivative) != 0 {
				t.Error(f, constant, "has the derivative", derivative)
			}
			if !dividesBy(t, f, []int64{1, 2, 1}, constant) {
				t.Error(f, constant, "does not divide")
			}
		}
	}
}

func fitFails(t *testing.T, f impl.Field, xs, ys []int64, want int64) {
	t.Helper()
	returns(t, "PolyFit", func() {
		if fit, code := impl.PolyFit(f, xs, ys); code != want || len(fit) != 0 {
			t.Error("PolyFit", f, xs, ys, "yields", fit, code, "instead of the error", want)
		}
	})
}

func TestPolyFitErrorsOfInvalidFields(t *testing.T) {
	long := allElements(impl.Field{Prime: 67, Power: 1})
	for _, f := range brokenFields() {
		for _, xs := range [][]int64{nil, {0}, {0, 1}, {1, 1}, {-1}, long} {
			for _, ys := range [][]int64{nil, {0}, {1, 1}, {math.MaxInt64}, long} {
				fitFails(t, f, xs, ys, impl.ErrInvalid)
			}
		}
	}
}

func TestPolyFitErrorsOfLengths(t *testing.T) {
	for _, f := range sampleFields() {
		// Too many xs come before wrong elements, different lengths and repetitions.
		for _, count := range []int{65, 66, 512, 513, 5000} {
			for _, x := range []int64{0, 1, -1, oracleSize(f), math.MaxInt64} {
				xs := slices.Repeat([]int64{x}, count)
				fitFails(t, f, xs, xs, impl.ErrLimit)
				fitFails(t, f, xs, xs[1:], impl.ErrLimit)
				fitFails(t, f, xs, nil, impl.ErrLimit)
			}
		}
		// The limit is one of the xs: more ys are just another number.
		for _, count := range []int{1, 2, 64, 65, 600} {
			ones := slices.Repeat([]int64{1}, count)
			fitFails(t, f, nil, ones, impl.ErrState)
			fitFails(t, f, []int64{0, 1, 2}, ones[1:], impl.ErrState)
			fitFails(t, f, []int64{0, 1, 2}, append(ones, -1), impl.ErrRange)
		}
		fitFails(t, f, []int64{0}, nil, impl.ErrState)
		fitFails(t, f, []int64{0, 1}, []int64{}, impl.ErrState)
		if size := int(oracleSize(f)); size < 64 {
			// More xs than elements, but not too many: one occurs twice.
			xs := slices.Concat(allElements(f), slices.Repeat([]int64{0}, 64-size))
			fitFails(t, f, xs, xs, impl.ErrState)
			continue
		}
		xs := allElements(f)[:64]
		if _, code := impl.PolyFit(f, xs, slices.Repeat([]int64{1}, 64)); code != impl.ErrNone {
			t.Error(f, "64 xs yield", code)
		}
		if oracleSize(f) > 64 {
			xs = allElements(f)[:65]
			fitFails(t, f, xs, slices.Repeat([]int64{1}, 65), impl.ErrLimit)
			fitFails(t, f, xs, slices.Repeat([]int64{1}, 64), impl.ErrLimit)
		}
		fitFails(t, f, xs[:63], slices.Repeat([]int64{1}, 64), impl.ErrState)
		fitFails(t, f, xs[:64], slices.Repeat([]int64{1}, 63), impl.ErrState)
	}
}

func TestPolyFitErrorsOfElements(t *testing.T) {
	for _, f := range sampleFields() {
		xs, ys := []int64{0, 1, 2}, []int64{2, 2, 1}
		for _, wrong := range noElements(f) {
			for at := range xs {
				fitFails(t, f, with(xs, at, wrong), ys, impl.ErrRange)
				fitFails(t, f, xs, with(ys, at, wrong), impl.ErrRange)
				// Different lengths and repetitions come later.
				fitFails(t, f, with(xs, at, wrong), ys[:2], impl.ErrRange)
				fitFails(t, f, xs[:2], with(ys, at, wrong), impl.ErrRange)
				fitFails(t, f, []int64{1, 1, 1}, with(ys, at, wrong), impl.ErrRange)
			}
			fitFails(t, f, []int64{wrong, wrong}, []int64{1, 1}, impl.ErrRange)
			fitFails(t, f, nil, []int64{wrong}, impl.ErrRange)
			fitFails(t, f, []int64{wrong}, nil, impl.ErrRange)
		}
	}
}

// An element that occurs twice is an error even with the same value at both.
func TestPolyFitErrorsOfRepetitions(t *testing.T) {
	source := rand.New(rand.NewSource(50))
	for _, f := range sampleFields() {
		count := min(int(oracleSize(f)), 64)
		xs := someDifferent(f, source, count)
		for range 20 {
			first, second := source.Intn(count), source.Intn(count)
			if first == second {
				continue
			}
			again := with(xs, first, xs[second])
			fitFails(t, f, again, again, impl.ErrState)
			fitFails(t, f, again, xs, impl.ErrState)
			fitFails(t, f, again, make([]int64, count), impl.ErrState)
		}
		fitFails(t, f, []int64{0, 0}, []int64{0, 0}, impl.ErrState)
		fitFails(t, f, []int64{1, 0, 1}, []int64{1, 1, 1}, impl.ErrState)
		fitFails(t, f, with(xs, 0, xs[count-1]), xs, impl.ErrState)
		// Values may be equal.
		if _, code := impl.PolyFit(f, xs, slices.Repeat([]int64{1}, count)); code != impl.ErrNone {
			t.Error(f, "equal values yield", code)
		}
	}
}

func TestPolynomialArgumentsAndResults(t *testing.T) {
	source := rand.New(rand.NewSource(51))
	for _, f := range sampleFields() {
		list := sizedPolynomials(f, source)
		for _, p := range list {
			q := list[2+source.Intn(len(list)-2)]
			one, two := guard(p), guard(q)
			memory := func(name string, call func() ([]int64, int64)) {
				t.Helper()
				unshared(t, name, func() []int64 { out, _ := call(); return out }, one, two)
			}
			memory("PolyAdd", func() ([]int64, int64) { return impl.PolyAdd(f, one.list, two.list) })
			memory("PolyAdd", func() ([]int64, int64) { return impl.PolyAdd(f, two.list, one.list) })
			memory("PolyAdd", func() ([]int64, int64) { return impl.PolyAdd(f, two.list, nil) })
			memory("PolyAdd", func() ([]int64, int64) { return impl.PolyAdd(f, nil, two.list) })
			memory("PolyMul", func() ([]int64, int64) { return impl.PolyMul(f, one.list, two.list) })
			memory("PolyMul", func() ([]int64, int64) { return impl.PolyMul(f, one.list, []int64{1}) })
			memory("PolyMul", func() ([]int64, int64) { return impl.PolyMul(f, []int64{1}, one.list) })
			memory("PolyDerivative", func() ([]int64, int64) { return impl.PolyDerivative(f, one.list) })
			memory("PolyRoots", func() ([]int64, int64) { return impl.PolyRoots(f, two.list) })
			memory("PolyGcd", func() ([]int64, int64) { return impl.PolyGcd(f, one.list, two.list) })
			memory("PolyGcd", func() ([]int64, int64) { return impl.PolyGcd(f, two.list, nil) })
			memory("PolyGcd", func() ([]int64, int64) { return impl.PolyGcd(f, nil, two.list) })
			memory("PolyEval", func() ([]int64, int64) {
				value, code := impl.PolyEval(f, one.list, 1)
				return []int64{value}, code
			})
			memory("IsPolynomial", func() ([]int64, int64) {
				impl.IsPolynomial(f, one.list)
				return nil, 0
			})
		}
		// A polynomial with a last coefficient of 1 is its own common divisor, in new memory.
		monic := guard([]int64{2, 0, 1})
		unshared(t, "PolyGcd", func() []int64 { out, _ := impl.PolyGcd(f, monic.list, nil); return out }, monic)
		unshared(t, "PolyGcd", func() []int64 { out, _ := impl.PolyGcd(f, monic.list, monic.list); return out }, monic)
	}
}

// The quotient and the remainder of one call share no memory either.
func TestPolyDivResults(t *testing.T) {
	source := rand.New(rand.NewSource(52))
	for _, f := range sampleFields() {
		list := sizedPolynomials(f, source)
		for _, p := range list {
			for _, q := range list[2:] {
				one, two := guard(p), guard(q)
				unshared(t, "PolyDiv", func() []int64 { out, _, _ := impl.PolyDiv(f, one.list, two.list); return out }, one, two)
				unshared(t, "PolyDiv", func() []int64 { _, out, _ := impl.PolyDiv(f, one.list, two.list); return out }, one, two)
				quotient, remainder := goodDivision(t, f, p, q)
				wantQuotient, wantRemainder := slices.Clone(quotient), slices.Clone(remainder)
				scribble(quotient)
				if !slices.Equal(remainder, wantRemainder) {
					t.Fatal(f, p, "by", q, "has a remainder in the memory of the quotient")
				}
				quotient, remainder = goodDivision(t, f, p, q)
				scribble(remainder)
				if !slices.Equal(quotient, wantQuotient) {
					t.Fatal(f, p, "by", q, "has a quotient in the memory of the remainder")
				}
			}
		}
	}
}

func TestPolyFitArgumentsAndResults(t *testing.T) {
	source := rand.New(rand.NewSource(53))
	for _, f := range sampleFields() {
		for _, count := range []int{0, 1, 2, 3, min(int(oracleSize(f)), 64)} {
			xs := guard(someDifferent(f, source, count))
			ys := guard(slices.Repeat([]int64{2}, count))
			unshared(t, "PolyFit", func() []int64 { out, _ := impl.PolyFit(f, xs.list, ys.list); return out }, xs, ys)
			unshared(t, "PolyFit", func() []int64 { out, _ := impl.PolyFit(f, xs.list, xs.list); return out }, xs)
		}
	}
}

// Both arguments may be one list, or overlap.
func TestPolynomialArgumentsInOneMemory(t *testing.T) {
	source := rand.New(rand.NewSource(54))
	for _, f := range sampleFields() {
		p := guard(randomPolynomial(f, source, 9))
		p.list[4] = 1
		p.copy[4] = 1
		for _, q := range [][]int64{p.list, p.list[:5], p.list[4:], p.list[5:]} {
			apart := slices.Clone(q)
			for name, call := range polyCalls(f, p.list, q, 1) {
				want := polyCalls(f, slices.Clone(p.list), apart, 1)[name]
				if !slices.Equal(call.first, want.first) || !slices.Equal(call.second, want.second) || call.value != want.value || call.code != want.code {
					t.Error(name, f, p.list, q, "yields", call, "in one memory and else", want)
				}
			}
			p.check(t, "a function of chapter 3")
		}
	}
}

// No call changes what a later one with another field yields.
func TestPolynomialsKeepNoState(t *testing.T) {
	fields := sampleFields()
	p, q := []int64{1, 2, 0, 1, 2}, []int64{2, 1, 1}
	var first []map[string]polyCall
	for _, f := range fields {
		first = append(first, polyCalls(f, p, q, 2))
	}
	for i := len(fields) - 1; i >= 0; i-- {
		for name, call := range polyCalls(fields[i], p, q, 2) {
			want := first[i][name]
			if !slices.Equal(call.first, want.first) || !slices.Equal(call.second, want.second) || call.value != want.value || call.code != want.code {
				t.Error(name, fields[i], "yields", want, "and then", call)
			}
		}
	}
}
