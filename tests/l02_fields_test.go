package tests

import (
	"math"
	"math/rand"
	"slices"
	"testing"

	"loop.example/g00879/impl"
)

// The oracles below do not use what they check: products of polynomials are written out and then
// divided, powers are collected in a set, and primes are found by looking for a product.

func oracleSize(f impl.Field) int64 {
	if f.Power == 1 {
		return f.Prime
	}
	size := int64(1)
	for range f.Power {
		size *= 2
	}
	return size
}

func oracleAdd(f impl.Field, a, b int64) int64 {
	if f.Power == 1 {
		return (a + b) % f.Prime
	}
	sum := int64(0)
	for place := int64(1); place < oracleSize(f); place *= 2 {
		if (a/place+b/place)%2 == 1 {
			sum += place
		}
	}
	return sum
}

func oracleMul(f impl.Field, a, b int64) int64 {
	if f.Power == 1 {
		return a * b % f.Prime
	}
	var product [32]int64
	for i := range int64(16) {
		for j := range int64(16) {
			product[i+j] += (a >> i & 1) * (b >> j & 1)
		}
	}
	for k := int64(31); k >= f.Power; k-- {
		if product[k]%2 == 0 {
			continue
		}
		for i := range f.Power + 1 {
			product[k-f.Power+i] += f.Poly >> i & 1
		}
	}
	out := int64(0)
	for k := f.Power - 1; k >= 0; k-- {
		out = 2*out + product[k]%2
	}
	return out
}

// oracleGenerates reports whether the powers of a are all elements but 0.
func oracleGenerates(f impl.Field, a int64) bool {
	found := map[int64]bool{}
	for power := int64(1); !found[power]; power = oracleMul(f, power, a) {
		found[power] = true
	}
	return !found[0] && int64(len(found)) == oracleSize(f)-1
}

func oraclePrime(n int64) bool {
	for a := int64(2); a < n; a++ {
		for b := a; a*b <= n; b++ {
			if a*b == n {
				return false
			}
		}
	}
	return n >= 2
}

// oracleField needs numbers in the structs that are small enough for the loops of the oracles.
func oracleField(f impl.Field) bool {
	if f.Power == 1 {
		if f.Prime < 3 || f.Prime > 1021 || !oraclePrime(f.Prime) || f.Poly < 1 || f.Poly >= f.Prime {
			return false
		}
		for a := int64(0); a < f.Poly; a++ {
			if oracleGenerates(f, a) {
				return false
			}
		}
		return oracleGenerates(f, f.Poly)
	}
	if f.Prime != 2 || f.Power < 3 || f.Power > 8 || f.Poly < oracleSize(f) || f.Poly >= 2*oracleSize(f) {
		return false
	}
	return oracleGenerates(f, 2)
}

func fieldOf(t *testing.T, size int64) impl.Field {
	t.Helper()
	f, code := impl.FieldOf(size)
	if code != impl.ErrNone {
		t.Fatal("FieldOf", size, code)
	}
	return f
}

// sampleFields are fields of both kinds, with the smallest and the greatest of each, and some
// whose Poly is not the least.
func sampleFields() []impl.Field {
	return []impl.Field{
		{Prime: 3, Power: 1, Poly: 2},
		{Prime: 5, Power: 1, Poly: 2},
		{Prime: 7, Power: 1, Poly: 3},
		{Prime: 23, Power: 1, Poly: 5},
		{Prime: 41, Power: 1, Poly: 6},
		{Prime: 257, Power: 1, Poly: 3},
		{Prime: 409, Power: 1, Poly: 21},
		{Prime: 1019, Power: 1, Poly: 2},
		{Prime: impl.MaxPrime, Power: 1, Poly: 10},
		{Prime: 2, Power: 3, Poly: 11},
		{Prime: 2, Power: 3, Poly: 13},
		{Prime: 2, Power: 4, Poly: 19},
		{Prime: 2, Power: 4, Poly: 25},
		{Prime: 2, Power: 5, Poly: 61},
		{Prime: 2, Power: 6, Poly: 67},
		{Prime: 2, Power: 7, Poly: 137},
		{Prime: 2, Power: impl.MaxPower, Poly: 285},
		{Prime: 2, Power: impl.MaxPower, Poly: 501},
	}
}

func generatorOf(f impl.Field) int64 {
	if f.Prime == 2 {
		return 2
	}
	return f.Poly
}

// someElements are all elements of a small field, and some of a large one with both ends.
func someElements(f impl.Field, source *rand.Rand) []int64 {
	size := oracleSize(f)
	if size <= 16 {
		return allElements(f)
	}
	elements := []int64{0, 1, 2, generatorOf(f), size / 2, size - 2, size - 1}
	for range 20 {
		elements = append(elements, source.Int63n(size))
	}
	return elements
}

func allElements(f impl.Field) []int64 {
	elements := make([]int64, oracleSize(f))
	for i := range elements {
		elements[i] = int64(i)
	}
	return elements
}

func noElements(f impl.Field) []int64 {
	size := oracleSize(f)
	return slices.Concat([]int64{-1, -2, -size, size, size + 1, 2 * size}, extremes)
}

// good fails unless a call has ended without an error, and gives its value.
func good(t *testing.T, what string) func(value int64, code int64) int64 {
	return func(value int64, code int64) int64 {
		t.Helper()
		if code != impl.ErrNone {
			t.Fatal(what, "fails with", code)
		}
		return value
	}
}

// brokenFields are no fields, each for a reason of its own.
func brokenFields() []impl.Field {
	broken := []impl.Field{
		{},
		// The Prime is no prime number, with a Poly that might be taken for a generator.
		{Prime: 4, Power: 1, Poly: 3}, {Prime: 6, Power: 1, Poly: 5}, {Prime: 8, Power: 1, Poly: 3},
		{Prime: 9, Power: 1, Poly: 2}, {Prime: 15, Power: 1, Poly: 2}, {Prime: 25, Power: 1, Poly: 2},
		{Prime: 121, Power: 1, Poly: 2}, {Prime: 341, Power: 1, Poly: 2}, {Prime: 561, Power: 1, Poly: 2},
		{Prime: 961, Power: 1, Poly: 3}, {Prime: 1001, Power: 1, Poly: 2}, {Prime: 1020, Power: 1, Poly: 7},
		// A Prime outside 3..MaxPrime.
		{Prime: 2, Power: 1, Poly: 1}, {Prime: 2, Power: 1, Poly: 2}, {Prime: 2, Power: 1, Poly: 3},
		{Prime: 1, Power: 1, Poly: 1}, {Prime: 1, Power: 1}, {Power: 1}, {Power: 1, Poly: 1},
		{Prime: -3, Power: 1, Poly: 2}, {Prime: -7, Power: 1, Poly: 3}, {Prime: 1022, Power: 1, Poly: 7},
		{Prime: 1031, Power: 1, Poly: 14}, {Prime: 1033, Power: 1, Poly: 5}, {Prime: 65537, Power: 1, Poly: 3},
		{Prime: 2147483647, Power: 1, Poly: 7}, {Prime: 2305843009213693951, Power: 1, Poly: 37},
		// The Poly generates, but is not the least; is no generator; is the least plus the Prime.
		{Prime: 7, Power: 1, Poly: 5}, {Prime: 5, Power: 1, Poly: 3}, {Prime: 1021, Power: 1, Poly: 22},
		{Prime: 7, Power: 1}, {Prime: 7, Power: 1, Poly: 1}, {Prime: 7, Power: 1, Poly: 2},
		{Prime: 7, Power: 1, Poly: 6}, {Prime: 7, Power: 1, Poly: 10}, {Prime: 7, Power: 1, Poly: -4},
		{Prime: 3, Power: 1, Poly: 1}, {Prime: 3, Power: 1, Poly: 3}, {Prime: 3, Power: 1, Poly: 5},
		{Prime: 3, Power: 1, Poly: -1}, {Prime: 1021, Power: 1, Poly: 9}, {Prime: 1021, Power: 1, Poly: 1031},
		// A Power that its kind has not.
		{Prime: 7, Poly: 3}, {Prime: 7, Power: 2, Poly: 3}, {Prime: 7, Power: 3, Poly: 11},
		{Prime: 7, Power: -1, Poly: 3}, {Prime: 3, Power: 2, Poly: 14}, {Prime: 4, Power: 3, Poly: 11},
		{Prime: 2, Power: 2, Poly: 7}, {Prime: 2, Power: 9, Poly: 529}, {Prime: 2, Power: 0, Poly: 1},
		{Prime: 2, Power: -1, Poly: 1}, {Prime: 2, Power: 64, Poly: 1}, {Prime: 2, Power: 67, Poly: 11},
		// The Poly has another degree: some would do with another Power, some without the highest
		// bit or the sign, or with a bit that is missing.
		{Prime: 2, Power: 3, Poly: 7}, {Prime: 2, Power: 3, Poly: 3}, {Prime: 2, Power: 3, Poly: 19},
		{Prime: 2, Power: 3, Poly: 27}, {Prime: 2, Power: 3, Poly: 16}, {Prime: 2, Power: 3, Poly: 0},
		{Prime: 2, Power: 3, Poly: -11}, {Prime: 2, Power: 3, Poly: -5}, {Prime: 2, Power: 8, Poly: 797},
		{Prime: 2, Power: 8, Poly: 29}, {Prime: 2, Power: 8, Poly: 255}, {Prime: 2, Power: 8, Poly: 512},
		// The powers of 2 are not all elements but 0: some is 0, or the Poly is a product, or
		// they repeat too early although there is no product.
		{Prime: 2, Power: 3, Poly: 8}, {Prime: 2, Power: 3, Poly: 9}, {Prime: 2, Power: 3, Poly: 10},
		{Prime: 2, Power: 3, Poly: 12}, {Prime: 2, Power: 3, Poly: 14}, {Prime: 2, Power: 3, Poly: 15},
		{Prime: 2, Power: 4, Poly: 31}, {Prime: 2, Power: 6, Poly: 73}, {Prime: 2, Power: 6, Poly: 87},
		{Prime: 2, Power: 8, Poly: 283}, {Prime: 2, Power: 8, Poly: 256}, {Prime: 2, Power: 8, Poly: 511},
	}
	for _, extreme := range extremes {
		broken = append(broken,
			impl.Field{Prime: extreme, Power: 1, Poly: 3}, impl.Field{Prime: 7, Power: extreme, Poly: 3},
			impl.Field{Prime: 7, Power: 1, Poly: extreme}, impl.Field{Prime: extreme, Power: 3, Poly: 11},
			impl.Field{Prime: 2, Power: extreme, Poly: 11}, impl.Field{Prime: 2, Power: 3, Poly: extreme},
			impl.Field{Prime: 2, Power: 8, Poly: extreme}, impl.Field{Prime: 2, Power: extreme, Poly: extreme},
			impl.Field{Prime: extreme, Power: extreme, Poly: extreme},
		)
	}
	return broken
}

func TestFieldLimits(t *testing.T) {
	if impl.MaxPrime != 1021 || impl.MaxPower != 8 {
		t.Error("limits", impl.MaxPrime, impl.MaxPower)
	}
}

func TestIsField(t *testing.T) {
	for _, f := range sampleFields() {
		if !impl.IsField(f) || impl.FieldSize(f) != oracleSize(f) {
			t.Error("a field is rejected:", f, impl.FieldSize(f))
		}
	}
	for _, f := range brokenFields() {
		returns(t, "IsField", func() {
			if impl.IsField(f) || impl.FieldSize(f) != 0 {
				t.Error("no field, but accepted:", f, impl.FieldSize(f))
			}
		})
	}
}

func TestIsFieldOfFirstKindEverywhere(t *testing.T) {
	for prime := int64(-5); prime <= impl.MaxPrime+30; prime++ {
		for poly := int64(-2); poly <= 24; poly++ {
			f := impl.Field{Prime: prime, Power: 1, Poly: poly}
			if got := impl.IsField(f); got != oracleField(f) {
				t.Fatal("IsField", f, got)
			}
		}
	}
	// Of all numbers, one is the generator.
	for _, prime := range []int64{3, 5, 7, 11, 13, 191, 409, 1009, impl.MaxPrime} {
		count := 0
		for poly := -prime; poly <= 2*prime; poly++ {
			if impl.IsField(impl.Field{Prime: prime, Power: 1, Poly: poly}) {
				count++
			}
		}
		if count != 1 {
			t.Error(count, "generators for", prime)
		}
	}
}

func TestIsFieldOfSecondKindEverywhere(t *testing.T) {
	// The number of polynomials of each degree for which 2 is a generator is well known.
	counts := map[int64]int{3: 2, 4: 2, 5: 6, 6: 6, 7: 18, 8: 16}
	for power := int64(-2); power <= impl.MaxPower+2; power++ {
		count := 0
		for poly := int64(-2); poly <= 1100; poly++ {
			f := impl.Field{Prime: 2, Power: power, Poly: poly}
			got := impl.IsField(f)
			if got != oracleField(f) {
				t.Fatal("IsField", f, got)
			}
			if got {
				count++
			}
		}
		if count != counts[power] {
			t.Error(count, "fields with the power", power)
		}
	}
}

func TestFieldOf(t *testing.T) {
	want := []impl.Field{
		{Prime: 3, Power: 1, Poly: 2}, {Prime: 5, Power: 1, Poly: 2}, {Prime: 7, Power: 1, Poly: 3},
		{Prime: 2, Power: 3, Poly: 11}, {Prime: 11, Power: 1, Poly: 2}, {Prime: 13, Power: 1, Poly: 2},
		{Prime: 2, Power: 4, Poly: 19}, {Prime: 17, Power: 1, Poly: 3}, {Prime: 23, Power: 1, Poly: 5},
		{Prime: 31, Power: 1, Poly: 3}, {Prime: 2, Power: 5, Poly: 37}, {Prime: 41, Power: 1, Poly: 6},
		{Prime: 2, Power: 6, Poly: 67}, {Prime: 71, Power: 1, Poly: 7}, {Prime: 127, Power: 1, Poly: 3},
		{Prime: 2, Power: 7, Poly: 131}, {Prime: 191, Power: 1, Poly: 19}, {Prime: 2, Power: 8, Poly: 285},
		{Prime: 257, Power: 1, Poly: 3}, {Prime: 409, Power: 1, Poly: 21}, {Prime: 929, Power: 1, Poly: 3},
		{Prime: 1009, Power: 1, Poly: 11}, {Prime: 1013, Power: 1, Poly: 3}, {Prime: 1019, Power: 1, Poly: 2},
		{Prime: 1021, Power: 1, Poly: 10},
	}
	for _, f := range want {
		if got, code := impl.FieldOf(oracleSize(f)); code != impl.ErrNone || got != f {
			t.Error("size", oracleSize(f), "yields", got, code)
		}
	}
}

func TestFieldOfNothing(t *testing.T) {
	sizes := []int64{
		0, 1, 2, 4, 6, 9, 15, 25, 27, 49, 81, 121, 255, 341, 343, 512, 561, 729, 841, 961, 1001, 1020,
		1022, 1023, 1024, 1031, 1033, 2048, 65536, 65537, 1000003, 2147483647, 2305843009213693951,
		-2, -3, -7, -8, -1021,
	}
	for _, size := range slices.Concat(sizes, extremes) {
		returns(t, "FieldOf", func() {
			if f, code := impl.FieldOf(size); code != impl.ErrNotFound || f != (impl.Field{}) {
				t.Error("size", size, "yields", f, code)
			}
		})
	}
}

// Promise 2: FieldOf gives a valid field of the size asked for, and no smaller Poly serves.
func TestFieldOfEverySize(t *testing.T) {
	count := 0
	for size := int64(-20); size <= 1100; size++ {
		f, code := impl.FieldOf(size)
		binary := slices.Contains([]int64{8, 16, 32, 64, 128, 256}, size)
		if !binary && (size < 3 || size > impl.MaxPrime || !oraclePrime(size)) {
			if code != impl.ErrNotFound || f != (impl.Field{}) {
				t.Fatal("size", size, "yields", f, code)
			}
			continue
		}
		count++
		if code != impl.ErrNone || !oracleField(f) || !impl.IsField(f) || oracleSize(f) != size || impl.FieldSize(f) != size {
			t.Fatal("size", size, "yields", f, code)
		}
		for poly := int64(-1); poly < f.Poly; poly++ {
			smaller := impl.Field{Prime: f.Prime, Power: f.Power, Poly: poly}
			if oracleField(smaller) || impl.IsField(smaller) {
				t.Fatal("size", size, "has the smaller Poly", poly)
			}
		}
	}
	// 172 prime numbers below 1022 without 2, and 6 powers of 2.
	if count != 171+6 {
		t.Error(count, "sizes")
	}
}

func TestFieldExamples(t *testing.T) {
	f, g := fieldOf(t, 7), fieldOf(t, 8)
	if f != (impl.Field{Prime: 7, Power: 1, Poly: 3}) || g != (impl.Field{Prime: 2, Power: 3, Poly: 11}) {
		t.Error("FieldOf", f, g)
	}
	if product, code := impl.FieldMul(g, 3, 5); code != impl.ErrNone || product != 4 {
		t.Error("FieldMul", product, code)
	}
}

func TestFieldTables(t *testing.T) {
	f, g := fieldOf(t, 7), fieldOf(t, 8)
	for n, want := range []int64{1, 3, 2, 6, 4, 5, 1} {
		if power := good(t, "FieldPow")(impl.FieldPow(f, 3, int64(n))); power != want {
			t.Error("3 to the power of", n, "is", power)
		}
	}
	for n, want := range []int64{1, 2, 4, 3, 6, 7, 5, 1} {
		if power := good(t, "FieldPow")(impl.FieldPow(g, 2, int64(n))); power != want {
			t.Error("2 to the power of", n, "is", power)
		}
	}
	h := fieldOf(t, 256)
	tests := []struct{ a, b, product int64 }{
		{128, 2, 29}, {255, 255, 226}, {2, 142, 1}, {0, 255, 0}, {255, 0, 0}, {1, 255, 255}, {16, 16, 29},
	}
	for _, test := range tests {
		if product := good(t, "FieldMul")(impl.FieldMul(h, test.a, test.b)); product != test.product {
			t.Error(test.a, "times", test.b, "is", product)
		}
	}
	greatest := fieldOf(t, impl.MaxPrime)
	if product := good(t, "FieldMul")(impl.FieldMul(greatest, 1020, 1020)); product != 1 {
		t.Error("1020 times 1020 is", product)
	}
	if sum := good(t, "FieldAdd")(impl.FieldAdd(greatest, 1020, 1020)); sum != 1019 {
		t.Error("1020 plus 1020 is", sum)
	}
}

func TestFieldSumsAndProducts(t *testing.T) {
	source := rand.New(rand.NewSource(21))
	for _, f := range sampleFields() {
		elements := someElements(f, source)
		for _, a := range elements {
			for _, b := range elements {
				if sum := good(t, "FieldAdd")(impl.FieldAdd(f, a, b)); sum != oracleAdd(f, a, b) {
					t.Fatal(f, a, "plus", b, "is", sum)
				}
				if product := good(t, "FieldMul")(impl.FieldMul(f, a, b)); product != oracleMul(f, a, b) {
					t.Fatal(f, a, "times", b, "is", product)
				}
			}
		}
	}
}

// Promise 2: every element but 0 has a logarithm, and no two have the same one.
func TestFieldLogarithms(t *testing.T) {
	for _, f := range sampleFields() {
		power := int64(1)
		for n := range oracleSize(f) - 1 {
			if log := good(t, "FieldLog")(impl.FieldLog(f, power)); log != n {
				t.Fatal(f, "the logarithm of", power, "is", log, "and not", n)
			}
			if back := good(t, "FieldPow")(impl.FieldPow(f, generatorOf(f), n)); back != power {
				t.Fatal(f, "the generator to the power of", n, "is", back, "and not", power)
			}
			power = oracleMul(f, power, generatorOf(f))
		}
		if power != 1 {
			t.Fatal(f, "the powers do not repeat")
		}
	}
}

// Promise 2: the product of two elements other than 0 is the generator to the power of the sum of
// their logarithms.
func TestFieldProductsOfLogarithms(t *testing.T) {
	source := rand.New(rand.NewSource(22))
	for _, f := range sampleFields() {
		elements := someElements(f, source)
		for _, a := range elements {
			for _, b := range elements {
				if a == 0 || b == 0 {
					continue
				}
				sum := good(t, "FieldLog")(impl.FieldLog(f, a)) + good(t, "FieldLog")(impl.FieldLog(f, b))
				power := good(t, "FieldPow")(impl.FieldPow(f, generatorOf(f), sum))
				if product := good(t, "FieldMul")(impl.FieldMul(f, a, b)); product != power {
					t.Fatal(f, a, "times", b, "is", product, "but the power is", power)
				}
			}
		}
	}
}

// Promise 2: every element but 0 has an inverse, and every element a negative one.
func TestFieldInversesAndNegatives(t *testing.T) {
	for _, f := range sampleFields() {
		size := oracleSize(f)
		for _, a := range allElements(f) {
			negative := good(t, "FieldNeg")(impl.FieldNeg(f, a))
			if negative < 0 || negative >= size || oracleAdd(f, a, negative) != 0 {
				t.Fatal(f, "the negative of", a, "is", negative)
			}
			if sum := good(t, "FieldAdd")(impl.FieldAdd(f, a, negative)); sum != 0 {
				t.Fatal(f, a, "plus", negative, "is", sum)
			}
			if a == 0 {
				continue
			}
			inverse := good(t, "FieldInv")(impl.FieldInv(f, a))
			if inverse < 0 || inverse >= size || oracleMul(f, a, inverse) != 1 {
				t.Fatal(f, "the inverse of", a, "is", inverse)
			}
			if product := good(t, "FieldMul")(impl.FieldMul(f, a, inverse)); product != 1 {
				t.Fatal(f, a, "times", inverse, "is", product)
			}
		}
	}
}

// Promise 2: multiplication is distributive over addition; both are associative and commutative.
func TestFieldLaws(t *testing.T) {
	source := rand.New(rand.NewSource(23))
	for _, f := range sampleFields() {
		add := func(a, b int64) int64 { return good(t, "FieldAdd")(impl.FieldAdd(f, a, b)) }
		mul := func(a, b int64) int64 { return good(t, "FieldMul")(impl.FieldMul(f, a, b)) }
		check := func(a, b, c int64) {
			t.Helper()
			if mul(a, add(b, c)) != add(mul(a, b), mul(a, c)) || mul(add(b, c), a) != add(mul(b, a), mul(c, a)) {
				t.Fatal(f, "is not distributive at", a, b, c)
			}
			if mul(a, mul(b, c)) != mul(mul(a, b), c) || add(a, add(b, c)) != add(add(a, b), c) {
				t.Fatal(f, "is not associative at", a, b, c)
			}
			if mul(a, b) != mul(b, a) || add(a, b) != add(b, a) {
				t.Fatal(f, "is not commutative at", a, b)
			}
			if mul(a, 1) != a || add(a, 0) != a || mul(a, 0) != 0 {
				t.Fatal(f, "0 and 1 are not neutral at", a)
			}
		}
		size := oracleSize(f)
		if size <= 8 {
			for n := range size * size * size {
				check(n%size, n/size%size, n/size/size)
			}
		}
		for range 300 {
			check(source.Int63n(size), source.Int63n(size), source.Int63n(size))
		}
		check(size-1, size-1, size-1)
	}
}

func TestFieldPow(t *testing.T) {
	source := rand.New(rand.NewSource(24))
	for _, f := range sampleFields() {
		for _, a := range someElements(f, source) {
			power := int64(1)
			for n := int64(0); n < 40; n++ {
				if got := good(t, "FieldPow")(impl.FieldPow(f, a, n)); got != power {
					t.Fatal(f, a, "to the power of", n, "is", got, "and not", power)
				}
				power = oracleMul(f, power, a)
			}
		}
	}
}

func TestFieldPowLimits(t *testing.T) {
	const most = 1000000
	for _, f := range sampleFields() {
		size := oracleSize(f)
		for _, a := range []int64{0, 1, generatorOf(f), size - 1} {
			if power := good(t, "FieldPow")(impl.FieldPow(f, a, 0)); power != 1 {
				t.Error(f, a, "to the power of 0 is", power)
			}
			// The powers of an element other than 0 repeat after size - 1.
			want := int64(1)
			for range (most-1)%(size-1) + 1 {
				want = oracleMul(f, want, a)
			}
			if power := good(t, "FieldPow")(impl.FieldPow(f, a, most)); power != want {
				t.Error(f, a, "to the greatest power is", power, "and not", want)
			}
			for _, n := range slices.Concat([]int64{-1, most + 1, -most}, extremes) {
				if power, code := impl.FieldPow(f, a, n); code != impl.ErrRange || power != 0 {
					t.Error(f, a, "to the power of", n, "is", power, code)
				}
			}
		}
	}
	f, g := fieldOf(t, impl.MaxPrime), fieldOf(t, 256)
	a, b := int64(1), int64(1)
	for range most {
		a, b = a*19%1021, oracleMul(g, b, 7)
	}
	if power := good(t, "FieldPow")(impl.FieldPow(f, 19, most)); power != a {
		t.Error("19 to the greatest power is", power, "and not", a)
	}
	if power := good(t, "FieldPow")(impl.FieldPow(g, 7, most)); power != b {
		t.Error("7 to the greatest power is", power, "and not", b)
	}
}

// fieldCalls calls every function that has a field and elements, with a wherever there is an
// element; b stands for the second element, and n for the exponent.
func fieldCalls(f impl.Field, a, b, n int64) map[string][2]int64 {
	calls := map[string][2]int64{}
	keep := func(name string) func(value int64, code int64) {
		return func(value int64, code int64) { calls[name] = [2]int64{value, code} }
	}
	keep("FieldAdd")(impl.FieldAdd(f, a, b))
	keep("FieldNeg")(impl.FieldNeg(f, a))
	keep("FieldMul")(impl.FieldMul(f, a, b))
	keep("FieldInv")(impl.FieldInv(f, a))
	keep("FieldPow")(impl.FieldPow(f, a, n))
	keep("FieldLog")(impl.FieldLog(f, a))
	return calls
}

func allFail(t *testing.T, f impl.Field, a, b, n int64, want int64) {
	t.Helper()
	returns(t, "a function of chapter 2", func() {
		for name, result := range fieldCalls(f, a, b, n) {
			if result != [2]int64{0, want} {
				t.Error(name, f, a, b, n, "yields", result, "instead of the error", want)
			}
		}
	})
}

// An invalid field comes before everything else.
func TestFieldErrorsOfInvalidFields(t *testing.T) {
	for _, f := range brokenFields() {
		for _, a := range []int64{0, 1, 2, -1, 1021, math.MinInt64, math.MaxInt64} {
			allFail(t, f, a, 1, 1, impl.ErrInvalid)
			allFail(t, f, a, -1, -1, impl.ErrInvalid)
			allFail(t, f, 1, a, a, impl.ErrInvalid)
		}
	}
}

func TestFieldErrorsOfElements(t *testing.T) {
	for _, f := range sampleFields() {
		size := oracleSize(f)
		for _, wrong := range noElements(f) {
			for _, n := range []int64{0, 1, -1, 1000001, math.MaxInt64} {
				allFail(t, f, wrong, 1, n, impl.ErrRange)
			}
			allFail(t, f, wrong, 0, 1, impl.ErrRange)
			allFail(t, f, wrong, wrong, wrong, impl.ErrRange)
			for _, a := range []int64{0, 1, size - 1} {
				calls := fieldCalls(f, a, wrong, 1)
				if calls["FieldAdd"] != [2]int64{0, impl.ErrRange} || calls["FieldMul"] != [2]int64{0, impl.ErrRange} {
					t.Error(f, a, wrong, "yields", calls)
				}
			}
		}
		// The greatest element is one.
		for name, result := range fieldCalls(f, size-1, size-1, 1) {
			if result[1] != impl.ErrNone {
				t.Error(name, f, "of the greatest element fails with", result[1])
			}
		}
	}
}

func TestFieldErrorsOfZero(t *testing.T) {
	for _, f := range sampleFields() {
		for name, result := range fieldCalls(f, 0, 0, 0) {
			want := [2]int64{0, impl.ErrNone}
			switch name {
			case "FieldInv", "FieldLog":
				want = [2]int64{0, impl.ErrState}
			case "FieldPow":
				want = [2]int64{1, impl.ErrNone}
			}
			if result != want {
				t.Error(name, f, "of 0 yields", result)
			}
		}
	}
}

// No call changes what a later one with another field yields.
func TestFieldsKeepNoState(t *testing.T) {
	fields := sampleFields()
	var first []map[string][2]int64
	for _, f := range fields {
		first = append(first, fieldCalls(f, 2, 1, 5))
	}
	for i := len(fields) - 1; i >= 0; i-- {
		for name, result := range fieldCalls(fields[i], 2, 1, 5) {
			if result != first[i][name] {
				t.Error(name, fields[i], "yields", first[i][name], "and then", result)
			}
		}
	}
}
