package tests

import (
	"fmt"
	"math"
	"math/rand"
	"slices"
	"strings"
	"testing"

	"loop.example/g00879/impl"
)

func bitsOf(t *testing.T, text string) []int64 {
	t.Helper()
	list := make([]int64, len(text))
	for i, c := range []byte(text) {
		if c != '0' && c != '1' {
			t.Fatal("no text of bits:", text)
		}
		list[i] = int64(c) - '0'
	}
	return list
}

func randomBits(source *rand.Rand, count int) []int64 {
	list := make([]int64, count)
	for i := range list {
		list[i] = source.Int63n(2)
	}
	return list
}

func with(list []int64, at int, value int64) []int64 {
	out := slices.Clone(list)
	out[at] = value
	return out
}

// binary is an oracle for numbers: it does not shift.
func binary(value int64, width int64) string {
	if width == 0 {
		return ""
	}
	return fmt.Sprintf("%0*b", int(width), value)
}

// brokenLists are lists that are not bit lists, because of an element or of their length.
func brokenLists() [][]int64 {
	full := make([]int64, impl.MaxBits)
	lists := [][]int64{
		{2}, {-1}, {0, 1, 0, 1, 0, 1, 0, 2}, {3, 0, 0, 0, 0, 0, 0, 0}, {'0', '1'},
		with(full, impl.MaxBits-1, 2),
		with(full, 0, -1),
		make([]int64, impl.MaxBits+1),
		slices.Repeat([]int64{1}, impl.MaxBits+8),
		make([]int64, 1<<20),
		slices.Repeat([]int64{5}, impl.MaxBits+1),
	}
	for _, extreme := range extremes {
		lists = append(lists, []int64{extreme}, []int64{0, 1, extreme, 1})
	}
	return lists
}

func TestErrorCodes(t *testing.T) {
	codes := []int64{
		impl.ErrNone, impl.ErrInvalid, impl.ErrRange, impl.ErrLimit,
		impl.ErrNotFound, impl.ErrState, impl.ErrSyntax, impl.ErrDamage,
	}
	for want, code := range codes {
		if code != int64(want) {
			t.Error("the code with the number", want, "is", code)
		}
	}
	if impl.MaxBits != 8192 || impl.MaxWidth != 32 {
		t.Error("limits", impl.MaxBits, impl.MaxWidth)
	}
}

func TestIsBits(t *testing.T) {
	good := [][]int64{
		nil, {}, {0}, {1}, {0, 1, 1, 0, 1},
		make([]int64, impl.MaxBits-1), make([]int64, impl.MaxBits),
		slices.Repeat([]int64{1}, impl.MaxBits),
	}
	for _, list := range good {
		if !impl.IsBits(list) {
			t.Error("a bit list is rejected, length", len(list))
		}
	}
	for i, list := range brokenLists() {
		if impl.IsBits(list) {
			t.Error("no bit list, but accepted:", i)
		}
	}
}

func TestIsBitsLeavesArgument(t *testing.T) {
	for _, list := range [][]int64{nil, {0, 1, 1}, {0, 2}} {
		g := guard(list)
		impl.IsBits(g.list)
		g.check(t, "IsBits")
	}
}

func TestAppendBitsExample(t *testing.T) {
	for _, empty := range [][]int64{nil, {}} {
		list, code := impl.AppendBits(empty, 5, 4)
		if code != impl.ErrNone || !slices.Equal(list, []int64{0, 1, 0, 1}) {
			t.Error(list, code)
		}
	}
}

// The values at which a width begins and ends, and bits before them that must stay.
func TestAppendBitsWidths(t *testing.T) {
	before := bitsOf(t, "1011000")
	for width := int64(0); width <= impl.MaxWidth; width++ {
		greatest := int64(1)<<width - 1
		for _, value := range []int64{0, 1, greatest / 3, greatest / 2, greatest - 1, greatest} {
			if value < 0 || value > greatest {
				continue
			}
			list, code := impl.AppendBits(before, value, width)
			want := append(slices.Clone(before), bitsOf(t, binary(value, width))...)
			if code != impl.ErrNone || !slices.Equal(list, want) {
				t.Fatal("value", value, "width", width, "yields", list, code)
			}
		}
		for _, value := range []int64{-1, greatest + 1, greatest + 2} {
			list, code := impl.AppendBits(before, value, width)
			if code != impl.ErrRange || len(list) != 0 {
				t.Fatal("value", value, "width", width, "yields", list, code)
			}
		}
	}
}

func TestAppendBitsErrors(t *testing.T) {
	full := slices.Repeat([]int64{1}, impl.MaxBits)
	tests := []struct {
		what         string
		list         []int64
		value, width int64
		code         int64
	}{
		{"all wrong", make([]int64, impl.MaxBits+1), -1, -1, impl.ErrInvalid},
		{"bad list and width", []int64{2}, 0, 33, impl.ErrInvalid},
		{"bad list and value", []int64{0, -1}, 16, 4, impl.ErrInvalid},
		{"bad full list", with(full, impl.MaxBits-1, 2), 0, 1, impl.ErrInvalid},
		{"bad list, nothing to append", []int64{2}, 0, 0, impl.ErrInvalid},
		{"width -1", nil, 0, -1, impl.ErrRange},
		{"width MaxWidth + 1", nil, 0, impl.MaxWidth + 1, impl.ErrRange},
		{"width 63", nil, 1, 63, impl.ErrRange},
		{"width 64", nil, 1, 64, impl.ErrRange},
		{"width 2^32", nil, 0, 1 << 32, impl.ErrRange},
		{"a value in no bits", nil, 1, 0, impl.ErrRange},
		{"value 2^MaxWidth", nil, 1 << impl.MaxWidth, impl.MaxWidth, impl.ErrRange},
		{"bad width and full", full, 0, impl.MaxWidth + 1, impl.ErrRange},
		{"negative width and full", full, 0, -1, impl.ErrRange},
		{"bad value and full", full, 2, 1, impl.ErrRange},
		{"negative value and full", full, -1, 1, impl.ErrRange},
		{"a value in no bits and full", full, 1, 0, impl.ErrRange},
		{"full", full, 1, 1, impl.ErrLimit},
		{"one too many", full[:impl.MaxBits-3], 7, 4, impl.ErrLimit},
		{"one too many in MaxWidth", full[:impl.MaxBits-31], 0, impl.MaxWidth, impl.ErrLimit},
	}
	for _, test := range tests {
		list, code := impl.AppendBits(test.list, test.value, test.width)
		if code != test.code || len(list) != 0 {
			t.Error(test.what, "yields", len(list), "bits and", code)
		}
	}
}

func TestAppendBitsUpToLimit(t *testing.T) {
	full := slices.Repeat([]int64{1}, impl.MaxBits)
	for _, width := range []int64{0, 1, 4, impl.MaxWidth} {
		list, code := impl.AppendBits(full[:impl.MaxBits-width], 0, width)
		want := slices.Concat(full[:impl.MaxBits-width], make([]int64, width))
		if code != impl.ErrNone || !slices.Equal(list, want) {
			t.Error("width", width, "yields", len(list), "bits and", code)
		}
	}
}

func TestAppendBitsExtremes(t *testing.T) {
	for _, extreme := range extremes {
		returns(t, "AppendBits", func() {
			if list, code := impl.AppendBits(nil, 0, extreme); code != impl.ErrRange || len(list) != 0 {
				t.Error("width", extreme, "yields", list, code)
			}
			if list, code := impl.AppendBits(nil, extreme, extreme); code != impl.ErrRange || len(list) != 0 {
				t.Error("value and width", extreme, "yield", list, code)
			}
			if extreme != math.MaxInt32 {
				if list, code := impl.AppendBits(nil, extreme, impl.MaxWidth); code != impl.ErrRange || len(list) != 0 {
					t.Error("value", extreme, "yields", list, code)
				}
			}
		})
	}
}

func TestNumberAtErrors(t *testing.T) {
	list := slices.Repeat([]int64{1, 0}, 20)
	tests := []struct {
		what      string
		list      []int64
		at, width int64
		code      int64
	}{
		{"bad list and width", []int64{2}, 0, 33, impl.ErrInvalid},
		{"bad list and index", []int64{-1}, -1, 1, impl.ErrInvalid},
		{"bad list and too short", []int64{2}, 0, 2, impl.ErrInvalid},
		{"a bad element behind the number", []int64{1, 0, 1, 2}, 0, 3, impl.ErrInvalid},
		{"a bad element before the number", []int64{2, 0, 1, 1}, 1, 3, impl.ErrInvalid},
		{"a list that is too long", make([]int64, impl.MaxBits+1), 0, 1, impl.ErrInvalid},
		{"width -1", list, 3, -1, impl.ErrRange},
		{"width MaxWidth + 1", list, 0, impl.MaxWidth + 1, impl.ErrRange},
		{"width MaxWidth + 1, all of the list", list, 7, impl.MaxWidth + 1, impl.ErrRange},
		{"index -1", list, -1, 4, impl.ErrRange},
		{"index -1, no bits", list, -1, 0, impl.ErrRange},
		{"one bit too few", list, 37, 4, impl.ErrRange},
		{"one bit too few for MaxWidth", list, 9, impl.MaxWidth, impl.ErrRange},
		{"behind the list", list, 41, 0, impl.ErrRange},
		{"at the end of the list", list, 40, 1, impl.ErrRange},
		{"empty", nil, 0, 1, impl.ErrRange},
		{"behind the empty list", nil, 1, 0, impl.ErrRange},
		{"shorter than the width", list[:5], 0, impl.MaxWidth, impl.ErrRange},
	}
	for _, test := range tests {
		n, code := impl.NumberAt(test.list, test.at, test.width)
		if code != test.code || n != 0 {
			t.Error(test.what, "yields", n, code)
		}
	}
}

func TestNumberAtEdges(t *testing.T) {
	list := bitsOf(t, "1000000000000000000000000000000011111111")
	tests := []struct {
		list            []int64
		at, width, want int64
	}{
		{nil, 0, 0, 0},
		{[]int64{}, 0, 0, 0},
		{list, 0, 0, 0},
		{list, 40, 0, 0},
		{list, 39, 1, 1},
		{list, 36, 4, 15},
		{list, 30, 4, 3},
		{list, 0, 1, 1},
		{list, 0, impl.MaxWidth, 1 << 31},
		{list, 8, impl.MaxWidth, 255},
		{slices.Repeat([]int64{1}, impl.MaxBits), impl.MaxBits - impl.MaxWidth, impl.MaxWidth, 1<<32 - 1},
		{slices.Repeat([]int64{1}, impl.MaxBits), impl.MaxBits, 0, 0},
	}
	for i, test := range tests {
		n, code := impl.NumberAt(test.list, test.at, test.width)
		if code != impl.ErrNone || n != test.want {
			t.Error("case", i, "yields", n, code)
		}
	}
}

func TestNumberAtExtremes(t *testing.T) {
	list := make([]int64, 64)
	for _, extreme := range extremes {
		for _, width := range []int64{0, 1, impl.MaxWidth, extreme} {
			returns(t, "NumberAt", func() {
				if n, code := impl.NumberAt(list, extreme, width); code != impl.ErrRange || n != 0 {
					t.Error("index", extreme, "width", width, "yields", n, code)
				}
			})
		}
		returns(t, "NumberAt", func() {
			if n, code := impl.NumberAt(list, 0, extreme); code != impl.ErrRange || n != 0 {
				t.Error("width", extreme, "yields", n, code)
			}
		})
	}
}

// Promise 1: a number is read from where it has been appended, and the bits before it stay.
func TestNumbersComeBack(t *testing.T) {
	source := rand.New(rand.NewSource(1))
	for round := 0; round < 200; round++ {
		var list []int64
		var starts, values, widths []int64
		for len(list)+impl.MaxWidth <= impl.MaxBits && len(starts) < 40 {
			width := source.Int63n(impl.MaxWidth + 1)
			value := source.Int63n(int64(1) << width)
			longer, code := impl.AppendBits(list, value, width)
			if code != impl.ErrNone || int64(len(longer)) != int64(len(list))+width || !slices.Equal(longer[:len(list)], list) {
				t.Fatal("AppendBits", value, width, code)
			}
			starts = append(starts, int64(len(list)))
			values = append(values, value)
			widths = append(widths, width)
			list = longer
		}
		for i, at := range starts {
			n, code := impl.NumberAt(list, at, widths[i])
			if code != impl.ErrNone || n != values[i] {
				t.Fatal("the number", values[i], "in", widths[i], "bits comes back as", n, code)
			}
		}
	}
}

func TestNumberAtBehindLongList(t *testing.T) {
	source := rand.New(rand.NewSource(2))
	for width := int64(0); width <= impl.MaxWidth; width++ {
		before := randomBits(source, int(impl.MaxBits-width))
		value := int64(1)<<width - 1
		list, code := impl.AppendBits(before, value, width)
		if code != impl.ErrNone {
			t.Fatal("AppendBits", width, code)
		}
		n, code := impl.NumberAt(list, int64(len(before)), width)
		if code != impl.ErrNone || n != value {
			t.Fatal("width", width, "yields", n, code)
		}
	}
}

func TestBitsOfString(t *testing.T) {
	tests := []struct{ s, want string }{
		{"", ""},
		{"A", "01000001"},
		{"\x00", "00000000"},
		{"\x80", "10000000"},
		{"\xff", "11111111"},
		{"\x01\xfe", "0000000111111110"},
		{"é", "1100001110101001"},
		{"a\n", "0110000100001010"},
	}
	for _, test := range tests {
		list, code := impl.BitsOfString(test.s)
		if code != impl.ErrNone || !slices.Equal(list, bitsOf(t, test.want)) {
			t.Errorf("%q yields %v %d", test.s, list, code)
		}
		s, code := impl.StringOfBits(bitsOf(t, test.want))
		if code != impl.ErrNone || s != test.s {
			t.Errorf("%s yields %q %d", test.want, s, code)
		}
	}
}

func TestBitsOfStringLimit(t *testing.T) {
	longest := strings.Repeat("\xa5", impl.MaxBits/8)
	list, code := impl.BitsOfString(longest)
	if code != impl.ErrNone || !slices.Equal(list, slices.Repeat([]int64{1, 0, 1, 0, 0, 1, 0, 1}, impl.MaxBits/8)) {
		t.Error("the longest string yields", len(list), "bits and", code)
	}
	if s, code := impl.StringOfBits(list); code != impl.ErrNone || s != longest {
		t.Error("the longest list yields", len(s), "bytes and", code)
	}
	for _, count := range []int{impl.MaxBits/8 + 1, impl.MaxBits, 1 << 20} {
		list, code := impl.BitsOfString(strings.Repeat("A", count))
		if code != impl.ErrLimit || len(list) != 0 {
			t.Error(count, "bytes yield", len(list), "bits and", code)
		}
	}
	// As many characters as bytes fit, but of two bytes each.
	if list, code := impl.BitsOfString(strings.Repeat("é", impl.MaxBits/8)); code != impl.ErrLimit || len(list) != 0 {
		t.Error("characters of two bytes yield", len(list), "bits and", code)
	}
}

func TestStringOfBitsErrors(t *testing.T) {
	for i, list := range brokenLists() {
		if s, code := impl.StringOfBits(list); code != impl.ErrInvalid || s != "" {
			t.Errorf("list %d yields %q %d", i, s, code)
		}
	}
	for _, count := range []int{1, 2, 4, 7, 9, 15, 17, impl.MaxBits - 1, impl.MaxBits - 7} {
		if s, code := impl.StringOfBits(make([]int64, count)); code != impl.ErrState || s != "" {
			t.Errorf("%d bits yield %q %d", count, s, code)
		}
	}
	for _, empty := range [][]int64{nil, {}} {
		if s, code := impl.StringOfBits(empty); code != impl.ErrNone || s != "" {
			t.Errorf("no bits yield %q %d", s, code)
		}
	}
}

// Promise 1: strings and bit lists are recovered from one another.
func TestStringsComeBack(t *testing.T) {
	source := rand.New(rand.NewSource(3))
	for b := 0; b < 256; b++ {
		checkString(t, string([]byte{byte(b)}))
	}
	for count := 0; count <= impl.MaxBits/8; count += 1 + count/7 {
		bytes := make([]byte, count)
		source.Read(bytes)
		checkString(t, string(bytes))
	}
	for count := 0; count <= impl.MaxBits; count += 8 * (1 + count/56) {
		list := randomBits(source, count)
		s, code := impl.StringOfBits(list)
		if code != impl.ErrNone || len(s) != count/8 {
			t.Fatal("StringOfBits", count, code)
		}
		if back, code := impl.BitsOfString(s); code != impl.ErrNone || !slices.Equal(back, list) {
			t.Fatal("a list of", count, "bits does not come back:", code)
		}
	}
}

func checkString(t *testing.T, s string) {
	t.Helper()
	list, code := impl.BitsOfString(s)
	if code != impl.ErrNone || len(list) != 8*len(s) || !impl.IsBits(list) {
		t.Fatalf("BitsOfString of %q: %d", s, code)
	}
	for i := range len(s) {
		if n, code := impl.NumberAt(list, int64(8*i), 8); code != impl.ErrNone || n != int64(s[i]) {
			t.Fatalf("the byte %d of %q is read as %d %d", i, s, n, code)
		}
	}
	if back, code := impl.StringOfBits(list); code != impl.ErrNone || back != s {
		t.Fatalf("%q comes back as %q %d", s, back, code)
	}
}

func TestDistanceAndXor(t *testing.T) {
	tests := []struct {
		a, b, xor string
		distance  int64
	}{
		{"", "", "", 0},
		{"0", "0", "0", 0},
		{"1", "1", "0", 0},
		{"0", "1", "1", 1},
		{"1", "0", "1", 1},
		{"0101", "1100", "1001", 2},
		{"11111", "00000", "11111", 5},
		{strings.Repeat("01", impl.MaxBits/2), strings.Repeat("10", impl.MaxBits/2), strings.Repeat("1", impl.MaxBits), impl.MaxBits},
		{strings.Repeat("01", impl.MaxBits/2), strings.Repeat("0", impl.MaxBits), strings.Repeat("01", impl.MaxBits/2), impl.MaxBits / 2},
	}
	for i, test := range tests {
		a, b := bitsOf(t, test.a), bitsOf(t, test.b)
		distance, code := impl.BitDistance(a, b)
		if code != impl.ErrNone || distance != test.distance {
			t.Error("case", i, "BitDistance yields", distance, code)
		}
		xor, code := impl.XorBits(a, b)
		if code != impl.ErrNone || !slices.Equal(xor, bitsOf(t, test.xor)) {
			t.Error("case", i, "XorBits yields", len(xor), "bits and", code)
		}
	}
}

func TestDistanceAndXorOfEmpty(t *testing.T) {
	for _, pair := range [][2][]int64{{nil, nil}, {nil, {}}, {{}, nil}, {{}, {}}} {
		if distance, code := impl.BitDistance(pair[0], pair[1]); code != impl.ErrNone || distance != 0 {
			t.Error("BitDistance", distance, code)
		}
		if xor, code := impl.XorBits(pair[0], pair[1]); code != impl.ErrNone || len(xor) != 0 {
			t.Error("XorBits", xor, code)
		}
	}
}

func TestXorRestores(t *testing.T) {
	source := rand.New(rand.NewSource(4))
	for count := 0; count < 300; count++ {
		a, b := randomBits(source, count), randomBits(source, count)
		xor, code := impl.XorBits(a, b)
		if code != impl.ErrNone {
			t.Fatal("XorBits", code)
		}
		ones := int64(0)
		for i, bit := range xor {
			if (bit == 1) != (a[i] != b[i]) {
				t.Fatal("index", i, "of", xor)
			}
			ones += bit
		}
		if distance, code := impl.BitDistance(a, b); code != impl.ErrNone || distance != ones {
			t.Fatal("BitDistance", distance, "but", ones, "ones", code)
		}
		if back, code := impl.XorBits(xor, b); code != impl.ErrNone || !slices.Equal(back, a) {
			t.Fatal("XorBits twice", back, code)
		}
	}
}

func TestDistanceAndXorErrors(t *testing.T) {
	check := func(what string, a, b []int64, want int64) {
		t.Helper()
		if distance, code := impl.BitDistance(a, b); code != want || distance != 0 {
			t.Error(what, "BitDistance yields", distance, code)
		}
		if xor, code := impl.XorBits(a, b); code != want || len(xor) != 0 {
			t.Error(what, "XorBits yields", len(xor), "bits and", code)
		}
	}
	for _, broken := range brokenLists() {
		check("broken and as long", broken, make([]int64, len(broken)), impl.ErrInvalid)
		check("as long and broken", make([]int64, len(broken)), broken, impl.ErrInvalid)
		check("broken and shorter", broken, []int64{}, impl.ErrInvalid)
		check("shorter and broken", []int64{}, broken, impl.ErrInvalid)
		check("both broken", broken, broken, impl.ErrInvalid)
	}
	check("a bad last element behind the other list", []int64{0, 1}, []int64{0, 1, 2}, impl.ErrInvalid)
	check("longer", []int64{0, 1}, []int64{0}, impl.ErrState)
	check("shorter", []int64{0}, []int64{0, 1}, impl.ErrState)
	check("nil and one", nil, []int64{0}, impl.ErrState)
	check("one and empty", []int64{1}, []int64{}, impl.ErrState)
	check("the longest and one less", make([]int64, impl.MaxBits), make([]int64, impl.MaxBits-1), impl.ErrState)
}

func TestBitsText(t *testing.T) {
	tests := []struct {
		list []int64
		want string
	}{
		{nil, ""},
		{[]int64{}, ""},
		{[]int64{0}, "0"},
		{[]int64{1}, "1"},
		{[]int64{0, 1, 0, 1, 1}, "01011"},
		{slices.Repeat([]int64{1, 1, 0, 0}, impl.MaxBits/4), strings.Repeat("1100", impl.MaxBits/4)},
	}
	for i, test := range tests {
		if s := impl.BitsText(test.list); s != test.want {
			t.Errorf("case %d yields %q", i, s)
		}
	}
	for i, list := range brokenLists() {
		if s := impl.BitsText(list); s != "" {
			t.Errorf("no bit list, case %d, yields %q", i, s)
		}
	}
}

func TestReadBits(t *testing.T) {
	for _, s := range []string{"", "0", "1", "01011", "0000", strings.Repeat("0110", impl.MaxBits/4)} {
		list, ok := impl.ReadBits(s)
		if !ok || !slices.Equal(list, bitsOf(t, s)) {
			t.Errorf("a text of %d bits yields %v", len(s), ok)
		}
	}
	wrong := []string{
		"2", "/", "012", "210", " 01", "01 ", "0 1", "01\n", "\n", "+1", "-1", "0,1", "\x00", "\x01",
		"\xff", "\xb0", "\xb1", "0\x80", "é", "\uff10\uff11", "0b1", "O", "l",
		strings.Repeat("0", impl.MaxBits+1), strings.Repeat("1", impl.MaxBits+8),
		strings.Repeat("0", impl.MaxBits-1) + "2", strings.Repeat("1", 1<<20),
	}
	for i, s := range wrong {
		if list, ok := impl.ReadBits(s); ok || len(list) != 0 {
			t.Error("wrong text", i, "yields", len(list), "bits and", ok)
		}
	}
	for c := 0; c < 256; c++ {
		_, ok := impl.ReadBits("1" + string([]byte{byte(c)}) + "0")
		if ok != (c == '0' || c == '1') {
			t.Error("the byte", c, "yields", ok)
		}
	}
}

// Promise 1: bit lists come back from their text.
func TestBitTextsComeBack(t *testing.T) {
	source := rand.New(rand.NewSource(5))
	for count := 0; count <= impl.MaxBits; count += 1 + count/9 {
		list := randomBits(source, count)
		s := impl.BitsText(list)
		if len(s) != count {
			t.Fatal("a text of", len(s), "characters for", count, "bits")
		}
		back, ok := impl.ReadBits(s)
		if !ok || !slices.Equal(back, list) {
			t.Fatal("a list of", count, "bits does not come back")
		}
		if impl.BitsText(back) != s {
			t.Fatal("a text of", count, "bits does not come back")
		}
	}
}

func TestBitsMemory(t *testing.T) {
	lists := [][]int64{{}, {1}, bitsOf(t, "01000001"), bitsOf(t, "1111000011001010")}
	for _, values := range lists {
		a := guard(values)
		b := guard(slices.Repeat([]int64{1}, len(values)))
		for _, width := range []int64{0, 1, 3, 8, impl.MaxWidth} {
			unshared(t, "AppendBits", func() []int64 {
				list, _ := impl.AppendBits(a.list, 0, width)
				return list
			}, a)
		}
		unshared(t, "XorBits", func() []int64 {
			list, _ := impl.XorBits(a.list, b.list)
			return list
		}, a, b)
		unshared(t, "XorBits of a list and itself", func() []int64 {
			list, _ := impl.XorBits(a.list, a.list)
			return list
		}, a)
		unshared(t, "BitsOfString", func() []int64 {
			list, _ := impl.BitsOfString("symbol"[:len(values)%7])
			return list
		})
		unshared(t, "ReadBits", func() []int64 {
			list, _ := impl.ReadBits("011010"[:len(values)%7])
			return list
		})
		impl.NumberAt(a.list, 0, int64(len(values)))
		impl.StringOfBits(a.list)
		impl.BitDistance(a.list, b.list)
		impl.BitsText(a.list)
		a.check(t, "a reading function")
		b.check(t, "a reading function")
	}
}

// Failing calls leave their arguments alone too.
func TestBitsMemoryOfErrors(t *testing.T) {
	bad := guard([]int64{0, 1, 2})
	odd := guard([]int64{0, 1, 1})
	impl.AppendBits(bad.list, 1, 1)
	impl.AppendBits(odd.list, 2, 1)
	impl.AppendBits(odd.list, 0, -1)
	impl.NumberAt(bad.list, 0, 1)
	impl.NumberAt(odd.list, 2, 2)
	impl.StringOfBits(bad.list)
	impl.StringOfBits(odd.list)
	impl.BitDistance(bad.list, odd.list)
	impl.XorBits(bad.list, odd.list)
	impl.XorBits(odd.list, odd.list[:2])
	impl.BitsText(bad.list)
	bad.check(t, "a failing call")
	odd.check(t, "a failing call")
	full := guard(slices.Repeat([]int64{1}, impl.MaxBits))
	impl.AppendBits(full.list, 0, 1)
	full.check(t, "AppendBits at the limit")
}

// Arguments that overlap each other are read only.
func TestBitsOverlap(t *testing.T) {
	g := guard(bitsOf(t, "110100"))
	xor, code := impl.XorBits(g.list[:5], g.list[1:])
	if code != impl.ErrNone || !slices.Equal(xor, bitsOf(t, "01110")) {
		t.Error("XorBits", xor, code)
	}
	head, code := impl.AppendBits(g.list[:2], 0, 3)
	if code != impl.ErrNone || !slices.Equal(head, bitsOf(t, "11000")) {
		t.Error("AppendBits", head, code)
	}
	g.check(t, "an overlapping call")
}
