package tests

import (
	"cmp"
	"math"
	"math/big"
	"math/rand"
	"slices"
	"strconv"
	"testing"

	"loop.example/g00879/impl"
)

// The oracles below do not use what they check: the order of a stream is found by sorting, bursts
// are looked for at all places, and damage is counted.

// member is an element of the word of a block.
type member struct {
	block, element int64
}

// oracleSizes are the numbers of data elements of the blocks.
func oracleSizes(l impl.Layout) []int64 {
	var sizes []int64
	for k := range l.Count {
		sizes = append(sizes, (l.Data+k)/l.Count)
	}
	return sizes
}

func oracleCodes(l impl.Layout) []impl.Code {
	var codes []impl.Code
	for _, size := range oracleSizes(l) {
		codes = append(codes, impl.Code{Field: l.Field, Length: size + l.Checks, Checks: l.Checks})
	}
	return codes
}

// oracleOrder sorts the elements of all words: those of the data come before check elements, then
// those with a lesser number among them, then those of an earlier block.
func oracleOrder(l impl.Layout) []member {
	type entry struct {
		check, number int64
		member
	}
	var entries []entry
	for k, size := range oracleSizes(l) {
		for i := range size {
			entries = append(entries, entry{0, i, member{int64(k), i}})
		}
		for i := range l.Checks {
			entries = append(entries, entry{1, i, member{int64(k), size + i}})
		}
	}
	slices.SortFunc(entries, func(a, b entry) int {
		return cmp.Or(cmp.Compare(a.check, b.check), cmp.Compare(a.number, b.number), cmp.Compare(a.block, b.block))
	})
	var order []member
	for _, e := range entries {
		order = append(order, e.member)
	}
	return order
}

// oracleLayout needs a valid field.
func oracleLayout(l impl.Layout) bool {
	if l.Count < 1 || l.Count > 16 || l.Data < l.Count || l.Checks < 1 {
		return false
	}
	total := new(big.Int).Mul(big.NewInt(l.Count), big.NewInt(l.Checks))
	total.Add(total, big.NewInt(l.Data))
	if total.Cmp(big.NewInt(1500)) > 0 {
		return false
	}
	return !slices.ContainsFunc(oracleCodes(l), func(c impl.Code) bool { return !oracleCode(c) })
}

// oracleBurst looks, from every place on, for the first element that is one too many of its word.
func oracleBurst(l impl.Layout) int64 {
	order := oracleOrder(l)
	least := len(order)
	for start := range order {
		var taken [impl.MaxBlocks]int64
		for i, m := range order[start:] {
			taken[m.block]++
			if taken[m.block] > l.Checks/2 {
				least = min(least, i)
				break
			}
		}
	}
	return int64(least)
}

// oracleSums are those of 2 for each damaged index that is no erasure and 1 for each erasure.
func oracleSums(l impl.Layout, damaged, erasures []int64) []int64 {
	order := oracleOrder(l)
	sums := make([]int64, l.Count)
	for _, i := range erasures {
		sums[order[i].block]++
	}
	for _, i := range damaged {
		if !slices.Contains(erasures, i) {
			sums[order[i].block] += 2
		}
	}
	return sums
}

func streamLength(l impl.Layout) int64 {
	return l.Data + l.Count*l.Checks
}

// blockFields are fields of both kinds, small and great ones, and some with another Poly than the
// least one.
func blockFields() []impl.Field {
	return []impl.Field{
		{Prime: 3, Power: 1, Poly: 2}, {Prime: 7, Power: 1, Poly: 3}, {Prime: 23, Power: 1, Poly: 5},
		{Prime: 257, Power: 1, Poly: 3}, {Prime: impl.MaxPrime, Power: 1, Poly: 10},
		{Prime: 2, Power: 3, Poly: 13}, {Prime: 2, Power: 4, Poly: 19},
		{Prime: 2, Power: impl.MaxPower, Poly: 285}, {Prime: 2, Power: impl.MaxPower, Poly: 501},
	}
}

// layoutsWith have these numbers of check elements, each number of blocks, and the least and the
// greatest data, data that the number of blocks divides, and data that it does not.
func layoutsWith(f impl.Field, checks ...int64) []impl.Layout {
	var layouts []impl.Layout
	longest := min(oracleSize(f)-1, impl.MaxWord)
	for count := int64(1); count <= impl.MaxBlocks; count++ {
		for _, checks := range checks {
			most := min(count*(longest-checks), impl.MaxStream-count*checks)
			for _, data := range []int64{count, count + 1, 2*count - 1, 2 * count, 2*count + (count+1)/2, 4*count + 1, most - 1, most} {
				l := impl.Layout{Field: f, Data: data, Checks: checks, Count: count}
				if oracleLayout(l) && !slices.Contains(layouts, l) {
					layouts = append(layouts, l)
				}
			}
		}
	}
	return layouts
}

// sampleLayouts are many, so that only a look at each is possible.
func sampleLayouts() []impl.Layout {
	var layouts []impl.Layout
	for _, f := range blockFields() {
		layouts = append(layouts, layoutsWith(f, 1, 2, 3, 4, 9, 63, 64)...)
	}
	return layouts
}

// shortLayouts have streams that are short enough to be decoded many times.
func shortLayouts() []impl.Layout {
	var layouts []impl.Layout
	for _, f := range blockFields() {
		for _, l := range layoutsWith(f, 1, 2, 3, 4, 5) {
			if streamLength(l) <= 160 {
				layouts = append(layouts, l)
			}
		}
	}
	return layouts
}

// thinned are some of those layouts whose streams are not longer than a length. Of small fields,
// which are fast, it keeps more.
func thinned(source *rand.Rand, layouts []impl.Layout, length int64) []impl.Layout {
	return slices.DeleteFunc(layouts, func(l impl.Layout) bool {
		return streamLength(l) > length || source.Intn(100) >= 15 && source.Int63n(oracleSize(l.Field)) >= 20
	})
}

// someLayouts are few of the short ones, and some of the others.
func someLayouts(source *rand.Rand) []impl.Layout {
	layouts := greatLayouts()
	for _, l := range shortLayouts() {
		if source.Intn(8) == 0 {
			layouts = append(layouts, l)
		}
	}
	return layouts
}

// greatLayouts have long streams, some as long as possible, with long words or many check elements.
func greatLayouts() []impl.Layout {
	one := impl.Field{Prime: 257, Power: 1, Poly: 3}
	two := impl.Field{Prime: 2, Power: impl.MaxPower, Poly: 285}
	return []impl.Layout{
		{Field: one, Data: 191, Checks: 64, Count: 1},
		{Field: one, Data: 476, Checks: 64, Count: 16},
		{Field: one, Data: 1482, Checks: 3, Count: 6},
		{Field: two, Data: 493, Checks: 8, Count: 2},
		{Field: two, Data: 492, Checks: 63, Count: 16},
		{Field: two, Data: 1275, Checks: 25, Count: 9},
		{Field: two, Data: 900, Checks: 33, Count: 7},
	}
}

// sending is a stream as it is sent, with the words and the data that are in it.
type sending struct {
	layout impl.Layout
	data   []int64
	words  [][]int64
	stream []int64
}

// joined is the stream with these words.
func joined(l impl.Layout, words [][]int64) []int64 {
	var stream []int64
	for _, m := range oracleOrder(l) {
		stream = append(stream, words[m.block][m.element])
	}
	return stream
}

// gathered are the indices in the stream of elements of each word.
func gathered(l impl.Layout, lists [][]int64) []int64 {
	var indices []int64
	for index, m := range oracleOrder(l) {
		if slices.Contains(lists[m.block], m.element) {
			indices = append(indices, int64(index))
		}
	}
	return indices
}

func sendingOf(t *testing.T, l impl.Layout, data []int64) sending {
	t.Helper()
	s := sending{layout: l, data: data}
	for _, c := range oracleCodes(l) {
		part := c.Length - c.Checks
		s.words = append(s.words, goodWord(t, "EncodeWord", c)(impl.EncodeWord(c, data[:part])))
		data = data[part:]
	}
	s.stream = joined(l, s.words)
	return s
}

func someSending(t *testing.T, l impl.Layout, source *rand.Rand) sending {
	t.Helper()
	return sendingOf(t, l, randomList(l.Field, source, l.Data))
}

// comesBack fails unless the data that were sent are decoded, with the number of changes.
func (s sending) comesBack(t *testing.T, stream, erasures []int64) {
	t.Helper()
	data, changed, code := impl.DecodeStream(s.layout, stream, erasures)
	if code != impl.ErrNone || !slices.Equal(data, s.data) || changed != oracleDistance(stream, s.stream) {
		t.Fatal("DecodeStream", s.layout, stream, erasures, "yields", data, changed, code, "and not", s.data, oracleDistance(stream, s.stream))
	}
}

func isLost(t *testing.T, l impl.Layout, stream, erasures []int64) {
	t.Helper()
	data, changed, code := impl.DecodeStream(l, stream, erasures)
	if code != impl.ErrDamage || len(data) != 0 || changed != 0 {
		t.Fatal("DecodeStream", l, stream, erasures, "yields", data, changed, code)
	}
}

// hit has the indices of each word that are wrong, and those that are erased.
type hit struct {
	wrong, erased [][]int64
}

func noHit(l impl.Layout) hit {
	return hit{make([][]int64, l.Count), make([][]int64, l.Count)}
}

// parted are two lists of random elements of a list that have none in common.
func parted(source *rand.Rand, list []int64, one, two int64) (a, b []int64) {
	list = slices.Clone(list)
	source.Shuffle(len(list), func(i, j int) { list[i], list[j] = list[j], list[i] })
	return slices.Sorted(slices.Values(list[:one])), slices.Sorted(slices.Values(list[one : one+two]))
}

// damaged are three streams with a hit: the erased elements are all right, all wrong, and as it
// comes.
func (s sending) damaged(source *rand.Rand, h hit) [][]int64 {
	var lists [3][][]int64
	for k, c := range oracleCodes(s.layout) {
		word := changedAt(c, source, s.words[k], h.wrong[k])
		mixed := slices.Clone(word)
		for _, i := range h.erased[k] {
			mixed[i] = source.Int63n(oracleSize(c.Field))
		}
		lists[0] = append(lists[0], word)
		lists[1] = append(lists[1], changedAt(c, source, word, h.erased[k]))
		lists[2] = append(lists[2], mixed)
	}
	return [][]int64{joined(s.layout, lists[0]), joined(s.layout, lists[1]), joined(s.layout, lists[2])}
}

func (s sending) bears(t *testing.T, source *rand.Rand, h hit) {
	t.Helper()
	for _, stream := range s.damaged(source, h) {
		s.comesBack(t, stream, gathered(s.layout, h.erased))
	}
}

func (s sending) bearsNot(t *testing.T, source *rand.Rand, h hit) {
	t.Helper()
	for _, stream := range s.damaged(source, h) {
		isLost(t, s.layout, stream, gathered(s.layout, h.erased))
	}
}

// someBlocks are each block alone for a few of them, several, and all.
func someBlocks(l impl.Layout, source *rand.Rand) [][]int64 {
	all := numbersUpTo(l.Count)
	lists := [][]int64{{0}, {l.Count - 1}, {source.Int63n(l.Count)}, all}
	if l.Count > 2 {
		several, _ := parted(source, all, 2+source.Int63n(l.Count-2), 0)
		lists = append(lists, several)
	}
	return lists
}

func TestBlockLimits(t *testing.T) {
	if impl.MaxBlocks != 16 || impl.MaxStream != 1500 {
		t.Error("limits", impl.MaxBlocks, impl.MaxStream)
	}
}

func goodCodes(t *testing.T, l impl.Layout) []impl.Code {
	t.Helper()
	codes, code := impl.BlockCodes(l)
	if code != impl.ErrNone || !impl.IsLayout(l) {
		t.Fatal("BlockCodes", l, "yields", codes, code)
	}
	return codes
}

// goodStream checks EncodeStream against the words of chapter 4 in the order of the oracle.
func goodStream(t *testing.T, s sending) {
	t.Helper()
	stream, code := impl.EncodeStream(s.layout, s.data)
	if code != impl.ErrNone || !slices.Equal(stream, s.stream) {
		t.Fatal("EncodeStream", s.layout, s.data, "yields", stream, code, "and not", s.stream)
	}
}

func splitsInto(t *testing.T, l impl.Layout, stream []int64, want [][]int64) {
	t.Helper()
	words, code := impl.SplitStream(l, stream)
	if code != impl.ErrNone || !slices.EqualFunc(words, want, slices.Equal[[]int64]) {
		t.Fatal("SplitStream", l, stream, "yields", words, code, "and not", want)
	}
}

func hasIndex(t *testing.T, l impl.Layout, block, element, want int64) {
	t.Helper()
	if index, code := impl.StreamIndex(l, block, element); code != impl.ErrNone || index != want {
		t.Fatal("StreamIndex", l, block, element, "yields", index, code, "and not", want)
	}
}

func hasBurst(t *testing.T, l impl.Layout, want int64) {
	t.Helper()
	if bound, code := impl.BurstBound(l); code != impl.ErrNone || bound != want {
		t.Fatal("BurstBound", l, "yields", bound, code, "and not", want)
	}
}

func damages(t *testing.T, l impl.Layout, damaged, erasures []int64, want bool) {
	t.Helper()
	if within, code := impl.StreamDamage(l, damaged, erasures); code != impl.ErrNone || within != want {
		t.Fatal("StreamDamage", l, damaged, erasures, "yields", within, code, "and not", want)
	}
}

// The example of the document, and the stream that belongs to it.
func TestBlockExample(t *testing.T) {
	l := impl.Layout{Field: fieldOf(t, 7), Data: 5, Checks: 2, Count: 2}
	codes := goodCodes(t, l)
	if want := []impl.Code{{Field: l.Field, Length: 4, Checks: 2}, {Field: l.Field, Length: 5, Checks: 2}}; !slices.Equal(codes, want) {
		t.Error("BlockCodes", codes)
	}
	order := []member{{0, 0}, {1, 0}, {0, 1}, {1, 1}, {1, 2}, {0, 2}, {1, 3}, {0, 3}, {1, 4}}
	for index, m := range order {
		hasIndex(t, l, m.block, m.element, int64(index))
	}
	splitsInto(t, l, []int64{0, 1, 2, 3, 4, 5, 6, 5, 4}, [][]int64{{0, 2, 5, 5}, {1, 3, 4, 6, 4}})
	// 1, 0, 2, 2 is the code word with the message 1, 0.
	goodStream(t, sending{layout: l, data: []int64{1, 0, 0, 0, 0}, stream: []int64{1, 0, 0, 0, 0, 2, 0, 2, 0}})
}

// Three blocks that are worked out by hand, over the elements 0 to 6 with the generator 3: the
// words 3, 6, 4 and 5, 3, 2 are 0 at 3 and at 2, and 1, 0, 2, 2 is the word of the example.
func TestBlocksByHand(t *testing.T) {
	l := impl.Layout{Field: fieldOf(t, 7), Data: 4, Checks: 2, Count: 3}
	s := sending{layout: l, data: []int64{3, 5, 1, 0}, stream: []int64{3, 5, 1, 0, 6, 3, 2, 4, 2, 2}}
	goodStream(t, s)
	splitsInto(t, l, s.stream, [][]int64{{3, 6, 4}, {5, 3, 2}, {1, 0, 2, 2}})
	s.comesBack(t, s.stream, nil)
	s.comesBack(t, []int64{0, 5, 1, 0, 6, 3, 2, 4, 2, 2}, nil)
	s.comesBack(t, []int64{3, 5, 6, 0, 6, 3, 2, 0, 0, 2}, nil)
	s.comesBack(t, []int64{0, 0, 0, 0, 0, 0, 2, 4, 2, 2}, []int64{0, 1, 2, 3, 4, 5})
	s.comesBack(t, s.stream, []int64{0, 1, 2, 3, 4, 5})
	isLost(t, l, []int64{3, 5, 0, 0, 6, 3, 2, 4, 2, 2}, []int64{3})
	isLost(t, l, s.stream, []int64{0, 4, 7})
	hasBurst(t, l, 1)
	damages(t, l, nil, nil, true)
	damages(t, l, []int64{0, 1, 2}, nil, true)
	damages(t, l, []int64{0, 4}, nil, false)
	damages(t, l, []int64{2, 3}, nil, false)
	damages(t, l, []int64{2, 3}, []int64{2}, false)
	damages(t, l, []int64{2, 3}, []int64{2, 3}, true)
	damages(t, l, []int64{2, 3}, []int64{2, 3, 9}, false)
	damages(t, l, nil, []int64{0, 1, 2, 3, 4, 5}, true)
	damages(t, l, nil, []int64{2, 3, 6}, false)
}

func TestBurstBoundByHand(t *testing.T) {
	for _, x := range []struct{ size, data, checks, count, want int64 }{
		{7, 5, 2, 2, 1}, {7, 4, 2, 2, 2}, {7, 6, 2, 3, 3}, {7, 7, 2, 3, 1}, {7, 8, 2, 3, 2},
		// A single element of a word with one check element is too many.
		{7, 5, 1, 1, 0}, {7, 5, 1, 2, 0}, {257, 33, 1, 16, 0},
		// An odd number of check elements allows no more than the even one before it.
		{8, 6, 3, 3, 3}, {8, 7, 3, 3, 1}, {16, 10, 5, 1, 2},
		// One block has all elements next to one another.
		{7, 2, 4, 1, 2}, {16, 10, 4, 1, 2}, {257, 100, 64, 1, 32},
		// Two elements too many are a row and the rest of the data apart.
		{8, 3, 4, 2, 3}, {8, 4, 4, 2, 4}, {16, 17, 4, 16, 17}, {16, 31, 4, 16, 31}, {16, 32, 4, 16, 32},
		{16, 16, 2, 16, 16}, {16, 17, 2, 16, 1}, {16, 31, 2, 16, 15}, {16, 32, 2, 16, 16},
		{257, 476, 64, 16, 31*16 + 12},
	} {
		hasBurst(t, impl.Layout{Field: fieldOf(t, x.size), Data: x.data, Checks: x.checks, Count: x.count}, x.want)
	}
}

func TestIsLayoutOfSamples(t *testing.T) {
	t.Parallel()
	counts := map[int64]int{}
	for _, l := range sampleLayouts() {
		if !impl.IsLayout(l) {
			t.Error("a layout is rejected:", l)
		}
		if l.Data%l.Count != 0 {
			counts[l.Count]++
		}
	}
	for count := int64(2); count <= impl.MaxBlocks; count++ {
		if counts[count] == 0 {
			t.Error("no layout of", count, "blocks has data that this does not divide")
		}
	}
	for _, l := range greatLayouts() {
		if !impl.IsLayout(l) {
			t.Error("a layout is rejected:", l)
		}
	}
}

// All layouts over small fields, and beyond what they allow.
func TestIsLayoutEverywhere(t *testing.T) {
	t.Parallel()
	for _, size := range []int64{3, 5, 8, 13, 16} {
		f := fieldOf(t, size)
		accepted := 0
		for count := int64(-2); count <= impl.MaxBlocks+2; count++ {
			for checks := int64(-2); checks <= size+1; checks++ {
				for data := int64(-2); data <= (size+1)*impl.MaxBlocks; data++ {
					l := impl.Layout{Field: f, Data: data, Checks: checks, Count: count}
					got := impl.IsLayout(l)
					if got != oracleLayout(l) {
						t.Fatal("IsLayout", l, got)
					}
					if got {
						accepted++
					}
				}
			}
		}
		if accepted == 0 {
			t.Error(f, "has no layouts")
		}
	}
}

// Each number at its own limit and one further, over great fields.
func TestIsLayoutAtTheLimits(t *testing.T) {
	t.Parallel()
	for _, size := range []int64{64, 67, 128, 251, 256, 257, 1021} {
		f := fieldOf(t, size)
		longest := min(size-1, impl.MaxWord)
		for count := int64(0); count <= impl.MaxBlocks+1; count++ {
			for _, checks := range []int64{-1, 0, 1, 2, 3, 9, 61, 62, 63, 64, 65, 66, 128} {
				for _, middle := range []int64{0, 1, count, 2 * count, count * (longest - checks), impl.MaxStream - count*checks, impl.MaxStream} {
					for data := middle - 2; data <= middle+2; data++ {
						l := impl.Layout{Field: f, Data: data, Checks: checks, Count: count}
						if got := impl.IsLayout(l); got != oracleLayout(l) {
							t.Fatal("IsLayout", l, got)
						}
					}
				}
			}
		}
	}
}

func TestIsLayoutByHand(t *testing.T) {
	seven, great := fieldOf(t, 7), fieldOf(t, 1021)
	for _, x := range []struct {
		field               impl.Field
		data, checks, count int64
		want                bool
	}{
		{seven, 5, 2, 0, false}, {seven, 5, 2, 1, false}, {seven, 5, 2, 2, true}, {seven, 4, 2, 1, true},
		{seven, 16, 1, 16, true}, {seven, 15, 1, 16, false}, {seven, 17, 1, 17, false}, {seven, 6, 2, 6, true}, {seven, 5, 2, 6, false},
		// The stream has 1500 elements, and one more.
		{great, 476, 64, 16, true}, {great, 477, 64, 16, false}, {great, 1494, 1, 6, true}, {great, 1495, 1, 6, false},
		{great, 1484, 1, 16, true}, {great, 1485, 1, 16, false}, {great, 1500, 0, 16, false},
		// The longer words have an element more than a word may have, the shorter ones do not.
		{seven, 8, 2, 2, true}, {seven, 9, 2, 2, false}, {seven, 63, 2, 16, true}, {seven, 65, 2, 16, false}, {seven, 64, 2, 16, true},
		{great, 500, 5, 2, true}, {great, 501, 5, 2, false}, {great, 1249, 5, 5, true}, {great, 1250, 5, 5, true}, {great, 1251, 5, 5, false},
		{great, 191, 64, 1, true}, {great, 192, 64, 1, false}, {great, 190, 65, 1, false}, {great, 200, 0, 1, false}, {great, 200, -1, 1, false},
		{impl.Field{Prime: 7, Power: 1, Poly: 5}, 5, 2, 2, false}, {impl.Field{}, 5, 2, 2, false},
	} {
		if l := (impl.Layout{Field: x.field, Data: x.data, Checks: x.checks, Count: x.count}); impl.IsLayout(l) != x.want {
			t.Error("IsLayout", l, "is not", x.want)
		}
	}
}

// Numbers whose sums and products do not fit, among them some that are small again when they wrap
// around.
func wrappingLayouts(f impl.Field) []impl.Layout {
	var layouts []impl.Layout
	numbers := slices.Concat(extremes, []int64{-5, -2, 0, 1, 2, 5, 16, 100, 1 << 60, 1<<60 + 1, 1 << 61, 1 << 58, math.MinInt64 + 100})
	for _, data := range numbers {
		for _, checks := range numbers {
			for _, count := range numbers {
				l := impl.Layout{Field: f, Data: data, Checks: checks, Count: count}
				if !oracleLayout(l) {
					layouts = append(layouts, l)
				}
			}
		}
	}
	return layouts
}

func TestIsLayoutExtremes(t *testing.T) {
	t.Parallel()
	for _, size := range []int64{3, 256, 257} {
		for _, l := range wrappingLayouts(fieldOf(t, size)) {
			returns(t, "IsLayout", func() {
				if impl.IsLayout(l) {
					t.Fatal("no layout, but accepted:", l)
				}
			})
		}
	}
}

func TestBlockCodes(t *testing.T) {
	t.Parallel()
	for _, l := range sampleLayouts() {
		codes := goodCodes(t, l)
		if !slices.Equal(codes, oracleCodes(l)) {
			t.Fatal("BlockCodes", l, "yields", codes)
		}
		data := int64(0)
		for k, c := range codes {
			data += c.Length - c.Checks
			if !impl.IsCode(c) || k > 0 && c.Length < codes[k-1].Length || c.Length > codes[0].Length+1 {
				t.Fatal("BlockCodes", l, "yields", codes)
			}
		}
		if data != l.Data {
			t.Fatal("BlockCodes", l, "yields", codes, "with", data, "elements of the data")
		}
	}
}

// Every element has one index, no two have the same, all indices are taken, and the order is that
// of the chapter.
func checkOrder(t *testing.T, l impl.Layout) {
	t.Helper()
	taken := map[int64]bool{}
	for k, c := range goodCodes(t, l) {
		for i := range c.Length {
			index := good(t, "StreamIndex")(impl.StreamIndex(l, int64(k), i))
			if index < 0 || index >= streamLength(l) || taken[index] || index < l.Data != (i < c.Length-c.Checks) {
				t.Fatal("StreamIndex", l, k, i, "yields", index)
			}
			taken[index] = true
		}
	}
	if int64(len(taken)) != streamLength(l) {
		t.Fatal("StreamIndex", l, "yields", len(taken), "indices")
	}
	for index, m := range oracleOrder(l) {
		hasIndex(t, l, m.block, m.element, int64(index))
	}
}

func TestStreamIndex(t *testing.T) {
	t.Parallel()
	for _, l := range slices.Concat(shortLayouts(), greatLayouts()) {
		checkOrder(t, l)
	}
}

// The first elements and the last ones of the data and of the check elements of each block.
func TestStreamIndexOfSamples(t *testing.T) {
	t.Parallel()
	source := rand.New(rand.NewSource(150))
	for _, l := range sampleLayouts() {
		if source.Intn(3) > 0 {
			continue
		}
		order := oracleOrder(l)
		for k, size := range oracleSizes(l) {
			for _, i := range []int64{0, size - 1, size, size + l.Checks - 1, source.Int63n(size + l.Checks)} {
				hasIndex(t, l, int64(k), i, int64(slices.Index(order, member{int64(k), i})))
			}
		}
	}
}

// The blocks of an encoded stream are code words, their data are consecutive parts of the data, and
// SplitStream gives these words back.
func TestEncodeStream(t *testing.T) {
	t.Parallel()
	source := rand.New(rand.NewSource(151))
	for _, l := range slices.Concat(shortLayouts(), greatLayouts()) {
		s := someSending(t, l, source)
		goodStream(t, s)
		words, code := impl.SplitStream(l, s.stream)
		if code != impl.ErrNone || len(words) != int(l.Count) {
			t.Fatal("SplitStream", l, "yields", words, code)
		}
		var data []int64
		for k, c := range goodCodes(t, l) {
			if !isList(l.Field, words[k], c.Length) || !oracleCodeWord(c, words[k]) {
				t.Fatal("EncodeStream", l, s.data, "has", words[k], "which is no code word")
			}
			data = append(data, goodMessage(t, c, words[k])...)
		}
		if !slices.Equal(data, s.data) {
			t.Fatal("EncodeStream", l, s.data, "has the data", data)
		}
	}
}

func TestEncodeStreamOfSpecialData(t *testing.T) {
	t.Parallel()
	source := rand.New(rand.NewSource(152))
	for _, l := range someLayouts(source) {
		zeros := make([]int64, l.Data)
		for _, data := range [][]int64{zeros, slices.Repeat([]int64{oracleSize(l.Field) - 1}, int(l.Data)), with(zeros, 0, 1), with(zeros, int(l.Data)-1, 1), with(zeros, source.Intn(int(l.Data)), 1)} {
			s := sendingOf(t, l, data)
			goodStream(t, s)
			s.comesBack(t, s.stream, nil)
		}
	}
}

// Any stream is split, not only that of code words, and the words have all of it.
func TestSplitStream(t *testing.T) {
	t.Parallel()
	source := rand.New(rand.NewSource(153))
	for _, l := range sampleLayouts() {
		if source.Intn(2) > 0 {
			continue
		}
		var words [][]int64
		for _, c := range oracleCodes(l) {
			words = append(words, randomList(l.Field, source, c.Length))
		}
		splitsInto(t, l, joined(l, words), words)
	}
}

// Data come back from a stream that is not damaged, with any erasures that its words bear.
func TestStreamsWithoutDamage(t *testing.T) {
	t.Parallel()
	source := rand.New(rand.NewSource(154))
	for _, l := range slices.Concat(shortLayouts(), greatLayouts()) {
		s := someSending(t, l, source)
		s.comesBack(t, s.stream, nil)
		s.comesBack(t, s.stream, []int64{})
		s.comesBack(t, s.stream, []int64{source.Int63n(streamLength(l))})
	}
}

// Promise 7, for every number of errors and erasures that the bound allows: in one block, in
// several and in all of them.
func TestStreamsWithinTheBounds(t *testing.T) {
	for at, f := range blockFields() {
		t.Run(strconv.Itoa(at), func(t *testing.T) {
			t.Parallel()
			source := rand.New(rand.NewSource(155 + int64(at)))
			for _, l := range thinned(source, layoutsWith(f, 1, 2, 3, 4, 5, 6), 100) {
				s := someSending(t, l, source)
				for _, n := range countsWithinTheBound(oracleCodes(l)[0]) {
					for _, blocks := range someBlocks(l, source) {
						h := noHit(l)
						for _, k := range blocks {
							h.wrong[k], h.erased[k] = parted(source, numbersUpTo(oracleCodes(l)[k].Length), n.wrong, n.erased)
						}
						stream := s.damaged(source, h)[source.Intn(3)]
						s.comesBack(t, stream, gathered(l, h.erased))
					}
				}
			}
		})
	}
}

// someCounts are at the bound of a word, or anywhere within it.
func someCounts(c impl.Code, source *rand.Rand) counts {
	wrong := source.Int63n(c.Checks/2 + 1)
	erased := c.Checks - 2*wrong
	if source.Intn(2) == 0 {
		erased = source.Int63n(erased + 1)
	}
	return counts{wrong, erased}
}

// Each word has its own numbers of errors and erasures, and some words have none.
func TestStreamsOfDifferentDamages(t *testing.T) {
	t.Parallel()
	source := rand.New(rand.NewSource(165))
	for _, l := range slices.Concat(someLayouts(source), someLayouts(source)) {
		s, h := someSending(t, l, source), noHit(l)
		for k, c := range oracleCodes(l) {
			if n := someCounts(c, source); source.Intn(4) > 0 {
				h.wrong[k], h.erased[k] = parted(source, numbersUpTo(c.Length), n.wrong, n.erased)
			}
		}
		s.bears(t, source, h)
	}
}

// All words are damaged as much as they bear, in data elements only and in check elements only.
func TestStreamsHitInDataOrInChecks(t *testing.T) {
	t.Parallel()
	source := rand.New(rand.NewSource(166))
	for _, l := range someLayouts(source) {
		s := someSending(t, l, source)
		inData, inChecks := noHit(l), noHit(l)
		for k, c := range oracleCodes(l) {
			all, part := numbersUpTo(c.Length), c.Length-c.Checks
			n := someCounts(c, source)
			inChecks.wrong[k], inChecks.erased[k] = parted(source, all[part:], n.wrong, n.erased)
			n.wrong = min(n.wrong, part)
			inData.wrong[k], inData.erased[k] = parted(source, all[:part], n.wrong, min(n.erased, part-n.wrong))
		}
		s.bears(t, source, inData)
		s.bears(t, source, inChecks)
	}
}

// A single element that is wrong, and one that is erased, at every index.
func TestStreamsWithOneElementHit(t *testing.T) {
	t.Parallel()
	source := rand.New(rand.NewSource(167))
	for _, l := range someLayouts(source) {
		if streamLength(l) > 60 {
			continue
		}
		s := someSending(t, l, source)
		for i := range streamLength(l) {
			value := oracleAdd(l.Field, s.stream[i], 1+source.Int63n(oracleSize(l.Field)-1))
			stream := with(s.stream, int(i), value)
			s.comesBack(t, stream, []int64{i})
			if l.Checks > 1 {
				s.comesBack(t, stream, nil)
			} else {
				isLost(t, l, stream, nil)
			}
		}
	}
}

// One word exceeds its bound by one, in each of the blocks, while the others are not damaged or are
// at their bounds. Two code words would differ at no more than Checks indices if it were
// correctable.
func TestStreamsJustBeyondOneBound(t *testing.T) {
	t.Parallel()
	source := rand.New(rand.NewSource(168))
	for _, l := range someLayouts(source) {
		s := someSending(t, l, source)
		codes := oracleCodes(l)
		for k, c := range codes {
			h := noHit(l)
			for other, d := range codes {
				if n := someCounts(d, source); source.Intn(2) == 0 && other != k {
					h.wrong[other], h.erased[other] = parted(source, numbersUpTo(d.Length), n.wrong, n.erased)
				}
			}
			wrong := source.Int63n((c.Checks+1)/2 + 1)
			h.wrong[k], h.erased[k] = parted(source, numbersUpTo(c.Length), wrong, c.Checks+1-2*wrong)
			s.bearsNot(t, source, h)
			// Erasures alone, of elements that are right.
			isLost(t, l, s.stream, gathered(l, onlyIn(l, k, someIndices(c, source, c.Checks+1))))
		}
	}
}

// onlyIn has a list for one block, and empty ones for the others.
func onlyIn(l impl.Layout, block int, list []int64) [][]int64 {
	lists := make([][]int64, l.Count)
	lists[block] = list
	return lists
}

// Beyond the bounds the data are those of the words that CorrectWord yields, or there is an error.
func TestStreamsBeyondTheBounds(t *testing.T) {
	t.Parallel()
	source := rand.New(rand.NewSource(169))
	lost, other := 0, 0
	for _, l := range someLayouts(source) {
		for range 12 {
			s, erasures := someSending(t, l, source), make([][]int64, l.Count)
			words := slices.Clone(s.words)
			for k, c := range oracleCodes(l) {
				if source.Int63n(l.Count) < 2 {
					x := receivedFarBeyondTheBound(t, c, source, source.Int63n(c.Checks+1))
					words[k], erasures[k] = x.word, x.erasures
				}
			}
			if decodesAsItsWords(t, l, words, erasures) {
				other++
			} else {
				lost++
			}
		}
	}
	if lost < 100 || other < 100 {
		t.Error("beyond the bounds are", lost, "streams that are lost and", other, "that become others")
	}
}

func decodesAsItsWords(t *testing.T, l impl.Layout, words, erasures [][]int64) bool {
	t.Helper()
	var data []int64
	stream, indices, changed := joined(l, words), gathered(l, erasures), 0
	for k, c := range oracleCodes(l) {
		corrected, differences, code := impl.CorrectWord(c, words[k], erasures[k])
		if code != impl.ErrNone {
			isLost(t, l, stream, indices)
			return false
		}
		data = append(data, corrected[:c.Length-c.Checks]...)
		changed += len(differences)
	}
	got, count, code := impl.DecodeStream(l, stream, indices)
	if code != impl.ErrNone || !slices.Equal(got, data) || count != int64(changed) {
		t.Fatal("DecodeStream", l, stream, indices, "yields", got, count, code, "and not", data, changed)
	}
	return true
}

// The bound is held against a search through all places, and against its reason: the elements of a
// word are Count apart, but those before and after the last full row are only as far apart as there
// are longer blocks.
func TestBurstBound(t *testing.T) {
	t.Parallel()
	for _, l := range sampleLayouts() {
		want := l.Checks / 2 * l.Count
		if rest := l.Data % l.Count; rest > 0 && l.Checks > 1 {
			want -= l.Count - rest
		}
		if oracle := oracleBurst(l); oracle != want {
			t.Fatal(l, "has the bound", oracle, "and not", want)
		}
		hasBurst(t, l, want)
	}
}

// bursts are streams whose elements from one index on are not those that were sent: all others than
// before, 0, the greatest element, one and the same, as it comes, and other than before at both ends.
func (s sending) bursts(source *rand.Rand, start, length int64) [][]int64 {
	f := s.layout.Field
	sent := s.stream[start : start+length]
	ends := slices.Clone(sent)
	all := make([]int64, length)
	for i, a := range sent {
		all[i] = oracleAdd(f, a, 1+source.Int63n(oracleSize(f)-1))
		if i == 0 || i == len(sent)-1 {
			ends[i] = all[i]
		}
	}
	alike := func(a int64) []int64 { return slices.Repeat([]int64{a}, int(length)) }
	var streams [][]int64
	for _, burst := range [][]int64{all, alike(0), alike(oracleSize(f) - 1), alike(source.Int63n(oracleSize(f))), randomList(f, source, length), ends} {
		streams = append(streams, slices.Concat(s.stream[:start], burst, s.stream[start+length:]))
	}
	return streams
}

// Promise 7: data come back from every burst within the bound, from every index on.
func TestBurstsWithinTheBound(t *testing.T) {
	for at, f := range blockFields() {
		t.Run(strconv.Itoa(at), func(t *testing.T) {
			t.Parallel()
			source := rand.New(rand.NewSource(190 + int64(at)))
			for _, l := range thinned(source, layoutsWith(f, 1, 2, 3, 4, 5), 80) {
				bound := good(t, "BurstBound")(impl.BurstBound(l))
				s := someSending(t, l, source)
				for start := range streamLength(l) - bound + 1 {
					for _, stream := range s.bursts(source, start, bound) {
						s.comesBack(t, stream, nil)
					}
				}
				// Shorter bursts, also at the very end.
				for range 4 {
					length := source.Int63n(bound + 1)
					start := source.Int63n(streamLength(l) - length + 1)
					for _, at := range []int64{start, streamLength(l) - length} {
						s.comesBack(t, s.bursts(source, at, length)[0], nil)
					}
				}
			}
		})
	}
}

// In long streams, some places are at the beginning, at the end, across the end of the data, and
// where a search finds that one element more is too many.
func TestBurstsInLongStreams(t *testing.T) {
	t.Parallel()
	source := rand.New(rand.NewSource(171))
	layouts := greatLayouts()
	for _, f := range blockFields() {
		layouts = append(layouts, layoutsWith(f, 4, 9)...)
	}
	for at, l := range layouts {
		if at >= len(greatLayouts()) && source.Intn(8) > 0 {
			continue
		}
		bound := good(t, "BurstBound")(impl.BurstBound(l))
		s, last := someSending(t, l, source), streamLength(l)-bound
		starts := []int64{0, last, source.Int63n(last + 1), narrowest(t, l, bound)}
		for _, start := range []int64{l.Data - bound/2, l.Data - bound, l.Data - 1, l.Data, l.Data - l.Count} {
			starts = append(starts, max(0, min(start, last)))
		}
		for _, start := range starts {
			streams := s.bursts(source, start, bound)
			s.comesBack(t, streams[0], nil)
			s.comesBack(t, streams[1+source.Intn(len(streams)-1)], nil)
		}
	}
}

// narrowest is the start of a burst of one element more than the bound that has too many elements
// of a word.
func narrowest(t *testing.T, l impl.Layout, bound int64) int64 {
	t.Helper()
	order := oracleOrder(l)
	for start := range streamLength(l) - bound {
		var taken [impl.MaxBlocks]int64
		for _, m := range order[start : start+bound+1] {
			taken[m.block]++
			if taken[m.block] > l.Checks/2 {
				return start
			}
		}
	}
	t.Fatal("BurstBound", l, "yields", bound, "but no burst is too long with one element more")
	return 0
}

// lightWord is a code word that is 0 but at some indices, of which there are one more than Checks:
// the first one is 1 there, and the others follow.
func lightWord(t *testing.T, c impl.Code, indices []int64) []int64 {
	t.Helper()
	word, _, code := impl.CorrectWord(c, placed(c, indices[:1], []int64{1}), indices[1:])
	if code != impl.ErrNone || !oracleCodeWord(c, word) || !slices.Equal(oracleDifferences(word, make([]int64, c.Length)), indices) {
		t.Fatal("CorrectWord", c, indices, "yields", word, code)
	}
	return word
}

// One element more than the bound is too many: at some place, a burst of so many elements makes a
// word that is lost, or as near to another code word.
func TestBurstsBeyondTheBound(t *testing.T) {
	t.Parallel()
	source := rand.New(rand.NewSource(172))
	for _, l := range someLayouts(source) {
		s := someSending(t, l, source)
		bound := good(t, "BurstBound")(impl.BurstBound(l))
		start := narrowest(t, l, bound)
		order := oracleOrder(l)[start : start+bound+1]
		block := order[bound].block
		var hit []int64
		for _, m := range order {
			if m.block == block {
				hit = append(hit, m.element)
			}
		}
		c := oracleCodes(l)[block]
		indices := slices.Clone(hit)
		for _, i := range someIndices(c, source, c.Length) {
			if int64(len(indices)) <= c.Checks && !slices.Contains(indices, i) {
				indices = append(indices, i)
			}
		}
		slices.Sort(indices)
		other := oracleWordSum(c.Field, s.words[block], lightWord(t, c, indices))
		words := slices.Clone(s.words)
		words[block] = slices.Clone(words[block])
		for _, i := range hit {
			words[block][i] = other[i]
		}
		stream := joined(l, words)
		if l.Checks%2 == 1 {
			isLost(t, l, stream, nil)
			continue
		}
		if data, _, code := impl.DecodeStream(l, stream, nil); code != impl.ErrNone || slices.Equal(data, s.data) {
			t.Fatal("DecodeStream", l, stream, "yields", data, code)
		}
	}
}

// hitStream has the indices of a stream that are damaged and those that are erasures; some are both.
type hitStream struct {
	damaged, erasures []int64
}

func hitStreamOf(l impl.Layout, source *rand.Rand, h hit) hitStream {
	erasures := gathered(l, h.erased)
	damaged := gathered(l, h.wrong)
	for _, i := range erasures {
		if source.Intn(2) == 0 {
			damaged = append(damaged, i)
		}
	}
	slices.Sort(damaged)
	return hitStream{damaged, erasures}
}

func oracleBears(l impl.Layout, damaged, erasures []int64) bool {
	return slices.Max(oracleSums(l, damaged, erasures)) <= l.Checks
}

// fullHit is exactly at the bound of every word.
func fullHit(l impl.Layout, source *rand.Rand) hit {
	h := noHit(l)
	for k, c := range oracleCodes(l) {
		wrong := source.Int63n(c.Checks/2 + 1)
		h.wrong[k], h.erased[k] = parted(source, numbersUpTo(c.Length), wrong, c.Checks-2*wrong)
	}
	return h
}

// Words that are exactly at Checks, and one word, in each of the blocks, that exceeds it by one.
func TestStreamDamageAtTheBounds(t *testing.T) {
	t.Parallel()
	source := rand.New(rand.NewSource(173))
	for _, l := range sampleLayouts() {
		if source.Intn(10) > 0 {
			continue
		}
		h := fullHit(l, source)
		x := hitStreamOf(l, source, h)
		if sums := oracleSums(l, x.damaged, x.erasures); slices.Min(sums) != l.Checks || slices.Max(sums) != l.Checks {
			t.Fatal(l, x, "has the damages", sums)
		}
		damages(t, l, x.damaged, x.erasures, true)
		for k, c := range oracleCodes(l) {
			var rest []int64
			for _, i := range numbersUpTo(c.Length) {
				if !slices.Contains(h.wrong[k], i) && !slices.Contains(h.erased[k], i) {
					rest = append(rest, i)
				}
			}
			more := gathered(l, onlyIn(l, k, rest[:1]))[0]
			damages(t, l, x.damaged, inserted(x.erasures, more), false)
			damages(t, l, inserted(x.damaged, more), inserted(x.erasures, more), false)
			damages(t, l, inserted(x.damaged, more), x.erasures, false)
			// Without one erasure, a damaged index counts twice, and one that is not damaged not
			// at all.
			if len(h.erased[k]) > 0 {
				one := gathered(l, onlyIn(l, k, h.erased[k][:1]))[0]
				damages(t, l, inserted(x.damaged, one), without(x.erasures, one), false)
				damages(t, l, without(x.damaged, one), without(x.erasures, one), true)
				damages(t, l, without(x.damaged, one), inserted(without(x.erasures, one), more), true)
			}
		}
	}
}

// inserted has a number at its place in a list that is strictly increasing.
func inserted(list []int64, number int64) []int64 {
	if slices.Contains(list, number) {
		return slices.Clone(list)
	}
	return slices.Sorted(slices.Values(append(slices.Clone(list), number)))
}

func without(list []int64, number int64) []int64 {
	return slices.DeleteFunc(slices.Clone(list), func(a int64) bool { return a == number })
}

// Any damaged indices and any erasures are counted as the oracle counts them.
func TestStreamDamage(t *testing.T) {
	t.Parallel()
	source := rand.New(rand.NewSource(174))
	answers := map[bool]int{}
	for _, l := range slices.Concat(shortLayouts(), greatLayouts()) {
		all := numbersUpTo(streamLength(l))
		damages(t, l, nil, nil, true)
		damages(t, l, []int64{}, []int64{}, true)
		damages(t, l, all, nil, false)
		damages(t, l, nil, all, false)
		damages(t, l, all, all, false)
		for _, i := range []int64{0, l.Data - 1, l.Data, streamLength(l) - 1} {
			damages(t, l, []int64{i}, nil, l.Checks > 1)
			damages(t, l, nil, []int64{i}, true)
			damages(t, l, []int64{i}, []int64{i}, true)
		}
		for range 8 {
			most := min(streamLength(l), 1+l.Count*l.Checks/2)
			damaged, _ := parted(source, all, source.Int63n(most), 0)
			erasures, _ := parted(source, all, source.Int63n(most), 0)
			want := oracleBears(l, damaged, erasures)
			damages(t, l, damaged, erasures, want)
			answers[want]++
		}
	}
	if answers[true] < 100 || answers[false] < 100 {
		t.Error("StreamDamage yields true and false so often:", answers)
	}
}

// The guarantee of the chapter: data come back wherever StreamDamage reports true, whatever the
// values of the damaged elements are.
func TestStreamsThatBearTheirDamage(t *testing.T) {
	t.Parallel()
	source := rand.New(rand.NewSource(175))
	for _, l := range someLayouts(source) {
		s := someSending(t, l, source)
		for range 3 {
			x := hitStreamOf(l, source, fullHit(l, source))
			if source.Intn(3) == 0 {
				x.damaged, _ = parted(source, numbersUpTo(streamLength(l)), source.Int63n(l.Count+1), 0)
			}
			within, code := impl.StreamDamage(l, x.damaged, x.erasures)
			if code != impl.ErrNone || within != oracleBears(l, x.damaged, x.erasures) {
				t.Fatal("StreamDamage", l, x, "yields", within, code)
			}
			if !within {
				continue
			}
			for _, values := range [][]int64{make([]int64, streamLength(l)), slices.Repeat([]int64{oracleSize(l.Field) - 1}, int(streamLength(l))), randomList(l.Field, source, streamLength(l))} {
				stream := slices.Clone(s.stream)
				for _, i := range x.damaged {
					stream[i] = values[i]
				}
				s.comesBack(t, stream, x.erasures)
			}
		}
	}
}

// request has an argument of each kind.
type request struct {
	layout                          impl.Layout
	data, stream, erasures, damaged []int64
	block, element                  int64
}

// goodRequest has arguments with which no function fails.
func goodRequest(t *testing.T, l impl.Layout, source *rand.Rand) request {
	t.Helper()
	s, x := someSending(t, l, source), hitStreamOf(l, source, fullHit(l, source))
	return request{
		layout: l, data: s.data, stream: s.stream, erasures: x.erasures, damaged: x.damaged,
		block: l.Count - 1, element: oracleCodes(l)[l.Count-1].Length - 1,
	}
}

// reply is what a function returns: all results as a text, whether they all are zero values, and
// the code.
type reply struct {
	text  string
	empty bool
	code  int64
}

func listsText(lists [][]int64) string {
	text := ""
	for _, list := range lists {
		text += textOf(list) + "/ "
	}
	return text
}

// calls are the functions of the chapter that return a code.
func (r request) calls() map[string]func() reply {
	single := func(list []int64, code int64) reply { return reply{textOf(list), len(list) == 0, code} }
	number := func(a, code int64) reply { return reply{textOf([]int64{a}), a == 0, code} }
	return map[string]func() reply{
		"BlockCodes": func() reply {
			codes, code := impl.BlockCodes(r.layout)
			text := ""
			for _, c := range codes {
				text += textOf([]int64{c.Field.Prime, c.Field.Power, c.Field.Poly, c.Length, c.Checks}) + "/ "
			}
			return reply{text, len(codes) == 0, code}
		},
		"StreamIndex":  func() reply { return number(impl.StreamIndex(r.layout, r.block, r.element)) },
		"EncodeStream": func() reply { return single(impl.EncodeStream(r.layout, r.data)) },
		"SplitStream": func() reply {
			words, code := impl.SplitStream(r.layout, r.stream)
			return reply{listsText(words), len(words) == 0, code}
		},
		"DecodeStream": func() reply {
			data, changed, code := impl.DecodeStream(r.layout, r.stream, r.erasures)
			return reply{textOf(data) + textOf([]int64{changed}), len(data) == 0 && changed == 0, code}
		},
		"BurstBound": func() reply { return number(impl.BurstBound(r.layout)) },
		"StreamDamage": func() reply {
			within, code := impl.StreamDamage(r.layout, r.damaged, r.erasures)
			return reply{strconv.FormatBool(within), !within, code}
		},
	}
}

// fails checks that the functions with these names return a code and nothing else, all of them if
// there is no name.
func (r request) fails(t *testing.T, want int64, names ...string) {
	t.Helper()
	returns(t, "a function of chapter 7", func() {
		t.Helper()
		for name, call := range r.calls() {
			if len(names) > 0 && !slices.Contains(names, name) {
				continue
			}
			if x := call(); x.code != want || !x.empty {
				t.Fatal(name, r, "yields", x, "instead of the error", want)
			}
		}
	})
}

// succeeds checks that the functions with these names return ErrNone, all of them if there is no
// name.
func (r request) succeeds(t *testing.T, names ...string) {
	t.Helper()
	for name, call := range r.calls() {
		if len(names) > 0 && !slices.Contains(names, name) {
			continue
		}
		if x := call(); x.code != impl.ErrNone {
			t.Fatal(name, r, "yields", x)
		}
	}
}

// invalidLayouts are not valid, each for a reason of its own.
func invalidLayouts() []impl.Layout {
	var layouts []impl.Layout
	for _, f := range blockFields() {
		longest := min(oracleSize(f)-1, impl.MaxWord)
		for _, l := range []impl.Layout{
			{}, {Data: 5, Checks: 1, Count: 0}, {Data: 5, Checks: 1, Count: -1}, {Data: -5, Checks: 1, Count: -1},
			{Data: 17, Checks: 1, Count: 17}, {Data: 1, Checks: 1, Count: 2}, {Data: 15, Checks: 1, Count: 16},
			{Data: 0, Checks: 1, Count: 1}, {Data: -1, Checks: 1, Count: 1}, {Data: 1, Checks: 0, Count: 1},
			{Data: 1, Checks: -1, Count: 1}, {Data: 65, Checks: 65, Count: 1}, {Data: longest, Checks: 1, Count: 1},
			{Data: 477, Checks: 64, Count: 16}, {Data: 1501 - 16, Checks: 1, Count: 16}, {Data: 1500, Checks: 0, Count: 16},
			{Data: 2*(longest-1) + 1, Checks: 1, Count: 2}, {Data: 5*(longest-1) + 4, Checks: 1, Count: 5},
		} {
			l.Field = f
			if !oracleLayout(l) {
				layouts = append(layouts, l)
			}
		}
	}
	for _, f := range brokenFields() {
		layouts = append(layouts, impl.Layout{Field: f, Data: 5, Checks: 2, Count: 2})
	}
	for _, l := range wrappingLayouts(impl.Field{Prime: 257, Power: 1, Poly: 3}) {
		if (l.Data+l.Checks*3+l.Count)%5 == 0 {
			layouts = append(layouts, l)
		}
	}
	return layouts
}

// A layout that is not valid comes before everything else; lists that would fit do not help.
func TestBlockErrorsOfInvalidLayouts(t *testing.T) {
	t.Parallel()
	for _, l := range invalidLayouts() {
		if impl.IsLayout(l) {
			t.Fatal("IsLayout", l)
		}
		data := make([]int64, max(0, min(l.Data, 2000)))
		stream := make([]int64, max(0, min(streamLength(l), 2000)))
		request{layout: l, data: data, stream: stream}.fails(t, impl.ErrInvalid)
		request{layout: l, data: data, stream: stream, erasures: []int64{0}, damaged: []int64{0}}.fails(t, impl.ErrInvalid)
		request{layout: l, data: []int64{}, stream: []int64{}, block: -1, element: -1}.fails(t, impl.ErrInvalid)
		request{layout: l, data: extremes, stream: extremes, erasures: extremes, damaged: extremes, block: math.MaxInt64, element: math.MinInt64}.fails(t, impl.ErrInvalid)
		request{layout: l, data: data, stream: stream, erasures: []int64{1, 0}, damaged: []int64{-1}, block: 3, element: 5}.fails(t, impl.ErrInvalid)
	}
}

// A block or an element that is not there: negative, the number of them, or very great.
func TestBlockErrorsOfPlaces(t *testing.T) {
	t.Parallel()
	source := rand.New(rand.NewSource(176))
	for _, l := range someLayouts(source) {
		r := goodRequest(t, l, source)
		r.succeeds(t)
		check := func(block, element int64) {
			r.block, r.element = block, element
			r.fails(t, impl.ErrRange, "StreamIndex")
		}
		blocks := slices.Concat(extremes, []int64{-2, -l.Count, l.Count, l.Count + 1, impl.MaxBlocks, impl.MaxBlocks + 1, 1 << 32})
		for _, block := range blocks {
			for _, element := range []int64{0, 1, l.Checks, -1, math.MaxInt64, math.MinInt64, streamLength(l)} {
				check(block, element)
			}
		}
		for k, c := range oracleCodes(l) {
			for _, element := range slices.Concat(extremes, []int64{-2, -c.Length, c.Length, c.Length + 1, 2 * c.Length, 1<<32 + 1, streamLength(l)}) {
				if element < 0 || element >= c.Length {
					check(int64(k), element)
				}
			}
			r.block, r.element = int64(k), c.Length-1
			r.succeeds(t, "StreamIndex")
		}
	}
}

// notLists are no lists of so many elements of a field.
func notLists(f impl.Field, list []int64) [][]int64 {
	last := len(list) - 1
	lists := [][]int64{
		nil, {}, list[1:], list[:last], append(slices.Clone(list), 0), append(slices.Clone(list), -1), slices.Concat(list, list),
		make([]int64, len(list)+1), make([]int64, 5000), slices.Repeat([]int64{-1}, len(list)),
	}
	for _, wrong := range noElements(f) {
		lists = append(lists, with(list, 0, wrong), with(list, last, wrong), with(list, last/2, wrong))
	}
	return lists
}

// Data and streams of the wrong length, or with numbers that are no elements. They come before
// erasures, and before damage.
func TestBlockErrorsOfLists(t *testing.T) {
	t.Parallel()
	source := rand.New(rand.NewSource(177))
	for _, l := range someLayouts(source) {
		r := goodRequest(t, l, source)
		for _, broken := range append(notLists(l.Field, r.data), r.stream) {
			r.data = broken
			r.fails(t, impl.ErrRange, "EncodeStream")
		}
		for _, broken := range append(notLists(l.Field, r.stream), r.stream[:l.Data]) {
			for _, erasures := range [][]int64{nil, r.erasures, {-1}, {1, 0}, {streamLength(l)}, numbersUpTo(streamLength(l))} {
				request{layout: l, stream: broken, erasures: erasures}.fails(t, impl.ErrRange, "SplitStream", "DecodeStream")
			}
		}
	}
}

// notIndices are lists that are not strictly increasing indices of a stream.
func notIndices(l impl.Layout) [][]int64 {
	length := streamLength(l)
	last, all := length-1, numbersUpTo(length)
	lists := [][]int64{
		{-1}, {length}, {0, 0}, {1, 0}, {last, last}, {last, 0}, {-1, 0}, {0, -1}, {0, length}, {last, length}, {0, length, 1},
		{0, 1, 1}, {0, 1, 0}, {-2, -1}, {length, length + 1}, {length, 0}, {impl.MaxStream}, {1 << 32}, {0, 1 << 32},
		append(slices.Clone(all), length), append(slices.Clone(all), last), append(slices.Clone(all), 0), append([]int64{0}, all...),
		append([]int64{-1}, all...), with(all, 0, -1), with(all, int(last), length), with(all, 1, 0), make([]int64, 5000), numbersUpTo(impl.MaxStream + 1),
	}
	for _, extreme := range extremes {
		if extreme >= 0 && extreme < length {
			continue
		}
		lists = append(lists, []int64{extreme}, []int64{0, extreme}, []int64{extreme, 0}, []int64{extreme, extreme}, []int64{0, extreme, 1}, with(all, int(last), extreme))
	}
	return lists
}

// Erasures and damaged indices that are not strictly increasing or not indices of the stream. For
// DecodeStream they come before damage.
func TestBlockErrorsOfIndices(t *testing.T) {
	t.Parallel()
	source := rand.New(rand.NewSource(178))
	for _, l := range someLayouts(source) {
		r := goodRequest(t, l, source)
		damaged := with(r.stream, 0, oracleAdd(l.Field, r.stream[0], 1))
		for _, broken := range notIndices(l) {
			for _, stream := range [][]int64{r.stream, damaged, randomList(l.Field, source, streamLength(l))} {
				request{layout: l, stream: stream, erasures: broken}.fails(t, impl.ErrState, "DecodeStream")
			}
			for _, other := range [][]int64{nil, {0}, r.erasures, r.damaged, broken} {
				request{layout: l, erasures: broken, damaged: other}.fails(t, impl.ErrState, "StreamDamage")
				request{layout: l, erasures: other, damaged: broken}.fails(t, impl.ErrState, "StreamDamage")
			}
		}
		// Both ends are indices, and all of them are a list.
		ends := []int64{0, streamLength(l) - 1}
		damages(t, l, nil, ends, l.Count > 1 || l.Checks > 1)
		damages(t, l, ends, ends, l.Count > 1 || l.Checks > 1)
		isLost(t, l, r.stream, numbersUpTo(streamLength(l)))
	}
}

// Nil and empty lists are the same value.
func TestBlocksOfNoIndices(t *testing.T) {
	t.Parallel()
	source := rand.New(rand.NewSource(179))
	for _, l := range someLayouts(source) {
		s := someSending(t, l, source)
		for _, stream := range [][]int64{s.stream, s.bursts(source, 0, streamLength(l))[0]} {
			one := request{layout: l, stream: stream}.calls()
			two := request{layout: l, stream: stream, erasures: []int64{}, damaged: []int64{}, data: []int64{}}.calls()
			for name, call := range one {
				if a, b := call(), two[name](); a != b {
					t.Fatal(name, l, "yields", a, "for nil and", b, "for empty lists")
				}
			}
		}
		none := request{layout: l, data: []int64{}, stream: []int64{}}
		none.fails(t, impl.ErrRange, "EncodeStream", "SplitStream", "DecodeStream")
	}
}

// No argument is changed, and results are new memory.
func TestBlockArgumentsAndResults(t *testing.T) {
	t.Parallel()
	source := rand.New(rand.NewSource(180))
	for _, l := range someLayouts(source) {
		good := goodRequest(t, l, source)
		hit := hitStreamOf(l, source, fullHit(l, source))
		other := someSending(t, l, source).bursts(source, 0, streamLength(l))[0]
		for _, x := range []request{
			good, {layout: l, data: good.data, stream: good.stream}, {layout: l, data: good.data, stream: good.stream, erasures: hit.erasures, damaged: hit.damaged},
			{layout: l, data: other[:l.Data], stream: other}, {layout: l, data: other, stream: good.data, erasures: []int64{1, 0}, damaged: []int64{-1}},
			{layout: l, data: good.data, stream: good.stream, erasures: numbersUpTo(streamLength(l)), damaged: []int64{1, 0}},
			{layout: impl.Layout{}, data: good.data, stream: good.stream, erasures: good.erasures},
		} {
			data, stream, erasures, damaged := guard(x.data), guard(x.stream), guard(x.erasures), guard(x.damaged)
			r := request{x.layout, data.list, stream.list, erasures.list, damaged.list, x.block, x.element}
			for _, call := range r.calls() {
				call()
			}
			for _, argument := range []guarded{data, stream, erasures, damaged} {
				argument.check(t, "a function of chapter 7")
			}
			unshared(t, "EncodeStream", func() []int64 { out, _ := impl.EncodeStream(r.layout, r.data); return out }, data)
			unshared(t, "DecodeStream", func() []int64 { out, _, _ := impl.DecodeStream(r.layout, r.stream, r.erasures); return out }, stream, erasures)
			for k := range l.Count {
				unshared(t, "SplitStream", func() []int64 { return wordOf(r.layout, r.stream, k) }, stream)
			}
		}
	}
}

// wordOf is one word of a stream that is split, or nil.
func wordOf(l impl.Layout, stream []int64, block int64) []int64 {
	words, _ := impl.SplitStream(l, stream)
	if block >= int64(len(words)) {
		return nil
	}
	return words[block]
}

// The words of one call are each in their own memory, and the codes of two calls are.
func TestBlockResultsOfOneCall(t *testing.T) {
	t.Parallel()
	source := rand.New(rand.NewSource(181))
	for _, l := range someLayouts(source) {
		s := someSending(t, l, source)
		for k := range s.words {
			words, _ := impl.SplitStream(l, s.stream)
			scribble(words[k])
			for other := range words {
				if other != k && !slices.Equal(words[other], s.words[other]) {
					t.Fatal("SplitStream", l, "has words in one memory:", k, other)
				}
			}
		}
		splitsInto(t, l, s.stream, s.words)
		first := goodCodes(t, l)
		second := goodCodes(t, l)
		clear(first[:cap(first)])
		if third := goodCodes(t, l); !slices.Equal(second, oracleCodes(l)) || !slices.Equal(third, second) {
			t.Fatal("BlockCodes", l, "has two results in the same memory")
		}
	}
}

// Arguments may be one and the same list.
func TestBlockArgumentsInOneMemory(t *testing.T) {
	t.Parallel()
	for _, l := range []impl.Layout{
		{Field: fieldOf(t, 257), Data: 40, Checks: 10, Count: 3}, {Field: fieldOf(t, 256), Data: 17, Checks: 64, Count: 2}, {Field: fieldOf(t, 1021), Data: 16, Checks: 1, Count: 16},
	} {
		numbers := guard(numbersUpTo(streamLength(l)))
		for _, length := range []int64{0, 1, l.Count, streamLength(l)} {
			one := request{layout: l, stream: numbers.list, data: numbers.list[:l.Data], erasures: numbers.list[:length], damaged: numbers.list[:length]}
			two := request{layout: l, stream: numbersUpTo(streamLength(l)), data: numbersUpTo(l.Data), erasures: numbersUpTo(length), damaged: numbersUpTo(length)}.calls()
			for name, call := range one.calls() {
				if a, b := call(), two[name](); a != b {
					t.Fatal(name, l, "yields", a, "in one memory and", b)
				}
			}
			numbers.check(t, "a function of chapter 7")
		}
	}
}

// No call changes what a later one with another layout yields.
func TestBlocksKeepNoState(t *testing.T) {
	t.Parallel()
	source := rand.New(rand.NewSource(182))
	var list []request
	var first []map[string]reply
	results := func(r request) map[string]reply {
		out := map[string]reply{}
		for name, call := range r.calls() {
			out[name] = call()
		}
		return out
	}
	for _, l := range someLayouts(source) {
		list = append(list, goodRequest(t, l, source))
		first = append(first, results(list[len(list)-1]))
	}
	for i := len(list) - 1; i >= 0; i-- {
		for name, again := range results(list[i]) {
			if again != first[i][name] {
				t.Error(name, list[i], "yields", first[i][name], "and then", again)
			}
		}
	}
}

// Layouts that differ only in the Poly of their fields have different streams.
func TestBlocksOfOtherPolys(t *testing.T) {
	one := impl.Layout{Field: impl.Field{Prime: 2, Power: 8, Poly: 285}, Data: 20, Checks: 5, Count: 3}
	two := impl.Layout{Field: impl.Field{Prime: 2, Power: 8, Poly: 501}, Data: 20, Checks: 5, Count: 3}
	a, b := sendingOf(t, one, numbersUpTo(20)), sendingOf(t, two, numbersUpTo(20))
	goodStream(t, a)
	goodStream(t, b)
	if slices.Equal(a.stream, b.stream) {
		t.Error("EncodeStream", one, two, "yields", a.stream)
	}
}
