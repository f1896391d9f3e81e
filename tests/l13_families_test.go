package tests

import (
	"fmt"
	"math"
	"math/rand"
	"os"
	"os/exec"
	"regexp"
	"slices"
	"strings"
	"sync"
	"testing"

	"loop.example/g00879/impl"
)

// The oracles below do not use what they check: the library and the rules for layouts are typed out
// anew, quotients are found by counting, and the data cells of matrix symbols are counted in drawings.

// libraryTable is the table of the document, with the least Poly of each field.
func libraryTable() []impl.Family {
	return []impl.Family{
		{Name: "tile", Kind: 1, Field: impl.Field{Prime: 2, Power: 4, Poly: 19}, Sizes: []int64{17, 21, 25}, Columns: 0, Levels: []int64{20, 40}},
		{Name: "panel", Kind: 1, Field: impl.Field{Prime: 2, Power: 6, Poly: 67}, Sizes: []int64{17, 21, 25, 29, 33}, Columns: 0, Levels: []int64{15, 30, 60}},
		{Name: "plate", Kind: 1, Field: impl.Field{Prime: 2, Power: 8, Poly: 285}, Sizes: []int64{17, 21, 25, 29, 33, 37, 41}, Columns: 0, Levels: []int64{10, 20, 30, 50}},
		{Name: "stack", Kind: 2, Field: stackedField, Sizes: []int64{4, 6, 8, 12, 16, 24}, Columns: 4, Levels: []int64{25, 50}},
		{Name: "ribbon", Kind: 2, Field: stackedField, Sizes: []int64{3, 4, 5}, Columns: 8, Levels: []int64{30}},
	}
}

var stackedField = impl.Field{Prime: 2, Power: 5, Poly: 37}

var familyName = regexp.MustCompile(`\A[a-z]{1,8}\z`)

// rises reports whether each number of a list is greater than all before it.
func rises(list []int64) bool {
	for i, number := range list {
		for _, before := range list[:i] {
			if before >= number {
				return false
			}
		}
	}
	return true
}

func oracleFamily(f impl.Family) bool {
	if !familyName.MatchString(f.Name) || len(f.Sizes) == 0 || len(f.Sizes) > 8 || len(f.Levels) == 0 || len(f.Levels) > 4 || !rises(f.Sizes) || !rises(f.Levels) {
		return false
	}
	if slices.Min(f.Levels) < 1 || slices.Max(f.Levels) > 80 {
		return false
	}
	switch f.Kind {
	case 1:
		isOther := func(size int64) bool { return !slices.Contains(matrixSizes, size) }
		return f.Field.Prime == 2 && oracleField(f.Field) && f.Columns == 0 && !slices.ContainsFunc(f.Sizes, isOther)
	case 2:
		return f.Field == stackedField && f.Columns >= 1 && f.Columns <= 8 && slices.Min(f.Sizes) >= 3 && slices.Max(f.Sizes) <= 24
	}
	return false
}

// dataCells are the numbers of data cells of all matrix sizes.
var dataCells = sync.OnceValue(func() map[int64]int64 {
	cells := map[int64]int64{}
	for _, size := range matrixSizes {
		cells[size] = drawingOf(size).count('.')
	}
	return cells
})

// quotient is how often a number that is not 0 can be taken from another one.
func quotient(a, b int64) int64 {
	count := int64(0)
	for ; a >= b; a -= b {
		count++
	}
	return count
}

func symbolElements(f impl.Family, size int64) int64 {
	if f.Kind == impl.KindMatrix {
		return quotient(dataCells()[size], int64(oracleWidth(f.Field)))
	}
	elements := int64(0)
	for range size {
		elements += f.Columns
	}
	return elements
}

// symbolLayout is the layout of so many elements, which need not be valid.
func symbolLayout(f impl.Field, elements, percentage int64) impl.Layout {
	l := impl.Layout{Field: f, Count: 1}
	for l.Count*min(oracleSize(f)-1, 255) < elements {
		l.Count++
	}
	l.Checks = quotient(quotient(elements*percentage, 100), l.Count)
	if l.Checks < 2 {
		l.Checks = 2
	}
	if l.Checks > 64 {
		l.Checks = 64
	}
	l.Data = elements
	for range l.Count {
		l.Data -= l.Checks
	}
	return l
}

// isSymbolLayout needs a valid field. Other than oracleLayout, it does not look at that again.
func isSymbolLayout(l impl.Layout) bool {
	if l.Count < 1 || l.Count > 16 || l.Data < l.Count || l.Checks < 1 || l.Checks > 64 || l.Data+l.Count*l.Checks > 1500 {
		return false
	}
	return slices.Max(oracleSizes(l))+l.Checks <= min(oracleSize(l.Field)-1, 255)
}

// oracleLayoutOf needs a valid family.
func oracleLayoutOf(f impl.Family, size, level int64) (impl.Layout, int64) {
	if !slices.Contains(f.Sizes, size) || level < 0 || level >= int64(len(f.Levels)) {
		return impl.Layout{}, impl.ErrRange
	}
	l := symbolLayout(f.Field, symbolElements(f, size), f.Levels[level])
	if !isSymbolLayout(l) {
		return impl.Layout{}, impl.ErrLimit
	}
	return l, impl.ErrNone
}

// oracleSmallest needs a valid family. It has the number of bits of the best segmentation of a message
// instead of that.
func oracleSmallest(f impl.Family, level int64, bits int64) (int64, int64) {
	for _, size := range f.Sizes {
		l, code := oracleLayoutOf(f, size, level)
		if code == impl.ErrRange {
			return 0, code
		}
		if code == impl.ErrNone && l.Data*int64(oracleWidth(f.Field)) >= bits {
			return size, impl.ErrNone
		}
	}
	return 0, impl.ErrNotFound
}

func sameFamily(f, g impl.Family) bool {
	return f.Name == g.Name && f.Kind == g.Kind && f.Field == g.Field && slices.Equal(f.Sizes, g.Sizes) && f.Columns == g.Columns && slices.Equal(f.Levels, g.Levels)
}

func isNoFamily(f impl.Family) bool {
	return sameFamily(f, impl.Family{})
}

func isLibrary(list []impl.Family) bool {
	return slices.EqualFunc(list, libraryTable(), sameFamily)
}

// binaryFields are all fields with the Prime 2.
var binaryFields = sync.OnceValue(func() []impl.Field {
	var fields []impl.Field
	for power := int64(3); power <= 8; power++ {
		for poly := int64(1) << power; poly < 2<<power; poly++ {
			if f := (impl.Field{Prime: 2, Power: power, Poly: poly}); oracleField(f) {
				fields = append(fields, f)
			}
		}
	}
	return fields
})

func isLeast(t *testing.T, f impl.Field) bool { return f == fieldOf(t, oracleSize(f)) }

func matrixFamily(f impl.Field, sizes []int64, levels ...int64) impl.Family {
	return impl.Family{Name: "matrix", Kind: impl.KindMatrix, Field: f, Sizes: sizes, Levels: levels}
}

func stackedFamily(columns int64, sizes []int64, levels ...int64) impl.Family {
	return impl.Family{Name: "stacked", Kind: impl.KindStacked, Field: stackedField, Sizes: sizes, Columns: columns, Levels: levels}
}

// someOf are so many numbers of a list, at most all of them, in their order.
func someOf(source *rand.Rand, list []int64, count int) []int64 {
	some, _ := parted(source, list, int64(min(count, len(list))), 0)
	return some
}

// someFamily is a valid family.
func someFamily(source *rand.Rand) impl.Family {
	name := ""
	for range 1 + source.Intn(8) {
		name += string(rune('a' + source.Intn(26)))
	}
	levels := someOf(source, numbersFrom(1, 81), 1+source.Intn(4))
	f := stackedFamily(1+source.Int63n(8), someOf(source, numbersFrom(3, 25), 1+source.Intn(8)), levels...)
	if source.Intn(2) == 0 {
		fields := binaryFields()
		f = matrixFamily(fields[source.Intn(len(fields))], someOf(source, matrixSizes, 1+source.Intn(7)), levels...)
	}
	f.Name = name
	return f
}

// isFamily holds IsFamily against the oracle, and against what is known of a family.
func isFamily(t *testing.T, f impl.Family, want bool) {
	t.Helper()
	if impl.IsFamily(f) != want || oracleFamily(f) != want {
		t.Fatalf("IsFamily %.300v is not %v", f, want)
	}
}

// checkFamily holds IsFamily against the oracle. It reports whether the family is valid.
func checkFamily(t *testing.T, f impl.Family) bool {
	t.Helper()
	want := oracleFamily(f)
	if impl.IsFamily(f) != want {
		t.Fatalf("IsFamily %.300v yields %v", f, !want)
	}
	return want
}

func hasElementCount(t *testing.T, f impl.Family, size int64, want int64) {
	t.Helper()
	if count, code := impl.ElementCount(f, size); code != impl.ErrNone || count != want {
		t.Fatalf("ElementCount %v %d yields %d and %d, and not %d", f, size, count, code, want)
	}
}

func countsNot(t *testing.T, f impl.Family, size int64, want int64) {
	t.Helper()
	if count, code := impl.ElementCount(f, size); code != want || count != 0 {
		t.Fatalf("ElementCount %.300v %d yields %d and %d instead of the error %d", f, size, count, code, want)
	}
}

// hasNoLayout checks the error of all functions that have a size and a level.
func hasNoLayout(t *testing.T, f impl.Family, size, level int64, want int64) {
	t.Helper()
	l, first := impl.LayoutOf(f, size, level)
	room, second := impl.RoomOf(f, size, level)
	half, third := impl.ErrorRoom(f, size, level)
	if l != (impl.Layout{}) || room != 0 || half != 0 || first != want || second != want || third != want {
		t.Fatalf("%.300v of the size %d and the level %d has %v, %d and %d with %d, %d and %d instead of the error %d", f, size, level, l, room, half, first, second, third, want)
	}
}

// hasLayout checks the layout of a symbol and what follows from it.
func hasLayout(t *testing.T, f impl.Family, size, level int64, want impl.Layout) {
	t.Helper()
	l, code := impl.LayoutOf(f, size, level)
	if code != impl.ErrNone || l != want || !impl.IsLayout(l) {
		t.Fatalf("LayoutOf %v %d %d yields %v and %d, and not %v", f, size, level, l, code, want)
	}
	room, code := impl.RoomOf(f, size, level)
	if code != impl.ErrNone || room != want.Data*int64(oracleWidth(f.Field)) {
		t.Fatalf("RoomOf %v %d %d yields %d and %d", f, size, level, room, code)
	}
	half, code := impl.ErrorRoom(f, size, level)
	if code != impl.ErrNone || half != quotient(want.Checks, 2) {
		t.Fatalf("ErrorRoom %v %d %d yields %d and %d", f, size, level, half, code)
	}
}

// checkSymbol holds the functions with a size and a level against the oracles: a layout has as many
// elements as the symbol, and so have its words. It returns the zero value if there is none.
func checkSymbol(t *testing.T, f impl.Family, size, level int64) impl.Layout {
	t.Helper()
	elements := symbolElements(f, size)
	hasElementCount(t, f, size, elements)
	want, code := oracleLayoutOf(f, size, level)
	if code != impl.ErrNone {
		hasNoLayout(t, f, size, level, code)
		return want
	}
	hasLayout(t, f, size, level, want)
	l, _ := impl.LayoutOf(f, size, level)
	words := int64(0)
	for _, c := range goodCodes(t, l) {
		words += c.Length
	}
	if l.Data+l.Count*l.Checks != elements || words != elements {
		t.Fatalf("%v has not %d elements", l, elements)
	}
	return l
}

// checkFamilySymbols checks all symbols of a family.
func checkFamilySymbols(t *testing.T, f impl.Family, visit func(l impl.Layout, elements, percentage int64)) {
	t.Helper()
	if !checkFamily(t, f) {
		t.Fatalf("%v is not valid", f)
	}
	for _, size := range f.Sizes {
		for level, percentage := range f.Levels {
			visit(checkSymbol(t, f, size, int64(level)), symbolElements(f, size), percentage)
		}
	}
}

func hasSmallest(t *testing.T, f impl.Family, level int64, message string, want int64) {
	t.Helper()
	if size, code := impl.SmallestSize(f, level, message); code != impl.ErrNone || size != want {
		t.Fatalf("SmallestSize %v %d %q yields %d and %d, and not %d", f, level, message, size, code, want)
	}
}

func hasNoSmallest(t *testing.T, f impl.Family, level int64, message string, want int64) {
	t.Helper()
	if size, code := impl.SmallestSize(f, level, message); code != want || size != 0 {
		t.Fatalf("SmallestSize %.300v %d %.60q yields %d and %d instead of the error %d", f, level, message, size, code, want)
	}
}

// checkSmallest holds SmallestSize against the oracle, for a message of so many bits.
func checkSmallest(t *testing.T, f impl.Family, level int64, message string, bits int64) (int64, int64) {
	t.Helper()
	want, code := oracleSmallest(f, level, bits)
	if code != impl.ErrNone {
		hasNoSmallest(t, f, level, message, code)
	} else {
		hasSmallest(t, f, level, message, want)
	}
	return want, code
}

func TestFamilyLimits(t *testing.T) {
	if impl.KindMatrix != 1 || impl.KindStacked != 2 || impl.MaxSizes != 8 || impl.MaxLevels != 4 || impl.MaxColumns != 8 {
		t.Error("limits", impl.KindMatrix, impl.KindStacked, impl.MaxSizes, impl.MaxLevels, impl.MaxColumns)
	}
}

func TestLibrary(t *testing.T) {
	list := impl.Library()
	if !isLibrary(list) {
		t.Errorf("Library yields %v", list)
	}
	for _, f := range list {
		isFamily(t, f, true)
	}
}

func TestFamilyNamed(t *testing.T) {
	for _, want := range libraryTable() {
		name := strings.Clone(want.Name)
		f, code := impl.FamilyNamed(name)
		if code != impl.ErrNone || !sameFamily(f, want) || overlaps(f.Name, name) {
			t.Errorf("FamilyNamed %s yields %v and %d", name, f, code)
		}
	}
}

func TestFamilyNamedOfNothing(t *testing.T) {
	names := []string{"", " ", "x", "matrix", "stacked", "tile\x00", "\x00", "til\xe5", "plates", "families", strings.Repeat("tile", 1<<18)}
	for _, f := range libraryTable() {
		names = append(names, f.Name[1:], f.Name[:1], f.Name[:len(f.Name)-1], f.Name+" ", " "+f.Name, f.Name+f.Name, strings.ToUpper(f.Name), strings.ToUpper(f.Name[:1])+f.Name[1:], f.Name+"\n", f.Name+"a")
	}
	for _, name := range names {
		if f, code := impl.FamilyNamed(name); code != impl.ErrNotFound || !isNoFamily(f) {
			t.Errorf("FamilyNamed %.40q yields %v and %d", name, f, code)
		}
	}
}

// firstCalls are what may come first in a process.
var firstCalls = map[string]func() bool{
	"Library": func() bool { return isLibrary(impl.Library()) },
	"FamilyNamed": func() bool {
		f, code := impl.FamilyNamed("ribbon")
		return code == impl.ErrNone && sameFamily(f, libraryTable()[4]) && isLibrary(impl.Library())
	},
	"no such family": func() bool {
		f, code := impl.FamilyNamed("frame")
		return code == impl.ErrNotFound && isNoFamily(f) && isLibrary(impl.Library())
	},
	"several at once": func() bool {
		var start, together sync.WaitGroup
		failures := make(chan bool, 100)
		start.Add(1)
		for i := range 100 {
			together.Go(func() {
				start.Wait()
				f, code := impl.FamilyNamed(libraryTable()[i%5].Name)
				if code != impl.ErrNone || !sameFamily(f, libraryTable()[i%5]) || !isLibrary(impl.Library()) {
					failures <- true
				}
			})
		}
		start.Done()
		together.Wait()
		return len(failures) == 0
	},
}

// The first call of Library in a process builds what is kept of it: the first calls, and those behind them,
// have the same results, whichever comes first. Each first call has a process of its own.
func TestFirstCalls(t *testing.T) {
	const variable = "FIRST_CALL_OF_LIBRARY"
	if name := os.Getenv(variable); name != "" {
		if !firstCalls[name]() {
			t.Error("the library differs")
		}
		return
	}
	program, err := os.Executable()
	if err != nil {
		t.Fatal(err)
	}
	for name := range firstCalls {
		command := exec.Command(program, "-test.run=^TestFirstCalls$", "-test.count=1")
		command.Env = append(os.Environ(), variable+"="+name)
		if out, err := command.CombinedOutput(); err != nil {
			t.Errorf("after %s as the first call: %v\n%s", name, err, out)
		}
	}
}

// eachFamily gives the families of the library as both functions yield them.
func eachFamily(t *testing.T) [][]impl.Family {
	t.Helper()
	lists := [][]impl.Family{impl.Library(), nil}
	for _, x := range libraryTable() {
		f, code := impl.FamilyNamed(x.Name)
		if code != impl.ErrNone {
			t.Fatal("FamilyNamed", x.Name, code)
		}
		lists[1] = append(lists[1], f)
	}
	return lists
}

// A caller overwrites its families, one list after the other: this changes no other list, neither of the
// same families nor of others, nor what a later call yields.
func TestLibraryIsNew(t *testing.T) {
	lists := slices.Concat(eachFamily(t), eachFamily(t))
	for i, list := range lists {
		for k := range list {
			if want := libraryTable(); !sameFamily(list[k], want[k]) {
				t.Fatalf("%v has changed", list[k])
			}
			scribble(list[k].Sizes)
			if !slices.Equal(list[k].Levels, libraryTable()[k].Levels) {
				t.Fatalf("%v has its lists in the same memory", list[k])
			}
			scribble(list[k].Levels)
		}
		for k := range list[:cap(list)] {
			list[:cap(list)][k] = impl.Family{Name: "other", Kind: filler, Columns: filler}
		}
		for _, other := range slices.Concat(lists[i+1:], eachFamily(t)) {
			if !isLibrary(other) {
				t.Fatalf("%v has changed with another list", other)
			}
		}
	}
}

// Appending to a list of one family does not reach another one.
func TestLibraryListsGrowAlone(t *testing.T) {
	for _, list := range eachFamily(t) {
		for k := range list {
			list[k].Sizes = append(list[k].Sizes, filler)
			list[k].Levels = append(list[k].Levels, filler)
		}
		for k, want := range libraryTable() {
			if !slices.Equal(list[k].Sizes, append(want.Sizes, filler)) || !slices.Equal(list[k].Levels, append(want.Levels, filler)) {
				t.Errorf("%v has changed", list[k])
			}
		}
	}
}

// Several callers overwrite their families at the same time.
func TestLibraryAtOnce(t *testing.T) {
	t.Parallel()
	var together sync.WaitGroup
	for range 8 {
		together.Go(func() {
			for range 200 {
				list := impl.Library()
				if !isLibrary(list) {
					t.Errorf("Library yields %v", list)
					return
				}
				for _, f := range list {
					scribble(f.Sizes)
					scribble(f.Levels)
				}
			}
		})
	}
	together.Wait()
}

// twoFamilies are one of each kind.
func twoFamilies() []impl.Family {
	return []impl.Family{
		matrixFamily(impl.Field{Prime: 2, Power: 8, Poly: 285}, []int64{17, 25, 41}, 1, 40, 80),
		stackedFamily(5, []int64{3, 10, 24}, 1, 40, 80),
	}
}

func TestIsFamilyOfSomeFamilies(t *testing.T) {
	t.Parallel()
	source := rand.New(rand.NewSource(601))
	isFamily(t, impl.Family{}, false)
	for _, f := range twoFamilies() {
		isFamily(t, f, true)
	}
	for range 3000 {
		isFamily(t, someFamily(source), true)
	}
}

// Names of all lengths, with all bytes at all places.
func TestIsFamilyOfEveryName(t *testing.T) {
	t.Parallel()
	for _, f := range twoFamilies() {
		for length := range 300 {
			f.Name = strings.Repeat("q", length)
			isFamily(t, f, length >= 1 && length <= 8)
		}
		f.Name = strings.Repeat("q", 1<<20)
		isFamily(t, f, false)
		for length := 1; length <= 9; length++ {
			for at := range length {
				for b := range 256 {
					name := []byte("abcmxyzqa")[:length]
					name[at] = byte(b)
					f.Name = string(name)
					isFamily(t, f, length <= 8 && b >= 'a' && b <= 'z')
				}
			}
		}
		for _, name := range slices.Concat(oddTexts, []string{"abcdefgh", "ijklmnop", "qrstuvwx", "yz", "abcdefghi", "aé", "éa", "a\n", "\na", "a b", "a-b", "`", "{", "tile1", "Tile", "tilE", "\uff41", "\u0430"}) {
			f.Name = name
			checkFamily(t, f)
		}
	}
}

func TestIsFamilyOfEveryKind(t *testing.T) {
	t.Parallel()
	for i, f := range twoFamilies() {
		own := f.Kind
		if own != int64(i+1) {
			t.Fatalf("%v has the Kind %d", f, own)
		}
		for _, kind := range slices.Concat(extremes, []int64{-2, 0, 1, 2, 3, 4, 5, 256 + own, 1<<16 + own, 1<<32 + own, math.MinInt64 + own, -own}) {
			f.Kind = kind
			isFamily(t, f, kind == own)
		}
	}
	// What would be valid for both kinds but for the Columns.
	for _, columns := range []int64{0, 1} {
		for kind := int64(1); kind <= 2; kind++ {
			f := impl.Family{Name: "both", Kind: kind, Field: stackedField, Sizes: []int64{17, 21}, Columns: columns, Levels: []int64{50}}
			isFamily(t, f, kind == columns+1)
		}
	}
}

func TestIsFamilyOfEveryField(t *testing.T) {
	t.Parallel()
	if fields := binaryFields(); len(fields) != 50 {
		t.Error("there are", len(fields), "fields with the Prime 2, and not 2, 2, 6, 6, 18 and 16")
	}
	fields := slices.Concat(binaryFields(), payloadFields(t), sampleFields(), brokenFields())
	for power := int64(0); power <= 10; power++ {
		for poly := int64(0); poly < 1100; poly++ {
			fields = append(fields, impl.Field{Prime: 2, Power: power, Poly: poly})
		}
	}
	seen := map[int]int{}
	for _, field := range fields {
		for i, f := range twoFamilies() {
			f.Field = field
			if checkFamily(t, f) {
				seen[i]++
			}
		}
	}
	if seen[0] < 100 || seen[1] < 3 {
		t.Error("the numbers of valid families are", seen)
	}
	// Six fields have 32 elements. Stacked families have the one with the least Poly.
	for _, f := range twoFamilies() {
		for _, poly := range []int64{37, 41, 47, 55, 59, 61} {
			f.Field = impl.Field{Prime: 2, Power: 5, Poly: poly}
			isFamily(t, f, f.Kind == impl.KindMatrix || poly == 37)
		}
		for _, size := range []int64{3, 7, 31, 257, 1021} {
			f.Field = fieldOf(t, size)
			isFamily(t, f, false)
		}
	}
}

func TestIsFamilyOfEveryNumberOfColumns(t *testing.T) {
	t.Parallel()
	for _, f := range twoFamilies() {
		for _, columns := range slices.Concat(extremes, numbersFrom(-10, 100), []int64{256, 257, 1<<16 + 1, 1 << 32, 1<<32 + 5, math.MinInt64 + 5}) {
			f.Columns = columns
			isFamily(t, f, f.Kind == impl.KindMatrix && columns == 0 || f.Kind == impl.KindStacked && columns >= 1 && columns <= 8)
		}
	}
}

// oddNumbers are in no list of a family, some of them only with their upper bits.
var oddNumbers = slices.Concat(extremes, []int64{-80, -41, -24, -17, -3, 1<<8 + 17, 1<<8 + 21, 1<<16 + 17, 1<<32 + 1, 1<<32 + 17, 1<<32 + 21, 1<<32 + 41, math.MinInt64 + 17, math.MinInt64 + 21})

// Lists of one size, and each size of a list replaced by any number.
func TestIsFamilyOfEverySize(t *testing.T) {
	t.Parallel()
	for i, f := range twoFamilies() {
		own := append(slices.Clone(f.Sizes), []int64{29, 12}[i])
		slices.Sort(own)
		valid := 0
		for _, size := range slices.Concat(numbersFrom(-5, 120), oddNumbers) {
			f.Sizes = []int64{size}
			if checkFamily(t, f) {
				valid++
			}
			for at := range own {
				f.Sizes = with(own, at, size)
				checkFamily(t, f)
			}
		}
		if want := []int{7, 22}[i]; valid != want {
			t.Error(valid, "sizes are valid, and not", want)
		}
	}
}

// All lists of up to three sizes, in any order.
func TestIsFamilyOfEveryOrderOfSizes(t *testing.T) {
	t.Parallel()
	for i, f := range twoFamilies() {
		all := [][]int64{matrixSizes, {3, 4, 5, 12, 22, 23, 24}}[i]
		for _, a := range all {
			for _, b := range all {
				f.Sizes = []int64{a, b}
				isFamily(t, f, a < b)
				for _, c := range all {
					f.Sizes = []int64{a, b, c}
					isFamily(t, f, a < b && b < c)
				}
			}
		}
	}
}

// All lists of matrix sizes, and stacked sizes in all numbers.
func TestIsFamilyOfEveryNumberOfSizes(t *testing.T) {
	t.Parallel()
	families := twoFamilies()
	f := families[0]
	for set := range 128 {
		f.Sizes = nil
		for i, size := range matrixSizes {
			if set>>i&1 == 1 {
				f.Sizes = append(f.Sizes, size)
			}
		}
		isFamily(t, f, set != 0)
		// One size is there twice, so that there may be eight of them.
		for _, size := range f.Sizes {
			twice := f
			twice.Sizes = slices.Sorted(slices.Values(append(slices.Clone(f.Sizes), size)))
			isFamily(t, twice, false)
		}
	}
	f = families[1]
	for first := int64(3); first <= 24; first++ {
		for count := int64(0); first+count <= 25; count++ {
			f.Sizes = numbersFrom(first, first+count)
			isFamily(t, f, count >= 1 && count <= 8)
		}
	}
	for _, f := range families {
		for _, sizes := range [][]int64{nil, {}, make([]int64, 0, 9), slices.Repeat([]int64{17}, 2), slices.Repeat([]int64{17}, 8), slices.Repeat([]int64{17}, 1<<20), numbersFrom(3, 1<<18), {17, 21, 25, 29, 33, 37, 41, 45}, {13, 17, 21, 25, 29, 33, 37, 41}, {3, 24, 25}, {2, 3, 24}} {
			f.Sizes = sizes
			isFamily(t, f, false)
		}
	}
}

func TestIsFamilyOfEveryLevel(t *testing.T) {
	t.Parallel()
	for _, f := range twoFamilies() {
		for _, level := range slices.Concat(numbersFrom(-5, 200), oddNumbers) {
			f.Levels = []int64{level}
			isFamily(t, f, level >= 1 && level <= 80)
			for _, own := range [][]int64{{10, 20}, {1, 40, 79}, {2, 40, 60, 80}} {
				for at := range own {
					f.Levels = with(own, at, level)
					checkFamily(t, f)
				}
			}
		}
		for a := int64(0); a <= 81; a++ {
			for b := int64(0); b <= 81; b++ {
				f.Levels = []int64{a, b}
				isFamily(t, f, a >= 1 && a < b && b <= 80)
			}
		}
	}
}

func TestIsFamilyOfEveryNumberOfLevels(t *testing.T) {
	t.Parallel()
	for _, f := range twoFamilies() {
		for count := int64(0); count <= 80; count++ {
			for _, levels := range [][]int64{numbersFrom(1, 1+count), numbersFrom(81-count, 81), slices.Repeat([]int64{50}, int(count))} {
				f.Levels = levels
				isFamily(t, f, count == 1 || count <= 4 && count > 1 && levels[0] != levels[1])
			}
		}
		for _, levels := range [][]int64{nil, {}, make([]int64, 0, 5), slices.Repeat([]int64{1}, 1<<20), {4, 3, 2, 1}, {1, 3, 2, 4}, {1, 2, 4, 3}, {2, 1, 3, 4}, {1, 2, 2, 3}, {0, 1, 2, 3}, {78, 79, 80, 81}, {1, 2, 3, 4, 5}, {math.MinInt64, 1}, {1, math.MaxInt64}} {
			f.Levels = levels
			isFamily(t, f, false)
		}
	}
}

// brokenFamilies are no families, each for a reason of its own, and some for several.
func brokenFamilies() []impl.Family {
	broken := []impl.Family{{}, {Name: "matrix", Kind: 1}, {Name: "stacked", Kind: 2, Columns: 1, Field: stackedField}}
	for _, f := range twoFamilies() {
		for _, change := range []func(f *impl.Family){
			func(f *impl.Family) { f.Name = "" },
			func(f *impl.Family) { f.Name = "abcdefghi" },
			func(f *impl.Family) { f.Name = "Tile" },
			func(f *impl.Family) { f.Kind = 0 },
			func(f *impl.Family) { f.Kind = 3 },
			func(f *impl.Family) { f.Kind = 3 - f.Kind },
			func(f *impl.Family) { f.Field = impl.Field{} },
			func(f *impl.Family) { f.Field.Poly++ },
			func(f *impl.Family) { f.Field = impl.Field{Prime: 257, Power: 1, Poly: 3} },
			func(f *impl.Family) { f.Field = impl.Field{Prime: 2, Power: math.MaxInt64, Poly: math.MinInt64} },
			func(f *impl.Family) { f.Sizes = nil },
			func(f *impl.Family) { f.Sizes = []int64{} },
			func(f *impl.Family) { f.Sizes = []int64{17, 17} },
			func(f *impl.Family) { f.Sizes = []int64{21, 17} },
			func(f *impl.Family) { f.Sizes = []int64{17, 21, 45} },
			func(f *impl.Family) { f.Sizes = []int64{0, 17} },
			func(f *impl.Family) { f.Sizes = numbersFrom(3, 12) },
			func(f *impl.Family) { f.Columns = -1 },
			func(f *impl.Family) { f.Columns = 9 },
			func(f *impl.Family) { f.Columns = math.MaxInt64 },
			func(f *impl.Family) { f.Levels = nil },
			func(f *impl.Family) { f.Levels = []int64{} },
			func(f *impl.Family) { f.Levels = []int64{40, 1} },
			func(f *impl.Family) { f.Levels = []int64{40, 40} },
			func(f *impl.Family) { f.Levels = []int64{0, 40} },
			func(f *impl.Family) { f.Levels = []int64{40, 81} },
			func(f *impl.Family) { f.Levels = numbersFrom(1, 6) },
			func(f *impl.Family) { f.Name, f.Kind, f.Columns, f.Levels = "", 7, 9, nil },
		} {
			g := f
			change(&g)
			broken = append(broken, g)
		}
	}
	for _, size := range []int64{math.MinInt64, -1, 0, 17, math.MaxInt64} {
		broken = append(broken, impl.Family{Name: "matrix", Kind: 1, Sizes: []int64{size}, Levels: []int64{size}}, impl.Family{Name: "stacked", Kind: 2, Field: stackedField, Columns: size, Sizes: []int64{size}, Levels: []int64{size}})
	}
	return broken
}

// A family that is not valid comes before everything else.
func TestFamilyErrorsOfInvalidFamilies(t *testing.T) {
	t.Parallel()
	for _, f := range brokenFamilies() {
		isFamily(t, f, false)
		returns(t, "a function of chapter 13", func() {
			for _, size := range slices.Concat(extremes, f.Sizes, []int64{0, 1, 3, 17, 18, 45}) {
				countsNot(t, f, size, impl.ErrInvalid)
				for _, level := range []int64{0, 1, -1, 4, math.MinInt64, math.MaxInt64} {
					hasNoLayout(t, f, size, level, impl.ErrInvalid)
				}
			}
			for _, level := range []int64{0, 1, -1, 4, math.MinInt64, math.MaxInt64} {
				for _, message := range []string{"", "12", strings.Repeat("*", 400), strings.Repeat("*", 401)} {
					hasNoSmallest(t, f, level, message, impl.ErrInvalid)
				}
			}
		})
	}
}

func TestElementCountByHand(t *testing.T) {
	for name, want := range map[string][]int64{
		"tile":   {16, 52, 96},
		"panel":  {10, 34, 64, 98, 138},
		"plate":  {8, 26, 48, 74, 104, 138, 176},
		"stack":  {16, 24, 32, 48, 64, 96},
		"ribbon": {24, 32, 40},
	} {
		f, code := impl.FamilyNamed(name)
		if code != impl.ErrNone || len(f.Sizes) != len(want) {
			t.Fatal("FamilyNamed", name, "yields", f, code)
		}
		for i, size := range f.Sizes {
			hasElementCount(t, f, size, want[i])
		}
	}
	// 64 and 1408 cells in elements of 3, 5 and 7 bits.
	for size, want := range map[int64][]int64{8: {21, 469}, 32: {12, 281}, 128: {9, 201}} {
		f := matrixFamily(fieldOf(t, size), []int64{17, 41}, 50)
		hasElementCount(t, f, 17, want[0])
		hasElementCount(t, f, 41, want[1])
	}
}

// Every size in fields of every width, and every number of rows and columns.
func TestElementCount(t *testing.T) {
	t.Parallel()
	for _, field := range binaryFields() {
		f := matrixFamily(field, matrixSizes, 50)
		for _, size := range matrixSizes {
			hasElementCount(t, f, size, symbolElements(f, size))
		}
	}
	for columns := int64(1); columns <= 8; columns++ {
		for rows := int64(3); rows <= 24; rows++ {
			f := stackedFamily(columns, []int64{rows}, 50)
			hasElementCount(t, f, rows, rows*columns)
			if symbolElements(f, rows) != rows*columns {
				t.Error("the oracle yields", symbolElements(f, rows), "elements for", rows, columns)
			}
		}
	}
}

// The layouts of the library, with Count, Checks and Data of each level of each size.
func TestLayoutsOfTheLibraryByHand(t *testing.T) {
	for name, sizes := range map[string][][][3]int64{
		"tile":  {{{2, 2, 12}, {2, 3, 10}}, {{4, 2, 44}, {4, 5, 32}}, {{7, 2, 82}, {7, 5, 61}}},
		"panel": {{{1, 2, 8}, {1, 3, 7}, {1, 6, 4}}, {{1, 5, 29}, {1, 10, 24}, {1, 20, 14}}, {{2, 4, 56}, {2, 9, 46}, {2, 19, 26}}, {{2, 7, 84}, {2, 14, 70}, {2, 29, 40}}, {{3, 6, 120}, {3, 13, 99}, {3, 27, 57}}},
		"plate": {
			{{1, 2, 6}, {1, 2, 6}, {1, 2, 6}, {1, 4, 4}}, {{1, 2, 24}, {1, 5, 21}, {1, 7, 19}, {1, 13, 13}}, {{1, 4, 44}, {1, 9, 39}, {1, 14, 34}, {1, 24, 24}}, {{1, 7, 67}, {1, 14, 60}, {1, 22, 52}, {1, 37, 37}},
			{{1, 10, 94}, {1, 20, 84}, {1, 31, 73}, {1, 52, 52}}, {{1, 13, 125}, {1, 27, 111}, {1, 41, 97}, {1, 64, 74}}, {{1, 17, 159}, {1, 35, 141}, {1, 52, 124}, {1, 64, 112}},
		},
		"stack":  {{{1, 4, 12}, {1, 8, 8}}, {{1, 6, 18}, {1, 12, 12}}, {{2, 4, 24}, {2, 8, 16}}, {{2, 6, 36}, {2, 12, 24}}, {{3, 5, 49}, {3, 10, 34}}, {{4, 6, 72}, {4, 12, 48}}},
		"ribbon": {{{1, 7, 17}}, {{2, 4, 24}}, {{2, 6, 28}}},
	} {
		f, code := impl.FamilyNamed(name)
		if code != impl.ErrNone || len(f.Sizes) != len(sizes) {
			t.Fatal("FamilyNamed", name, "yields", f, code)
		}
		for i, levels := range sizes {
			if len(levels) != len(f.Levels) {
				t.Error(name, "has", len(f.Levels), "levels")
			}
			for level, x := range levels {
				hasLayout(t, f, f.Sizes[i], int64(level), impl.Layout{Field: f.Field, Count: x[0], Checks: x[1], Data: x[2]})
				checkSymbol(t, f, f.Sizes[i], int64(level))
			}
		}
	}
}

func TestRoomAndErrorRoomByHand(t *testing.T) {
	for _, x := range []struct {
		name              string
		size, level       int64
		room, correctable int64
	}{
		{"tile", 17, 0, 48, 1}, {"tile", 17, 1, 40, 1}, {"tile", 25, 1, 244, 2}, {"panel", 17, 1, 42, 1}, {"panel", 33, 2, 342, 13},
		{"plate", 17, 3, 32, 2}, {"plate", 41, 1, 1128, 17}, {"plate", 41, 3, 896, 32}, {"stack", 4, 0, 60, 2}, {"stack", 16, 0, 245, 2}, {"ribbon", 3, 0, 85, 3},
	} {
		f, _ := impl.FamilyNamed(x.name)
		room, first := impl.RoomOf(f, x.size, x.level)
		correctable, second := impl.ErrorRoom(f, x.size, x.level)
		if room != x.room || correctable != x.correctable || first != impl.ErrNone || second != impl.ErrNone {
			t.Errorf("%s of the size %d and the level %d has room for %d bits and %d errors", x.name, x.size, x.level, room, correctable)
		}
	}
}

// layoutsSeen counts what happens among the layouts of a test.
type layoutsSeen map[string]int

func (seen layoutsSeen) note(l impl.Layout, elements, percentage int64) {
	if l.Count == 0 {
		seen["not valid"]++
		return
	}
	raw := quotient(quotient(elements*percentage, 100), l.Count)
	size := oracleSize(l.Field)
	for what, isSo := range map[string]bool{
		"Checks 0": raw == 0, "Checks 1": raw == 1, "Checks 2": raw == 2, "Checks 63": raw == 63, "Checks 64": raw == 64, "Checks 65": raw == 65, "more than 64 Checks": raw > 65,
		"one word": l.Count == 1, "two words": l.Count == 2, "more words": l.Count > 2, "16 words": l.Count == 16,
		"all words of the greatest length":  elements == l.Count*(size-1),
		"a word of the greatest length":     l.Count > 1 && elements > l.Count*(size-2),
		"a word of a great length":          elements > 170 && l.Count == 1,
		"words of different lengths":        elements%l.Count != 0,
		"the first quotient is rounded":     elements*percentage%100 != 0,
		"the second quotient is rounded":    quotient(elements*percentage, 100)%l.Count != 0,
		"rounding up first would be more":   (elements*percentage+99)/100/l.Count > raw,
		"one level":                         percentage == 1,
		"the greatest level":                percentage == 80,
		"the least Data":                    l.Data == l.Count,
		"more than half are check elements": l.Data < l.Count*l.Checks,
	} {
		if isSo {
			seen[what]++
		}
	}
}

func (seen layoutsSeen) has(t *testing.T, all ...string) {
	t.Helper()
	for _, what := range all {
		if seen[what] == 0 {
			t.Error("no layout is such:", what)
		}
	}
}

// All sizes and percentages in one field of each width; a sample of percentages in all other ones.
func TestLayoutsOfMatrixFamilies(t *testing.T) {
	for width := 3; width <= 8; width++ {
		t.Run(fmt.Sprint("width ", width), func(t *testing.T) {
			t.Parallel()
			source := rand.New(rand.NewSource(602))
			seen := layoutsSeen{}
			for _, field := range binaryFields() {
				if oracleWidth(field) != width {
					continue
				}
				for first := int64(1); first <= 77; first += 4 {
					if isLeast(t, field) || source.Intn(8) == 0 {
						checkFamilySymbols(t, matrixFamily(field, matrixSizes, numbersFrom(first, first+4)...), seen.note)
					}
				}
			}
			seen.has(t, "one level", "the greatest level", "the first quotient is rounded", "Checks 0", "Checks 1", "Checks 2", "more than half are check elements")
			if width <= 4 {
				seen.has(t, "not valid", "a word of the greatest length")
			} else if seen["not valid"] > 0 {
				t.Error("not valid:", seen["not valid"])
			}
			if width >= 7 {
				seen.has(t, "one word", "Checks 63", "Checks 64", "Checks 65", "more than 64 Checks")
			}
			if width < 8 {
				seen.has(t, "words of different lengths", "the second quotient is rounded")
			} else {
				seen.has(t, "a word of a great length")
			}
			if width > 3 && width < 8 {
				seen.has(t, "two words")
			}
			if width < 7 {
				seen.has(t, "more words")
			}
			if width == 3 {
				seen.has(t, "all words of the greatest length")
			}
		})
	}
}

// All sizes, percentages and numbers of columns.
func TestLayoutsOfStackedFamilies(t *testing.T) {
	for columns := int64(1); columns <= 8; columns++ {
		t.Run(fmt.Sprint("columns ", columns), func(t *testing.T) {
			t.Parallel()
			seen := layoutsSeen{}
			for _, sizes := range [][]int64{numbersFrom(3, 11), numbersFrom(11, 19), numbersFrom(17, 25)} {
				for first := int64(1); first <= 77; first += 4 {
					checkFamilySymbols(t, stackedFamily(columns, sizes, numbersFrom(first, first+4)...), seen.note)
				}
			}
			seen.has(t, "one word", "Checks 0", "Checks 1", "Checks 2", "the first quotient is rounded", "more than half are check elements")
			if columns > 1 {
				seen.has(t, "two words", "the second quotient is rounded")
			} else {
				seen.has(t, "the least Data")
			}
			if columns > 2 {
				seen.has(t, "words of different lengths")
			}
			if seen["not valid"] > 0 {
				t.Error("not valid:", seen["not valid"])
			}
		})
	}
}

// Families of all kinds, with sizes and levels of any numbers at any places.
func TestLayoutsOfSomeFamilies(t *testing.T) {
	t.Parallel()
	source := rand.New(rand.NewSource(603))
	seen := layoutsSeen{}
	for range 800 {
		checkFamilySymbols(t, someFamily(source), seen.note)
	}
	seen.has(t, "not valid", "one word", "two words", "more words", "Checks 0", "Checks 64", "more than 64 Checks")
}

// Layouts just within a limit and just beyond one, found by hand.
func TestLayoutsAtTheLimitsByHand(t *testing.T) {
	layout := func(f impl.Family, count, checks, data int64) impl.Layout {
		return impl.Layout{Field: f.Field, Count: count, Checks: checks, Data: data}
	}
	// 31 elements are one word, and 32 are two. 3 elements have the least Data, and 4 too.
	for _, x := range []struct{ columns, rows, percentage, count, checks, data int64 }{
		{5, 6, 50, 1, 15, 15}, {8, 4, 50, 2, 8, 16}, {4, 8, 50, 2, 8, 16}, {3, 21, 50, 3, 10, 33}, {3, 20, 50, 2, 15, 30},
		{1, 3, 80, 1, 2, 1}, {1, 3, 1, 1, 2, 1}, {1, 4, 80, 1, 3, 1}, {1, 4, 74, 1, 2, 2}, {1, 4, 75, 1, 3, 1}, {8, 24, 80, 7, 21, 45}, {8, 24, 1, 7, 2, 178}, {4, 23, 80, 3, 24, 20},
	} {
		f := stackedFamily(x.columns, []int64{x.rows}, x.percentage)
		hasLayout(t, f, x.rows, 0, layout(f, x.count, x.checks, x.data))
	}
	for _, x := range []struct{ field, size, percentage, count, checks, data int64 }{
		// 21 and 69 elements in words of 7; 148 and 208 in words of 15; 157 and 201 in words of 127.
		{8, 17, 50, 3, 3, 12}, {8, 21, 50, 10, 3, 39}, {8, 21, 80, 10, 5, 19}, {16, 29, 50, 10, 7, 78}, {16, 33, 80, 14, 11, 54}, {128, 37, 80, 2, 62, 33}, {128, 41, 63, 2, 63, 75}, {128, 41, 64, 2, 64, 73}, {128, 41, 80, 2, 64, 73}, {128, 33, 80, 1, 64, 54},
		// 176 elements, of which 64 are 36.4 in 100.
		{256, 41, 36, 1, 63, 113}, {256, 41, 37, 1, 64, 112}, {256, 41, 80, 1, 64, 112}, {256, 17, 24, 1, 2, 6}, {256, 17, 37, 1, 2, 6}, {256, 17, 38, 1, 3, 5}, {256, 17, 1, 1, 2, 6},
	} {
		f := matrixFamily(fieldOf(t, x.field), []int64{x.size}, x.percentage)
		hasLayout(t, f, x.size, 0, layout(f, x.count, x.checks, x.data))
	}
}

// Where a symbol has elements for more than 16 words, there is no layout: in fields of 8 elements from 128
// elements on, which are 19 words, and in fields of 16 elements from 276 elements on, which are 19, too.
func TestLayoutsThatAreNotValid(t *testing.T) {
	t.Parallel()
	none := map[int64][]int64{3: {25, 29, 33, 37, 41}, 4: {37, 41}}
	for _, field := range binaryFields() {
		for _, size := range matrixSizes {
			for _, percentages := range [][]int64{{1, 2, 40, 80}, {10, 20, 30, 50}} {
				f := matrixFamily(field, []int64{size}, percentages...)
				for level := range int64(4) {
					if slices.Contains(none[field.Power], size) {
						hasNoLayout(t, f, size, level, impl.ErrLimit)
					} else if l := checkSymbol(t, f, size, level); l.Count < 1 || l.Count > 14 {
						t.Errorf("LayoutOf %v %d %d yields %v", f, size, level, l)
					}
				}
				hasElementCount(t, f, size, symbolElements(f, size))
			}
		}
	}
}

// As many damaged elements of each block as ErrorRoom says are corrected, wherever they are; one more
// is beyond the bound.
func TestErrorRoomIsCorrected(t *testing.T) {
	t.Parallel()
	source := rand.New(rand.NewSource(604))
	for _, f := range append(libraryTable(), twoFamilies()...) {
		for _, size := range f.Sizes {
			for level := range f.Levels {
				l, code := impl.LayoutOf(f, size, int64(level))
				half, second := impl.ErrorRoom(f, size, int64(level))
				if code != impl.ErrNone || second != impl.ErrNone {
					t.Fatal("no layout of", f, size, level)
				}
				s := someSending(t, l, source)
				goodStream(t, s)
				if int64(len(s.stream)) != symbolElements(f, size) {
					t.Fatalf("the stream of %v has %d elements", l, len(s.stream))
				}
				h := noHit(l)
				for k, c := range oracleCodes(l) {
					h.wrong[k], _ = parted(source, numbersUpTo(c.Length), half, 0)
				}
				s.bears(t, source, h)
				damages(t, l, gathered(l, h.wrong), nil, true)
				for k, c := range oracleCodes(l) {
					more := slices.Clone(h.wrong)
					more[k], _ = parted(source, numbersUpTo(c.Length), half+1, 0)
					damages(t, l, gathered(l, more), nil, false)
				}
			}
		}
	}
}

// wrongLevels are no indices of so many levels.
func wrongLevels(count int) []int64 {
	n := int64(count)
	return slices.Concat(extremes, []int64{-2, -n, n, n + 1, n + 2, 4, 5, 80, 256, 1 << 8, 1 << 16, 1<<32 + 1, math.MinInt64 + 1, math.MinInt64 + 2})
}

// Numbers that are no sizes of a family, most of which are sizes of others, and those that are no levels;
// both have the same error, also at once.
func TestSizesAndLevelsOutOfRange(t *testing.T) {
	t.Parallel()
	source := rand.New(rand.NewSource(605))
	families := append(libraryTable(), twoFamilies()...)
	for range 30 {
		families = append(families, someFamily(source))
	}
	for _, f := range families {
		for _, size := range slices.Concat(numbersFrom(-2, 50), oddNumbers) {
			if slices.Contains(f.Sizes, size) {
				continue
			}
			returns(t, "a function of chapter 13", func() {
				countsNot(t, f, size, impl.ErrRange)
				for _, level := range slices.Concat(numbersFrom(0, int64(len(f.Levels))), []int64{-1, int64(len(f.Levels)), math.MinInt64, math.MaxInt64}) {
					hasNoLayout(t, f, size, level, impl.ErrRange)
				}
			})
		}
		for _, level := range wrongLevels(len(f.Levels)) {
			if level >= 0 && level < int64(len(f.Levels)) {
				continue
			}
			returns(t, "a function of chapter 13", func() {
				for _, size := range f.Sizes {
					hasNoLayout(t, f, size, level, impl.ErrRange)
				}
				for _, message := range []string{"", "12", strings.Repeat("*", 400), strings.Repeat("*", 401), strings.Repeat("1", 1<<16)} {
					hasNoSmallest(t, f, level, message, impl.ErrRange)
				}
			})
		}
	}
}

// A size or a level out of range comes before a layout that is not valid.
func TestRangeComesBeforeLimit(t *testing.T) {
	for _, f := range []impl.Family{matrixFamily(fieldOf(t, 8), []int64{25, 41}, 10, 20), matrixFamily(fieldOf(t, 16), []int64{37, 41}, 10, 20)} {
		for _, size := range f.Sizes {
			hasNoLayout(t, f, size, 0, impl.ErrLimit)
			hasNoLayout(t, f, size, 1, impl.ErrLimit)
			hasNoLayout(t, f, size, 2, impl.ErrRange)
			hasNoLayout(t, f, size, -1, impl.ErrRange)
		}
		hasNoLayout(t, f, 29, 0, impl.ErrRange)
		hasNoLayout(t, f, 17, 0, impl.ErrRange)
		for _, message := range []string{"", "1", strings.Repeat("*", 400)} {
			hasNoSmallest(t, f, 0, message, impl.ErrNotFound)
			hasNoSmallest(t, f, 2, message, impl.ErrRange)
		}
		hasNoSmallest(t, f, 0, strings.Repeat("*", 401), impl.ErrLimit)
		hasNoSmallest(t, f, 2, strings.Repeat("*", 401), impl.ErrRange)
	}
}

func TestSmallestSizeByHand(t *testing.T) {
	for _, x := range []struct {
		name    string
		level   int64
		message string
		want    int64
	}{
		{"tile", 0, "", 17}, {"tile", 0, "12", 17}, {"plate", 3, "", 17}, {"stack", 1, "", 4}, {"ribbon", 0, "", 3},
		// 48, 176 and 328 bits; 31 of them are for six digits, and 48 for eleven.
		{"tile", 0, "12345678901", 17}, {"tile", 0, "123456789012", 21}, {"tile", 0, strings.Repeat("1", 49), 21}, {"tile", 0, strings.Repeat("1", 50), 25}, {"tile", 0, strings.Repeat("1", 95), 25}, {"tile", 0, strings.Repeat("1", 96), 0},
		// 40 bits: 38 are for eight digits, and 41 for nine.
		{"tile", 1, "12345678", 17}, {"tile", 1, "123456789", 21},
		// 32 bits for each byte but two; 892 bits are for 110 bytes, and 900 for 111.
		{"plate", 3, "**", 17}, {"plate", 3, "***", 21}, {"plate", 3, strings.Repeat("*", 110), 41}, {"plate", 3, strings.Repeat("*", 111), 0},
		{"plate", 0, strings.Repeat("*", 157), 41}, {"plate", 0, strings.Repeat("*", 158), 0},
		// 1272 bits: 255 digits have 861 of them, and 120 digits have 411.
		{"plate", 0, strings.Repeat("1", 375), 41}, {"plate", 0, strings.Repeat("1", 376), 0},
		// 85, 120 and 140 bits; small letters have 5 each.
		{"ribbon", 0, "abcdefghijklmn", 3}, {"ribbon", 0, "abcdefghijklmno", 4}, {"ribbon", 0, "abcdefghijklmnopqrstu", 4}, {"ribbon", 0, "abcdefghijklmnopqrstuv", 5}, {"ribbon", 0, "abcdefghijklmnopqrstuvwxyz", 0},
	} {
		f, _ := impl.FamilyNamed(x.name)
		if x.want == 0 {
			hasNoSmallest(t, f, x.level, x.message, impl.ErrNotFound)
		} else {
			hasSmallest(t, f, x.level, x.message, x.want)
		}
		checkSmallest(t, f, x.level, x.message, int64(len(loadOf(x.message).written)))
	}
}

// Messages of every length and of each mode in all families of the library, each in one level, and those
// of up to 60 bytes in all.
func TestSmallestSizeOfEveryLength(t *testing.T) {
	for _, f := range libraryTable() {
		t.Run(f.Name, func(t *testing.T) {
			t.Parallel()
			source := rand.New(rand.NewSource(606))
			seen := map[int64]int{}
			for _, r := range append(modeTable, modeRow{mode: 5}) {
				text := someRuns(source, 400, 9)
				if r.mode < 5 {
					text = r.someText(source, 400)
				}
				for length, bits := range leastBits(text) {
					for level := range f.Levels {
						if length <= 60 || length%len(f.Levels) == level {
							size, _ := checkSmallest(t, f, int64(level), text[:length], bits)
							seen[size]++
						}
					}
				}
			}
			for _, size := range append([]int64{0}, f.Sizes...) {
				if seen[size] < 3 {
					t.Error("the numbers of messages of each size are", seen)
				}
			}
		})
	}
}

// messagesOfBits are messages by the number of bits of their best segmentation. There are some of all
// numbers from 150 on, and of many below.
func messagesOfBits(t *testing.T, most int64) map[int64]string {
	t.Helper()
	messages := map[int64]string{}
	for bits := int64(150); bits <= most; bits++ {
		messages[bits] = written(t, int(bits)).message
	}
	for _, character := range []string{"1", "B", "b", "*"} {
		text := strings.Repeat(character, 400)
		for length, bits := range leastBits(text) {
			messages[bits] = text[:length]
		}
	}
	return messages
}

// Messages that have just enough room in a size, and those of one bit more, which have none.
func TestSmallestSizeWithJustEnoughRoom(t *testing.T) {
	t.Parallel()
	source := rand.New(rand.NewSource(607))
	families := libraryTable()
	for _, field := range binaryFields() {
		families = append(families, matrixFamily(field, someOf(source, matrixSizes, 4), someOf(source, numbersFrom(1, 81), 2)...))
	}
	messages := messagesOfBits(t, 1400)
	seen := map[string]int{}
	for _, f := range families {
		for _, size := range f.Sizes {
			for level := range int64(len(f.Levels)) {
				l, code := oracleLayoutOf(f, size, level)
				room := l.Data * int64(oracleWidth(f.Field))
				just, more := messages[room], messages[room+1]
				if code != impl.ErrNone || just == "" || more == "" {
					continue
				}
				payload, first := impl.EncodePayload(f.Field, just, l.Data)
				if _, second := impl.EncodePayload(f.Field, more, l.Data); first != impl.ErrNone || int64(len(payload)) != l.Data || second != impl.ErrLimit {
					t.Fatalf("%v has room for %d bits, but the codes are %d and %d", l, room, first, second)
				}
				want, _ := checkSmallest(t, f, level, just, room)
				switch {
				case want == size:
					seen["just enough"]++
				case want > size || want == 0:
					t.Fatalf("%d bits need the size %d of %v, and not %d", room, want, f, size)
				}
				// A lesser size may have more room, where one word less needs fewer check elements.
				switch want, _ = checkSmallest(t, f, level, more, room+1); {
				case want == 0:
					seen["no size"]++
				case want > size:
					seen["another size"]++
				}
			}
		}
	}
	if seen["just enough"] < 200 || seen["another size"] < 100 || seen["no size"] < 50 {
		t.Error("the messages have", seen)
	}
}

// Any families and messages, against the oracle. Some sizes have no valid layout.
func TestSmallestSizeOfSomeFamilies(t *testing.T) {
	t.Parallel()
	source := rand.New(rand.NewSource(608))
	seen, unusable := map[int64]int{}, 0
	for range 1500 {
		f := someFamily(source)
		level := source.Int63n(int64(len(f.Levels)))
		message := someRuns(source, source.Intn(90), 1+source.Intn(20))
		bits := leastBits(message)[len(message)]
		_, code := checkSmallest(t, f, level, message, bits)
		seen[code]++
		if _, last := oracleLayoutOf(f, f.Sizes[len(f.Sizes)-1], level); last == impl.ErrLimit {
			unusable++
		}
	}
	if seen[impl.ErrNone] < 300 || seen[impl.ErrNotFound] < 300 || unusable < 50 {
		t.Error("the codes are", seen, "and", unusable, "families have sizes without a layout")
	}
}

// Sizes without a valid layout stand behind the others. They are passed over, also where they would have
// room.
func TestSizesWithoutALayout(t *testing.T) {
	f := matrixFamily(fieldOf(t, 8), matrixSizes, 50)
	hasSmallest(t, f, 0, "", 17)
	// 12 and 39 elements of 3 bits; 117 of them are for 32 digits and 121 for 33.
	hasSmallest(t, f, 0, "1234567", 17)
	hasSmallest(t, f, 0, "12345678", 21)
	hasSmallest(t, f, 0, strings.Repeat("1", 31), 21)
	hasNoSmallest(t, f, 0, strings.Repeat("1", 32), impl.ErrNotFound)
	f = matrixFamily(fieldOf(t, 16), []int64{17, 37, 41}, 50)
	hasSmallest(t, f, 0, "", 17)
	hasNoSmallest(t, f, 0, strings.Repeat("1", 40), impl.ErrNotFound)
	f.Sizes = []int64{37, 41}
	hasNoSmallest(t, f, 0, "", impl.ErrNotFound)
	f.Sizes = []int64{17, 33, 37}
	hasSmallest(t, f, 0, strings.Repeat("1", 40), 33)
}

// Messages of more than MaxMessage bytes, also where no size has a layout. Just MaxMessage bytes are one.
func TestSmallestSizeOfNoMessage(t *testing.T) {
	t.Parallel()
	families := append(libraryTable(), matrixFamily(fieldOf(t, 8), []int64{41}, 50), matrixFamily(fieldOf(t, 256), []int64{41}, 1))
	for _, f := range families {
		for _, r := range modeTable {
			for _, length := range []int{401, 402, 512, 656, 1000, 1 << 16, 1 << 20} {
				for level := range f.Levels {
					hasNoSmallest(t, f, int64(level), strings.Repeat(r.characters[1:2], length), impl.ErrLimit)
				}
			}
			text := strings.Repeat(r.characters[1:2], 400)
			checkSmallest(t, f, 0, text, leastBits(text)[400])
		}
	}
	// The greatest room, 174 elements of 8 bits, has 1392 bits: 400 digits need 1356.
	hasSmallest(t, families[6], 0, strings.Repeat("1", 400), 41)
	hasNoSmallest(t, families[6], 0, strings.Repeat("a", 400), impl.ErrNotFound)
}

// guardedFamily is an argument whose lists have spare capacity, and a record of it.
type guardedFamily struct {
	family, copy  impl.Family
	sizes, levels guarded
}

func guardFamily(f impl.Family) guardedFamily {
	g := guardedFamily{family: f, copy: f, sizes: guard(f.Sizes), levels: guard(f.Levels)}
	g.copy.Sizes, g.copy.Levels = slices.Clone(f.Sizes), slices.Clone(f.Levels)
	g.family.Sizes, g.family.Levels = g.sizes.list, g.levels.list
	return g
}

func (g guardedFamily) check(t *testing.T) {
	t.Helper()
	g.sizes.check(t, "a function of chapter 13")
	g.levels.check(t, "a function of chapter 13")
	if !sameFamily(g.family, g.copy) {
		t.Fatal("a function of chapter 13 has changed", g.copy)
	}
}

// familyAnswers are the results of all functions of the chapter, as a text.
func familyAnswers(f impl.Family, size, level int64, message string) string {
	count, first := impl.ElementCount(f, size)
	l, second := impl.LayoutOf(f, size, level)
	room, third := impl.RoomOf(f, size, level)
	smallest, fourth := impl.SmallestSize(f, level, message)
	half, fifth := impl.ErrorRoom(f, size, level)
	named, sixth := impl.FamilyNamed(f.Name)
	return fmt.Sprint(impl.IsFamily(f), count, first, l, second, room, third, smallest, fourth, half, fifth, named, sixth, impl.Library())
}

// No list of a family is changed, nor the memory behind it, and other lists of the same numbers have the
// same results; so have a list that is nil and an empty one.
func TestFamiliesStay(t *testing.T) {
	t.Parallel()
	source := rand.New(rand.NewSource(609))
	families := slices.Concat(libraryTable(), twoFamilies(), brokenFamilies())
	for range 50 {
		families = append(families, someFamily(source))
	}
	for _, f := range families {
		g := guardFamily(f)
		size, level := int64(17), source.Int63n(4)
		if len(f.Sizes) > 0 {
			size = f.Sizes[source.Intn(len(f.Sizes))]
		}
		message := someRuns(source, source.Intn(40), 5)
		first := familyAnswers(g.family, size, level, message)
		g.check(t)
		second := familyAnswers(g.copy, size, level, message)
		if first != second {
			t.Fatalf("other lists of the same numbers have another result: %s and %s", first, second)
		}
	}
	for _, f := range twoFamilies() {
		for _, none := range [][]int64{nil, {}} {
			f.Sizes = none
			isFamily(t, f, false)
			countsNot(t, f, 17, impl.ErrInvalid)
			f.Sizes, f.Levels = []int64{17}, none
			isFamily(t, f, false)
			countsNot(t, f, 17, impl.ErrInvalid)
		}
	}
}

// One list is both the Sizes and the Levels of a family, or a part of it is.
func TestFamilyWithListsInOneMemory(t *testing.T) {
	list := []int64{17, 21, 25, 29, 33}
	f := matrixFamily(fieldOf(t, 256), list[:4], list[:4]...)
	f.Levels = list[1:5]
	g := matrixFamily(fieldOf(t, 256), []int64{17, 21, 25, 29}, 21, 25, 29, 33)
	for _, size := range f.Sizes {
		for level := range int64(4) {
			first, second := checkSymbol(t, f, size, level), checkSymbol(t, g, size, level)
			if first != second || familyAnswers(f, size, level, "12") != familyAnswers(g, size, level, "12") {
				t.Errorf("%v and %v differ", first, second)
			}
		}
	}
	if !slices.Equal(list, []int64{17, 21, 25, 29, 33}) {
		t.Error("an argument has changed:", list)
	}
}

// No call changes what a later one yields, or one at the same time.
func TestFamiliesKeepNoState(t *testing.T) {
	t.Parallel()
	source := rand.New(rand.NewSource(610))
	families := slices.Concat(libraryTable(), twoFamilies(), brokenFamilies()[:8])
	for range 20 {
		families = append(families, someFamily(source))
	}
	var calls []func() string
	for _, f := range families {
		for range 4 {
			size, level := int64(17), source.Int63n(5)-1
			if len(f.Sizes) > 0 {
				size = f.Sizes[source.Intn(len(f.Sizes))] + source.Int63n(5)/4
			}
			message := someRuns(source, []int{0, 1, 5, 40, 401}[source.Intn(5)], 5)
			calls = append(calls, func() string { return familyAnswers(f, size, level, message) })
		}
	}
	answersStay(t, source, calls)
}
