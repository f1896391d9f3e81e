package tests

import (
	"fmt"
	"math"
	"math/big"
	"math/rand"
	"slices"
	"strings"
	"sync"
	"testing"

	"loop.example/g00879/impl"
)

// The oracles below do not use what they check: a symbol is drawn cell by cell, the format places are
// typed out anew, products of rows and columns are numbers of any size, and formats are read by the search
// through all format words of the tests of chapter 8.

// matrixSizes are all sizes of matrix symbols.
var matrixSizes = []int64{17, 21, 25, 29, 33, 37, 41}

// finderRows are a finder pattern with its border.
var finderRows = []string{
	"---------",
	"-#######-",
	"-#-----#-",
	"-#-###-#-",
	"-#-###-#-",
	"-#-###-#-",
	"-#-----#-",
	"-#######-",
	"---------",
}

// drawing is a matrix symbol of n rows and columns of letters: a fixed cell is # if it is dark and - if
// it is light, a format place is o, and a data cell is a dot.
type drawing struct {
	n    int
	rows [][]byte
}

// put draws a letter in a cell, if there is one. What is drawn over another letter is shown as an X.
func (d drawing) put(row, col int, letter byte) {
	if row < 0 || row >= d.n || col < 0 || col >= d.n {
		return
	}
	if d.rows[row][col] != '.' {
		letter = 'X'
	}
	d.rows[row][col] = letter
}

// putFinder draws a finder pattern, of which the upper left cell is given, and its border.
func (d drawing) putFinder(row, col int) {
	for i, line := range finderRows {
		for k := range len(line) {
			d.put(row-1+i, col-1+k, line[k])
		}
	}
}

// putTiming draws the cells between the finder patterns, in turn.
func (d drawing) putTiming() {
	for i, letter := 8, byte('#'); i <= d.n-9; i++ {
		d.put(6, i, letter)
		d.put(i, 6, letter)
		letter = '#' + '-' - letter
	}
}

func (d drawing) putFormat() {
	one, two := oraclePlaces(int64(d.n))
	for _, at := range slices.Concat(one, two) {
		d.put(int(at.Row), int(at.Col), 'o')
	}
}

func drawingOf(size int64) drawing {
	d := drawing{n: int(size)}
	for range size {
		d.rows = append(d.rows, slices.Repeat([]byte{'.'}, d.n))
	}
	d.putFinder(0, 0)
	d.putFinder(0, d.n-7)
	d.putFinder(d.n-7, 0)
	d.putTiming()
	d.put(d.n-8, 8, '#')
	d.putFormat()
	return d
}

// count is the number of cells with a letter.
func (d drawing) count(letter byte) int64 {
	count := int64(0)
	for _, row := range d.rows {
		for _, cell := range row {
			if cell == letter {
				count++
			}
		}
	}
	return count
}

// letter is the one of the cell with an index.
func (d drawing) letter(index int) byte { return d.rows[index/d.n][index%d.n] }

func (d drawing) isFixed(index int) bool { return d.letter(index) == '#' || d.letter(index) == '-' }

// grid has the fixed cells.
func (d drawing) grid() impl.Grid {
	var rows []string
	for _, row := range d.rows {
		rows = append(rows, string(row))
	}
	return gridOf(rows...)
}

// gridOf is the grid that is drawn by these rows: all letters but # and - are unknown cells.
func gridOf(rows ...string) impl.Grid {
	g := impl.Grid{Rows: int64(len(rows)), Cols: int64(len(rows[0]))}
	for _, letter := range []byte(strings.Join(rows, "")) {
		g.Cells = append(g.Cells, int64(strings.IndexByte("-#", letter)))
	}
	return g
}

// oraclePlaces are both lists of format places, as the document has them.
func oraclePlaces(n int64) (one, two []impl.Place) {
	one = []impl.Place{
		{Row: 8, Col: 0}, {Row: 8, Col: 1}, {Row: 8, Col: 2}, {Row: 8, Col: 3}, {Row: 8, Col: 4}, {Row: 8, Col: 5},
		{Row: 8, Col: 7}, {Row: 8, Col: 8}, {Row: 7, Col: 8},
		{Row: 5, Col: 8}, {Row: 4, Col: 8}, {Row: 3, Col: 8}, {Row: 2, Col: 8}, {Row: 1, Col: 8}, {Row: 0, Col: 8},
	}
	two = []impl.Place{
		{Row: n - 1, Col: 8}, {Row: n - 2, Col: 8}, {Row: n - 3, Col: 8}, {Row: n - 4, Col: 8}, {Row: n - 5, Col: 8}, {Row: n - 6, Col: 8}, {Row: n - 7, Col: 8},
		{Row: 8, Col: n - 8}, {Row: 8, Col: n - 7}, {Row: 8, Col: n - 6}, {Row: 8, Col: n - 5}, {Row: 8, Col: n - 4}, {Row: 8, Col: n - 3}, {Row: 8, Col: n - 2}, {Row: 8, Col: n - 1},
	}
	return one, two
}

// indicesOf are those of some cells of a grid with so many columns.
func indicesOf(cols int64, places []impl.Place) []int64 {
	var indices []int64
	for _, at := range places {
		indices = append(indices, at.Row*cols+at.Col)
	}
	return indices
}

func oracleGrid(g impl.Grid) bool {
	if g.Rows < 1 || g.Cols < 1 {
		return false
	}
	product := new(big.Int).Mul(big.NewInt(g.Rows), big.NewInt(g.Cols))
	if product.Cmp(big.NewInt(40000)) > 0 || product.Int64() != int64(len(g.Cells)) {
		return false
	}
	isStrange := func(cell int64) bool { return cell != -1 && cell != 0 && cell != 1 }
	return !slices.ContainsFunc(g.Cells, isStrange)
}

func sameGrid(a, b impl.Grid) bool {
	return a.Rows == b.Rows && a.Cols == b.Cols && slices.Equal(a.Cells, b.Cells)
}

func isNoGrid(g impl.Grid) bool { return sameGrid(g, impl.Grid{}) }

func filledGrid(rows, cols, cell int64) impl.Grid {
	return impl.Grid{Rows: rows, Cols: cols, Cells: slices.Repeat([]int64{cell}, int(rows*cols))}
}

func someGrid(source *rand.Rand, rows, cols int64) impl.Grid {
	return impl.Grid{Rows: rows, Cols: cols, Cells: someList(source, rows*cols)}
}

func copied(g impl.Grid) impl.Grid {
	g.Cells = slices.Clone(g.Cells)
	return g
}

// backgrounds are grids of a matrix size: one with the fixed cells only, and others with anything.
func backgrounds(source *rand.Rand, size int64) []impl.Grid {
	return []impl.Grid{
		drawingOf(size).grid(), filledGrid(size, size, -1), filledGrid(size, size, 0), filledGrid(size, size, 1),
		someGrid(source, size, size), {Rows: size, Cols: size, Cells: randomBits(source, int(size*size))},
	}
}

// copies is a grid whose cells at the format places are changed by a test. The grid is not copied.
type copies struct {
	grid     impl.Grid
	one, two []int64
}

func copiesIn(g impl.Grid) copies {
	one, two := oraclePlaces(g.Rows)
	return copies{grid: g, one: indicesOf(g.Cols, one), two: indicesOf(g.Cols, two)}
}

func (c copies) put(one, two []int64) {
	for i := range one {
		c.grid.Cells[c.one[i]] = one[i]
		c.grid.Cells[c.two[i]] = two[i]
	}
}

func isGrid(t *testing.T, g impl.Grid, want bool) {
	t.Helper()
	if impl.IsGrid(g) != want || oracleGrid(g) != want {
		t.Fatalf("IsGrid with %d rows, %d columns and %d cells (%.100v) is not %v", g.Rows, g.Cols, len(g.Cells), g.Cells, want)
	}
}

func hasCell(t *testing.T, g impl.Grid, row, col int64, want int64) {
	t.Helper()
	if cell, code := impl.CellAt(g, row, col); code != impl.ErrNone || cell != want {
		t.Fatalf("CellAt %.300v %d %d yields %d and %d, and not %d", g, row, col, cell, code, want)
	}
}

func hasNoCell(t *testing.T, g impl.Grid, row, col int64, want int64) {
	t.Helper()
	if cell, code := impl.CellAt(g, row, col); code != want || cell != 0 {
		t.Fatalf("CellAt %.300v %d %d yields %d and %d instead of the error %d", g, row, col, cell, code, want)
	}
}

func hasFixedGrid(t *testing.T, n int64, want impl.Grid) {
	t.Helper()
	if g, code := impl.FixedGrid(n); code != impl.ErrNone || !sameGrid(g, want) {
		t.Fatalf("FixedGrid %d yields %v and %d, and not %v", n, g, code, want)
	}
}

func hasPlaces(t *testing.T, n int64, one, two []impl.Place) {
	t.Helper()
	if a, b, code := impl.FormatPlaces(n); code != impl.ErrNone || !slices.Equal(a, one) || !slices.Equal(b, two) {
		t.Fatalf("FormatPlaces %d yields %v, %v and %d, and not %v and %v", n, a, b, code, one, two)
	}
}

// puts checks that the format word is at both lists of format places, and that nothing else is changed.
func puts(t *testing.T, g impl.Grid, value int64) impl.Grid {
	t.Helper()
	want, word := copied(g), oracleFormatWord(t, standard, value)
	copiesIn(want).put(word, word)
	out, code := impl.PutFormat(g, value)
	if code != impl.ErrNone || !sameGrid(out, want) {
		t.Fatalf("PutFormat %v %d yields %v and %d", g, value, out, code)
	}
	return out
}

func putsNot(t *testing.T, g impl.Grid, value int64, want int64) {
	t.Helper()
	if out, code := impl.PutFormat(g, value); code != want || !isNoGrid(out) {
		t.Fatalf("PutFormat %.300v %d yields %.300v and %d instead of the error %d", g, value, out, code, want)
	}
}

func hasFormat(t *testing.T, g impl.Grid, want int64) {
	t.Helper()
	if value, code := impl.ReadFormat(g); code != impl.ErrNone || value != want {
		t.Fatalf("ReadFormat %v yields %d and %d, and not %d", g, value, code, want)
	}
}

func hasNoFormat(t *testing.T, g impl.Grid, want int64) {
	t.Helper()
	if value, code := impl.ReadFormat(g); code != want || value != 0 {
		t.Fatalf("ReadFormat %.300v yields %d and %d instead of the error %d", g, value, code, want)
	}
}

// checkFormat puts two lists in the format places and holds ReadFormat against what the document says of
// them. It returns the case of the tests of chapter 8.
func (c copies) checkFormat(t *testing.T, b codebook, one, two []int64) string {
	t.Helper()
	c.put(one, two)
	what := b.checkShare(t, one, two)
	if value, code := impl.FormatShare(standard, one, two); code == impl.ErrNone {
		hasFormat(t, c.grid, value)
	} else {
		hasNoFormat(t, c.grid, code)
	}
	return what
}

func hasFixedErrors(t *testing.T, g impl.Grid, want int64) {
	t.Helper()
	if count, code := impl.FixedErrors(g); code != impl.ErrNone || count != want {
		t.Fatalf("FixedErrors %v yields %d and %d, and not %d", g, count, code, want)
	}
}

func hasNoFixedErrors(t *testing.T, g impl.Grid, want int64) {
	t.Helper()
	if count, code := impl.FixedErrors(g); code != want || count != 0 {
		t.Fatalf("FixedErrors %.300v yields %d and %d instead of the error %d", g, count, code, want)
	}
}

// isNoSymbol checks the functions that need a grid of a matrix size.
func isNoSymbol(t *testing.T, g impl.Grid) {
	t.Helper()
	returns(t, "a function of chapter 14", func() {
		t.Helper()
		for _, value := range []int64{0, 21, 31, 32, -1, math.MaxInt64, math.MinInt64} {
			putsNot(t, g, value, impl.ErrInvalid)
		}
		hasNoFormat(t, g, impl.ErrInvalid)
		hasNoFixedErrors(t, g, impl.ErrInvalid)
	})
}

func TestCellLimits(t *testing.T) {
	if impl.MaxCells != 40000 || impl.FinderSize != 7 {
		t.Error("limits", impl.MaxCells, impl.FinderSize)
	}
}

// The symbols of two sizes, drawn by hand.
func TestDrawings(t *testing.T) {
	for size, rows := range map[int64][]string{
		17: {
			"#######-o-#######",
			"#-----#-o-#-----#",
			"#-###-#-o-#-###-#",
			"#-###-#-o-#-###-#",
			"#-###-#-o-#-###-#",
			"#-----#-o-#-----#",
			"#######-#-#######",
			"--------o--------",
			"oooooo#oooooooooo",
			"--------#........",
			"#######-o........",
			"#-----#-o........",
			"#-###-#-o........",
			"#-###-#-o........",
			"#-###-#-o........",
			"#-----#-o........",
			"#######-o........",
		},
		21: {
			"#######-o....-#######",
			"#-----#-o....-#-----#",
			"#-###-#-o....-#-###-#",
			"#-###-#-o....-#-###-#",
			"#-###-#-o....-#-###-#",
			"#-----#-o....-#-----#",
			"#######-#-#-#-#######",
			"--------o....--------",
			"oooooo#oo....oooooooo",
			"......-..............",
			"......#..............",
			"......-..............",
			"......#..............",
			"--------#............",
			"#######-o............",
			"#-----#-o............",
			"#-###-#-o............",
			"#-###-#-o............",
			"#-###-#-o............",
			"#-----#-o............",
			"#######-o............",
		},
	} {
		if drawn := string(slices.Concat(drawingOf(size).rows...)); drawn != strings.Join(rows, "") {
			t.Error("the symbol of the size", size, "is drawn as", drawn)
		}
		hasFixedGrid(t, size, gridOf(rows...))
	}
}

func TestFixedGrid(t *testing.T) {
	for _, size := range matrixSizes {
		hasFixedGrid(t, size, drawingOf(size).grid())
		g, _ := impl.FixedGrid(size)
		isGrid(t, g, true)
	}
}

func TestFormatPlaces(t *testing.T) {
	for _, size := range matrixSizes {
		one, two := oraclePlaces(size)
		hasPlaces(t, size, one, two)
	}
}

// The second list of one size, as numbers.
func TestFormatPlacesByHand(t *testing.T) {
	one, _ := oraclePlaces(25)
	hasPlaces(t, 25, one, []impl.Place{
		{Row: 24, Col: 8}, {Row: 23, Col: 8}, {Row: 22, Col: 8}, {Row: 21, Col: 8}, {Row: 20, Col: 8}, {Row: 19, Col: 8}, {Row: 18, Col: 8},
		{Row: 8, Col: 17}, {Row: 8, Col: 18}, {Row: 8, Col: 19}, {Row: 8, Col: 20}, {Row: 8, Col: 21}, {Row: 8, Col: 22}, {Row: 8, Col: 23}, {Row: 8, Col: 24},
	})
}

// No cell is of two kinds, and the numbers of data cells are as they were found by hand.
func TestDataCount(t *testing.T) {
	want := []int64{64, 208, 384, 592, 832, 1104, 1408}
	for i, size := range matrixSizes {
		d := drawingOf(size)
		if d.count('X') != 0 || d.count('#')+d.count('-')+d.count('o')+d.count('.') != size*size || d.count('o') != 30 {
			t.Error("a cell of the size", size, "has been drawn twice, or not at all")
		}
		if count := impl.DataCount(size); count != want[i] || count != d.count('.') {
			t.Error("DataCount", size, "yields", count, "and not", d.count('.'))
		}
	}
}

// Every cell is either fixed, or in one of both lists of format places once, or one of so many data cells
// as DataCount has it; this looks at nothing but what the functions yield.
func TestCellsAreOfOneKind(t *testing.T) {
	for _, size := range matrixSizes {
		g, first := impl.FixedGrid(size)
		one, two, second := impl.FormatPlaces(size)
		if first != impl.ErrNone || second != impl.ErrNone || len(one) != 15 || len(two) != 15 {
			t.Fatal("FixedGrid and FormatPlaces", size, "yield", first, second, one, two)
		}
		kinds := map[impl.Place]string{}
		for _, at := range one {
			kinds[at] += "o"
		}
		for _, at := range two {
			kinds[at] += "o"
		}
		count := map[string]int64{}
		for row := range size {
			for col := range size {
				at := impl.Place{Row: row, Col: col}
				switch cell, code := impl.CellAt(g, row, col); {
				case code != impl.ErrNone:
					t.Fatal("CellAt", row, col, "has the error", code)
				case cell == 1:
					kinds[at] += "#"
				case cell == 0:
					kinds[at] += "-"
				case kinds[at] == "":
					kinds[at] = "."
				}
				if want := string(drawingOf(size).rows[row][col]); kinds[at] != want {
					t.Fatalf("the cell %v of the size %d is %s, and not %s", at, size, kinds[at], want)
				}
				count[kinds[at]]++
			}
		}
		if int64(len(kinds)) != size*size || count["."] != impl.DataCount(size) || count["o"] != 30 || count["#"]+count["-"]+count["."]+30 != size*size {
			t.Fatalf("the cells of the size %d are %v, and %d of them are in the symbol or at format places", size, count, len(kinds))
		}
	}
}

// notMatrixSizes are next to matrix sizes, have the same remainder, or are one of them but for their
// upper bits.
func notMatrixSizes() []int64 {
	numbers := slices.Concat(oddNumbers, []int64{1<<32 + 25, 1<<32 + 29, math.MaxInt64 - 2, math.MinInt64 + 25, math.MinInt64 + 41, -29, -33, -37})
	for _, n := range numbersFrom(-100, 401) {
		if !slices.Contains(matrixSizes, n) {
			numbers = append(numbers, n)
		}
	}
	return numbers
}

func TestNoMatrixSizes(t *testing.T) {
	for _, n := range notMatrixSizes() {
		returns(t, "a function of chapter 14", func() {
			if count := impl.DataCount(n); count != 0 {
				t.Error("DataCount", n, "yields", count)
			}
			if g, code := impl.FixedGrid(n); code != impl.ErrRange || !isNoGrid(g) {
				t.Error("FixedGrid", n, "yields", g, code)
			}
			if one, two, code := impl.FormatPlaces(n); code != impl.ErrRange || len(one) != 0 || len(two) != 0 {
				t.Error("FormatPlaces", n, "yields", one, two, code)
			}
		})
	}
}

// All small numbers of rows, columns and cells.
func TestIsGridOfEveryShape(t *testing.T) {
	t.Parallel()
	for _, rows := range numbersFrom(-4, 14) {
		for _, cols := range numbersFrom(-4, 14) {
			for length := range 170 {
				isGrid(t, impl.Grid{Rows: rows, Cols: cols, Cells: make([]int64, length)}, rows > 0 && cols > 0 && rows*cols == int64(length))
			}
			isGrid(t, impl.Grid{Rows: rows, Cols: cols}, false)
		}
	}
}

// The greatest numbers of rows and columns, and those beyond, each with just so many cells.
func TestIsGridAtTheLimit(t *testing.T) {
	t.Parallel()
	shapes := [][2]int64{{200, 201}, {201, 200}, {201, 201}, {13, 3077}, {3077, 13}, {17, 2353}, {181, 221}, {2, 20001}, {3, 13334}, {400, 400}, {1, 65536}, {65536, 1}, {256, 256}}
	for rows := int64(1); rows <= 40001; rows++ {
		if 40000%rows == 0 {
			shapes = append(shapes, [2]int64{rows, 40000 / rows})
		}
		if 40001%rows == 0 {
			shapes = append(shapes, [2]int64{rows, 40001 / rows})
		}
		if 39999%rows == 0 {
			shapes = append(shapes, [2]int64{rows, 39999 / rows})
		}
	}
	seen := map[bool]int{}
	for _, shape := range shapes {
		rows, cols := shape[0], shape[1]
		for _, more := range []int64{-1, 0, 1} {
			valid := more == 0 && rows*cols <= 40000
			isGrid(t, impl.Grid{Rows: rows, Cols: cols, Cells: make([]int64, rows*cols+more)}, valid)
			seen[valid]++
		}
		isGrid(t, impl.Grid{Rows: rows, Cols: cols, Cells: make([]int64, 40000)}, rows*cols == 40000)
		for _, cell := range []int64{-1, 1} {
			isGrid(t, filledGrid(rows, cols, cell), rows*cols <= 40000)
		}
	}
	if seen[true] < 40 || seen[false] < 80 {
		t.Error("grids are valid or not:", seen)
	}
}

// inverseOf is the number whose product with an odd one is 1 when it wraps around.
func inverseOf(odd int64) int64 {
	inverse := int64(1)
	for range 6 {
		inverse *= 2 - odd*inverse
	}
	return inverse
}

// Great and negative numbers whose product is a small number when it wraps around, with so many cells.
func TestIsGridWithoutWrappingAround(t *testing.T) {
	t.Parallel()
	numbers := slices.Concat(extremes, []int64{0, 1, 2, 4, 17, 200, 1 << 16, 1 << 31, 1 << 33, 1 << 48, 1 << 60, 1<<62 + 1, 1<<61 + 17, -2, -4, -17, -200, -40000})
	for _, odd := range []int64{3, 5, 7, 17, 21, 201, 12345, 1<<32 + 1, 1<<40 + 3} {
		inverse := inverseOf(odd)
		numbers = append(numbers, odd, -odd, inverse, -inverse, 17*inverse, -17*inverse)
	}
	wrapped := 0
	for _, rows := range numbers {
		for _, cols := range numbers {
			lengths := []int64{0, 1, 17}
			product := rows * cols
			if product >= 0 && product <= 50000 {
				lengths = append(lengths, product)
			}
			for _, length := range lengths {
				g := impl.Grid{Rows: rows, Cols: cols, Cells: make([]int64, length)}
				want := oracleGrid(g)
				if !want && length == product && length > 0 && length <= 40000 {
					wrapped++
				}
				returns(t, "a function of chapter 14", func() {
					isGrid(t, g, want)
					if !want {
						hasNoCell(t, g, 0, 0, impl.ErrInvalid)
						isNoSymbol(t, g)
					}
				})
			}
		}
	}
	if wrapped < 50 {
		t.Error("products that wrap around to a number of cells:", wrapped)
	}
}

// strangeCells are no cells, some of them only with their upper bits.
func strangeCells() []int64 {
	cells := slices.DeleteFunc(slices.Clone(oddNumbers), func(cell int64) bool { return cell == -1 })
	return append(cells, -3, -2, 2, 3, '#', '-', 255, 256, 257, 1<<32-1, 1<<63-2, math.MinInt64+1)
}

// Each cell replaced by any number.
func TestIsGridOfEveryCell(t *testing.T) {
	t.Parallel()
	source := rand.New(rand.NewSource(701))
	for _, shape := range [][2]int64{{1, 1}, {1, 5}, {5, 1}, {3, 4}, {17, 17}, {9, 20}} {
		g := someGrid(source, shape[0], shape[1])
		isGrid(t, g, true)
		for at := range g.Cells {
			for _, cell := range []int64{-1, 0, 1} {
				isGrid(t, impl.Grid{Rows: g.Rows, Cols: g.Cols, Cells: with(g.Cells, at, cell)}, true)
			}
			for _, cell := range strangeCells() {
				isGrid(t, impl.Grid{Rows: g.Rows, Cols: g.Cols, Cells: with(g.Cells, at, cell)}, false)
			}
		}
	}
	great := someGrid(source, 200, 200)
	isGrid(t, great, true)
	for _, at := range []int{0, 1, 199, 200, 20000, 39998, 39999} {
		isGrid(t, impl.Grid{Rows: 200, Cols: 200, Cells: with(great.Cells, at, 2)}, false)
		isGrid(t, impl.Grid{Rows: 200, Cols: 200, Cells: with(great.Cells, at, -2)}, false)
	}
}

// Nil and empty lists are the same value, and no grid has none.
func TestGridsOfNoCells(t *testing.T) {
	for _, none := range [][]int64{nil, {}, make([]int64, 0, 289)} {
		for _, n := range slices.Concat(numbersFrom(-2, 50), extremes) {
			for _, g := range []impl.Grid{{Rows: n, Cols: n, Cells: none}, {Rows: 0, Cols: n, Cells: none}, {Rows: n, Cols: 0, Cells: none}, {Rows: 1, Cols: n, Cells: none}} {
				isGrid(t, g, false)
				hasNoCell(t, g, 0, 0, impl.ErrInvalid)
				isNoSymbol(t, g)
			}
		}
	}
}

func TestCellAtByHand(t *testing.T) {
	g := gridOf("#-.", ".##")
	for _, x := range [][3]int64{{0, 0, 1}, {0, 1, 0}, {0, 2, -1}, {1, 0, -1}, {1, 1, 1}, {1, 2, 1}} {
		hasCell(t, g, x[0], x[1], x[2])
	}
	for _, x := range [][2]int64{{0, 3}, {2, 0}, {-1, 0}, {0, -1}, {1, 3}, {2, 2}, {1, -1}, {0, 5}, {5, 0}, {-1, 3}, {2, -1}, {-1, -1}} {
		hasNoCell(t, g, x[0], x[1], impl.ErrRange)
	}
}

// All cells of grids of any shape and what lies around them, and great and negative numbers, some of
// which lead to an index of a cell when they wrap around.
func TestCellAt(t *testing.T) {
	t.Parallel()
	source := rand.New(rand.NewSource(702))
	shapes := [][2]int64{{1, 1}, {1, 7}, {7, 1}, {2, 2}, {4, 4}, {3, 8}, {8, 3}, {17, 17}, {16, 32}, {21, 17}, {200, 200}, {1, 40000}, {40000, 1}}
	for _, shape := range shapes {
		g := someGrid(source, shape[0], shape[1])
		isGrid(t, g, true)
		// The product of some of these with the number of columns wraps around to 0, 1 or 2.
		wrapping := []int64{1 << 59, 1 << 60, 1 << 61, inverseOf(g.Cols | 1), 2 * inverseOf(g.Cols|1)}
		rows := slices.Concat(extremes, wrapping, ends(g.Rows), []int64{-2, g.Rows + 1, -g.Rows, 2 * g.Rows})
		cols := slices.Concat(extremes, ends(g.Cols), []int64{-2, g.Cols + 1, -g.Cols, 2 * g.Cols, g.Rows * g.Cols, g.Rows*g.Cols - 1, 1 << 61})
		for _, row := range rows {
			for _, col := range cols {
				if row >= 0 && row < g.Rows && col >= 0 && col < g.Cols {
					hasCell(t, g, row, col, g.Cells[int(row)*int(g.Cols)+int(col)])
				} else {
					hasNoCell(t, g, row, col, impl.ErrRange)
				}
			}
		}
	}
}

// ends are -1 to count, without those in the middle where count is great.
func ends(count int64) []int64 {
	all := numbersFrom(-1, count+1)
	if len(all) > 60 {
		return append(all[:30], all[len(all)-30:]...)
	}
	return all
}

// brokenGrids are of a matrix size but for one thing, or have several faults.
func brokenGrids() []impl.Grid {
	var grids []impl.Grid
	for _, size := range []int64{17, 29, 41} {
		g := drawingOf(size).grid()
		grids = append(grids,
			impl.Grid{Rows: size, Cols: size, Cells: g.Cells[1:]},
			impl.Grid{Rows: size, Cols: size, Cells: g.Cells[:len(g.Cells)-1]},
			impl.Grid{Rows: size, Cols: size, Cells: append(slices.Clone(g.Cells), 0)},
			impl.Grid{Rows: size, Cols: size, Cells: append(slices.Clone(g.Cells), g.Cells...)},
			impl.Grid{Rows: size, Cols: size},
			impl.Grid{Rows: size, Cols: 0, Cells: g.Cells},
			impl.Grid{Rows: 0, Cols: size, Cells: g.Cells},
			impl.Grid{Rows: -size, Cols: -size, Cells: g.Cells},
			impl.Grid{Rows: size, Cols: -size, Cells: g.Cells},
			impl.Grid{Rows: size, Cols: size - 1, Cells: g.Cells},
			impl.Grid{Rows: size - 1, Cols: size, Cells: g.Cells},
			impl.Grid{Rows: size, Cols: size + 4, Cells: g.Cells},
			impl.Grid{Rows: 1<<32 + size, Cols: 1<<32 + size, Cells: g.Cells},
			impl.Grid{Rows: math.MinInt64 + size, Cols: math.MinInt64 + size, Cells: g.Cells},
			impl.Grid{Rows: math.MaxInt64, Cols: math.MaxInt64, Cells: []int64{1}},
		)
		for _, cell := range []int64{2, -2, 255, filler, math.MaxInt64, math.MinInt64, 1 << 32, 1<<32 + 1} {
			// A data cell, a fixed one, one at a format place, and the last one.
			for _, at := range []int{int(size)*10 + 10, 0, 8, len(g.Cells) - 1} {
				grids = append(grids, impl.Grid{Rows: size, Cols: size, Cells: with(g.Cells, at, cell)})
			}
		}
	}
	return append(grids, impl.Grid{}, impl.Grid{Rows: 200, Cols: 201, Cells: make([]int64, 40200)}, impl.Grid{Rows: 18, Cols: 18, Cells: make([]int64, 323)})
}

// A grid that is not valid comes before cells that are not there and before numbers that are no formats.
func TestErrorsOfBrokenGrids(t *testing.T) {
	t.Parallel()
	for _, g := range brokenGrids() {
		isGrid(t, g, false)
		for _, at := range [][2]int64{{0, 0}, {1, 1}, {16, 16}, {-1, 0}, {0, -1}, {g.Rows, 0}, {0, g.Cols}, {math.MaxInt64, math.MinInt64}} {
			hasNoCell(t, g, at[0], at[1], impl.ErrInvalid)
		}
		isNoSymbol(t, g)
	}
}

// Grids that are valid, but are not square or have another size.
func TestGridsThatAreNoSymbols(t *testing.T) {
	t.Parallel()
	source := rand.New(rand.NewSource(703))
	shapes := [][2]int64{{1, 289}, {289, 1}, {1, 1}, {200, 200}, {17, 18}, {18, 17}, {1, 17}, {17, 1}, {40000, 1}}
	for n := int64(1); n <= 60; n++ {
		if !slices.Contains(matrixSizes, n) {
			shapes = append(shapes, [2]int64{n, n})
		}
	}
	for _, rows := range matrixSizes {
		for _, cols := range matrixSizes {
			if rows != cols {
				shapes = append(shapes, [2]int64{rows, cols})
			}
		}
	}
	for _, shape := range shapes {
		rows, cols := shape[0], shape[1]
		for _, g := range []impl.Grid{filledGrid(rows, cols, 0), filledGrid(rows, cols, 1), filledGrid(rows, cols, -1), someGrid(source, rows, cols)} {
			isGrid(t, g, true)
			hasCell(t, g, rows-1, cols-1, g.Cells[len(g.Cells)-1])
			isNoSymbol(t, g)
		}
	}
}

// The word of 1, 000010100110111, where the document has its bits.
func TestPutFormatByHand(t *testing.T) {
	want := gridOf(
		"#######-#-#######",
		"#-----#-#-#-----#",
		"#-###-#-#-#-###-#",
		"#-###-#---#-###-#",
		"#-###-#-#-#-###-#",
		"#-----#-#-#-----#",
		"#######-#-#######",
		"-----------------",
		"----#-##---##-###",
		"--------#........",
		"#######-#........",
		"#-----#--........",
		"#-###-#-#........",
		"#-###-#--........",
		"#-###-#--........",
		"#-----#--........",
		"#######--........",
	)
	g, _ := impl.FixedGrid(17)
	if out := puts(t, g, 1); !sameGrid(out, want) {
		t.Errorf("PutFormat yields %v", out)
	}
	hasFormat(t, want, 1)
	hasFixedErrors(t, want, 0)
}

// Every number in every size, put into grids of any cells, also over another format.
func TestPutFormat(t *testing.T) {
	t.Parallel()
	source := rand.New(rand.NewSource(704))
	for _, size := range matrixSizes {
		for _, g := range backgrounds(source, size) {
			errors, code := impl.FixedErrors(g)
			if code != impl.ErrNone {
				t.Fatal("FixedErrors yields", code)
			}
			for value := range int64(32) {
				out := puts(t, g, value)
				hasFormat(t, out, value)
				hasFixedErrors(t, out, errors)
				again := puts(t, out, 31-value)
				hasFormat(t, again, 31-value)
				if back := puts(t, again, value); !sameGrid(back, out) {
					t.Fatalf("%v is not restored", out)
				}
			}
		}
	}
}

// Numbers that are no formats, some of them only with their upper bits.
func TestPutFormatOutOfRange(t *testing.T) {
	t.Parallel()
	source := rand.New(rand.NewSource(705))
	for _, size := range matrixSizes {
		for _, g := range backgrounds(source, size) {
			for _, value := range slices.Concat(extremes, numbersFrom(-40, 0), numbersFrom(32, 130), []int64{1<<32 + 31, math.MinInt64 + 31, 1 << 59, 1<<15 - 1}) {
				returns(t, "PutFormat", func() { putsNot(t, g, value, impl.ErrRange) })
			}
			puts(t, g, 0)
			puts(t, g, 31)
		}
	}
}

// threeWrong are all words with up to three bits that differ from a word.
func threeWrong(word []int64) [][]int64 {
	var lists [][]int64
	eachChange(word, 6, false, func(list []int64, _, _ int64) { lists = append(lists, slices.Clone(list)) })
	return lists
}

// Every number in every size, with every choice of up to three wrong cells in each list, each one of
// which meets some choice in the other list.
func TestFormatWithThreeWrongCells(t *testing.T) {
	for _, size := range matrixSizes {
		t.Run(fmt.Sprint(size), func(t *testing.T) {
			t.Parallel()
			source := rand.New(rand.NewSource(706 + size))
			for value := range int64(32) {
				g, _ := impl.FixedGrid(size)
				out, code := impl.PutFormat(g, value)
				if code != impl.ErrNone {
					t.Fatal("PutFormat", size, value, "yields", code)
				}
				c := copiesIn(out)
				lists := threeWrong(oracleFormatWord(t, standard, value))
				if len(lists) != 576 {
					t.Fatal("there are", len(lists), "choices")
				}
				for _, list := range lists {
					for range 2 {
						other := lists[source.Intn(len(lists))]
						c.put(list, other)
						hasFormat(t, c.grid, value)
						c.put(other, list)
						hasFormat(t, c.grid, value)
					}
				}
			}
		})
	}
}

// All choices of up to three wrong cells in both lists, for some numbers in the least size.
func TestFormatWithThreeWrongCellsInBothLists(t *testing.T) {
	for _, value := range []int64{0, 13, 22, 31} {
		t.Run(fmt.Sprint(value), func(t *testing.T) {
			t.Parallel()
			c := copiesIn(puts(t, drawingOf(17).grid(), value))
			lists := threeWrong(oracleFormatWord(t, standard, value))
			for _, one := range lists {
				for _, two := range lists {
					c.put(one, two)
					hasFormat(t, c.grid, value)
				}
			}
		})
	}
}

// Every number in every size, with wrong and unknown cells within the bound of chapter 8 in both lists.
func TestFormatWithUnknownCells(t *testing.T) {
	for _, size := range matrixSizes {
		t.Run(fmt.Sprint(size), func(t *testing.T) {
			t.Parallel()
			source := rand.New(rand.NewSource(745 + size))
			var all []counts
			for wrong := range int64(4) {
				for unknown := range 7 - 2*wrong {
					all = append(all, counts{wrong, unknown})
				}
			}
			for value := range int64(32) {
				word := oracleFormatWord(t, standard, value)
				c := copiesIn(puts(t, someGrid(source, size, size), value))
				for _, m := range all {
					for _, n := range all {
						c.put(changed(source, word, m.wrong, m.erased), changed(source, word, n.wrong, n.erased))
						hasFormat(t, c.grid, value)
					}
				}
			}
		})
	}
}

// Every choice of wrong and of unknown cells within the bound of chapter 8 in one list, while the other
// one is lost: all unknown, or so damaged that it is no format.
func TestFormatWithOneListLost(t *testing.T) {
	b := bookOf(t, standard)
	for _, size := range matrixSizes {
		t.Run(fmt.Sprint(size), func(t *testing.T) {
			t.Parallel()
			source := rand.New(rand.NewSource(713 + size))
			lost := [][]int64{unknownList(15)}
			for len(lost) < 200 {
				list := someList(source, 15)
				if len(lost) < 100 {
					list = randomBits(source, 15)
				}
				if !b.isRead(b.search(list)) {
					lost = append(lost, list)
				}
			}
			value := source.Int63n(32)
			c := copiesIn(someGrid(source, size, size))
			seen := 0
			eachChange(b.words[value], 6, true, func(list []int64, wrong, unknown int64) {
				seen++
				other := lost[seen%len(lost)]
				c.put(list, other)
				hasFormat(t, c.grid, value)
				c.put(other, list)
				hasFormat(t, c.grid, value)
			})
			if seen != 42129 {
				t.Error("there are", seen, "choices")
			}
			for value, word := range b.words {
				for _, other := range lost {
					c.put(word, other)
					hasFormat(t, c.grid, int64(value))
					c.put(other, word)
					hasFormat(t, c.grid, int64(value))
				}
			}
		})
	}
}

// Both lists are damaged up to the bound and beyond, and may have different numbers: they are read as the
// document says of them. The other cells are of any kind.
func TestReadFormatOfAnyCells(t *testing.T) {
	b := bookOf(t, standard)
	for _, size := range matrixSizes {
		t.Run(fmt.Sprint(size), func(t *testing.T) {
			t.Parallel()
			source := rand.New(rand.NewSource(720 + size))
			seen := map[string]int{}
			for _, g := range backgrounds(source, size) {
				c := copiesIn(g)
				for range 1500 {
					value := source.Intn(32)
					other := value
					if source.Intn(2) == 0 {
						other = source.Intn(32)
					}
					one := changed(source, b.words[value], source.Int63n(5), source.Int63n(5))
					two := changed(source, b.words[other], source.Int63n(5), source.Int63n(5))
					seen[c.checkFormat(t, b, one, two)]++
				}
				for range 300 {
					seen[c.checkFormat(t, b, someList(source, 15), someList(source, 15))]++
					seen[c.checkFormat(t, b, randomBits(source, 15), randomBits(source, 15))]++
				}
			}
			for _, what := range everyShare {
				if seen[what] < 100 {
					t.Error("the case", what, "is there", seen[what], "times")
				}
			}
		})
	}
}

// The bound by hand: 2 times the wrong cells and the unknown ones of one list are 6, or 7 in both.
func TestReadFormatByHand(t *testing.T) {
	b := bookOf(t, standard)
	word := b.words[6]
	hit := func(wrong, unknown int) []int64 { return changedInFront(word, wrong, unknown) }
	within := [][]int64{hit(0, 0), hit(3, 0), hit(2, 2), hit(1, 4), hit(0, 6)}
	beyond := [][]int64{hit(3, 1), hit(2, 3), hit(1, 5), hit(0, 7), hit(0, 15)}
	for _, size := range matrixSizes {
		c := copiesIn(drawingOf(size).grid())
		for _, one := range beyond {
			for _, two := range beyond {
				c.put(one, two)
				hasNoFormat(t, c.grid, impl.ErrDamage)
			}
			for _, two := range within {
				c.put(one, two)
				hasFormat(t, c.grid, 6)
				c.put(two, one)
				hasFormat(t, c.grid, 6)
			}
		}
		// All cells of a list are turned: that is the word of 25, as whole as the other one, and the first
		// list counts. With one unknown cell in the first one, the second one does.
		turned := b.words[25]
		c.put(word, turned)
		hasFormat(t, c.grid, 6)
		c.put(turned, word)
		hasFormat(t, c.grid, 25)
		c.put(hit(0, 1), turned)
		hasFormat(t, c.grid, 25)
		c.put(with(turned, 14, -1), word)
		hasFormat(t, c.grid, 6)
	}
}

// Every single cell that is turned or becomes unknown.
func TestFixedErrorsOfEveryCell(t *testing.T) {
	for _, size := range matrixSizes {
		t.Run(fmt.Sprint(size), func(t *testing.T) {
			t.Parallel()
			source := rand.New(rand.NewSource(730 + size))
			d := drawingOf(size)
			g := d.grid()
			hasFixedErrors(t, g, 0)
			for at := range g.Cells {
				if !d.isFixed(at) {
					g.Cells[at] = source.Int63n(2)
				}
			}
			hasFixedErrors(t, g, 0)
			for at, cell := range g.Cells {
				g.Cells[at] = 1 - cell
				if d.isFixed(at) {
					hasFixedErrors(t, g, 1)
				} else {
					hasFixedErrors(t, g, 0)
				}
				g.Cells[at] = -1
				hasFixedErrors(t, g, 0)
				g.Cells[at] = cell
			}
			hasFixedErrors(t, g, 0)
		})
	}
}

// Any number of cells that are turned or become unknown. Cells that are not fixed are of any kind.
func TestFixedErrors(t *testing.T) {
	t.Parallel()
	source := rand.New(rand.NewSource(738))
	for _, size := range matrixSizes {
		d := drawingOf(size)
		dark, light := d.count('#'), d.count('-')
		hasFixedErrors(t, filledGrid(size, size, -1), 0)
		hasFixedErrors(t, filledGrid(size, size, 0), dark)
		hasFixedErrors(t, filledGrid(size, size, 1), light)
		all := d.grid()
		for at, cell := range all.Cells {
			all.Cells[at] = 1 - max(cell, 0)
		}
		hasFixedErrors(t, all, dark+light)
		for i := range 100 {
			g, want := d.grid(), int64(0)
			turned, unknown := source.Intn(101), source.Intn(101)
			if i < 30 {
				turned = 0
			}
			for at, cell := range g.Cells {
				switch {
				case !d.isFixed(at):
					g.Cells[at] = source.Int63n(3) - 1
				case source.Intn(100) < unknown:
					g.Cells[at] = -1
				case source.Intn(100) < turned:
					g.Cells[at] = 1 - cell
					want++
				}
			}
			hasFixedErrors(t, g, want)
		}
	}
}

// The same grid has the same answers, whatever lies behind its cells, and is not changed.
func TestGridsStay(t *testing.T) {
	t.Parallel()
	source := rand.New(rand.NewSource(739))
	grids := slices.Concat(brokenGrids(), []impl.Grid{someGrid(source, 3, 5), someGrid(source, 18, 18), someGrid(source, 200, 200)})
	for _, size := range matrixSizes {
		grids = append(grids, backgrounds(source, size)...)
	}
	for _, g := range grids {
		guarded := guard(g.Cells)
		same := impl.Grid{Rows: g.Rows, Cols: g.Cols, Cells: guarded.list}
		value := source.Int63n(34) - 1
		first := gridAnswers(same, value, 3, 4)
		guarded.check(t, "a function of chapter 14")
		if second := gridAnswers(g, value, 3, 4); first != second {
			t.Fatalf("%.300v has the results %.300s and %.300s", g, first, second)
		}
		if out, code := impl.PutFormat(same, 21); code == impl.ErrNone {
			unshared(t, "PutFormat", func() []int64 { out, _ := impl.PutFormat(same, 21); return out.Cells }, guarded)
			if out.Rows != g.Rows || out.Cols != g.Cols {
				t.Fatal("PutFormat yields", out)
			}
		}
	}
}

// Grids whose cells are parts of one list.
func TestGridsInOneMemory(t *testing.T) {
	source := rand.New(rand.NewSource(740))
	guarded := guard(someList(source, 2*289+1))
	for _, from := range []int{0, 1, 288, 289, 290} {
		g := impl.Grid{Rows: 17, Cols: 17, Cells: guarded.list[from : from+289]}
		for _, value := range []int64{0, 9, 31} {
			hasFormat(t, puts(t, g, value), value)
		}
		guarded.check(t, "PutFormat")
	}
}

// A caller overwrites what it got: this changes neither what others got nor what a later call yields.
func TestSymbolResultsAreNew(t *testing.T) {
	other := impl.Place{Row: filler, Col: filler}
	for _, size := range matrixSizes {
		unshared(t, "FixedGrid", func() []int64 { g, _ := impl.FixedGrid(size); return g.Cells })
		hasFixedGrid(t, size, drawingOf(size).grid())
		wantOne, wantTwo := oraclePlaces(size)
		one, two, _ := impl.FormatPlaces(size)
		three, four, _ := impl.FormatPlaces(size)
		for _, lists := range [][2][]impl.Place{{one, two}, {four, three}} {
			for i := range lists[0][:cap(lists[0])] {
				lists[0][:cap(lists[0])][i] = other
			}
			if !slices.Equal(lists[1], wantTwo) && !slices.Equal(lists[1], wantOne) {
				t.Fatal("FormatPlaces has its lists in one memory:", lists[1])
			}
			for i := range lists[1][:cap(lists[1])] {
				lists[1][:cap(lists[1])][i] = other
			}
			hasPlaces(t, size, wantOne, wantTwo)
		}
	}
}

// gridAnswers are the results of all functions of the chapter, as a text.
func gridAnswers(g impl.Grid, value, row, col int64) string {
	cell, first := impl.CellAt(g, row, col)
	fixed, second := impl.FixedGrid(g.Rows)
	one, two, third := impl.FormatPlaces(g.Cols)
	out, fourth := impl.PutFormat(g, value)
	format, fifth := impl.ReadFormat(g)
	errors, sixth := impl.FixedErrors(g)
	return fmt.Sprint(impl.IsGrid(g), cell, first, fixed, second, one, two, third, impl.DataCount(g.Rows), out, fourth, format, fifth, errors, sixth)
}

// No call changes what a later one yields, or one at the same time.
func TestSymbolsKeepNoState(t *testing.T) {
	t.Parallel()
	source := rand.New(rand.NewSource(741))
	grids := brokenGrids()[:15]
	for _, size := range matrixSizes {
		grids = append(grids, backgrounds(source, size)...)
		grids = append(grids, someGrid(source, size, size+4))
	}
	var calls []func() string
	for _, g := range grids {
		for range 3 {
			value, row, col := source.Int63n(34)-1, source.Int63n(g.Rows&63+3)-1, source.Int63n(g.Cols&63+3)-1
			calls = append(calls, func() string { return gridAnswers(g, value, row, col) })
		}
	}
	answersStay(t, source, calls)
}

// Several callers work on the same grid at the same time.
func TestFormatsAtOnce(t *testing.T) {
	t.Parallel()
	g := drawingOf(21).grid()
	var together sync.WaitGroup
	for value := range int64(32) {
		together.Go(func() {
			for range 20 {
				out, code := impl.PutFormat(g, value)
				if read, second := impl.ReadFormat(out); code != impl.ErrNone || second != impl.ErrNone || read != value {
					t.Error("the format", value, "is read as", read, second)
				}
				scribble(out.Cells)
			}
		})
	}
	together.Wait()
	hasFixedGrid(t, 21, g)
}
