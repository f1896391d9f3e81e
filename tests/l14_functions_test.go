package tests

import (
	"math"
	"slices"
	"strings"
	"testing"

	"loop.example/g00879/impl"
)

// The oracle below does not use what it checks: a symbol is drawn cell by cell, and the cells that
// nothing has been drawn in are counted.

// matrixSizes are all sizes of matrix symbols.
var matrixSizes = []int64{17, 21, 25, 29, 33, 37, 41}

// drawing is a matrix symbol of n rows and columns of letters: a fixed cell is F, a format place is o,
// and a data cell is a dot.
type drawing struct {
	n    int
	rows [][]byte
}

// put draws a letter in a cell, if there is one. What is drawn over another letter is shown as an X.
func (d drawing) put(row, col int, letter byte) {
	if row < 0 || row >= d.n || col < 0 || col >= d.n {
		return
	}
	if d.rows[row][col] != '.' {
		letter = 'X'
	}
	d.rows[row][col] = letter
}

// putFinder draws a finder pattern, of which the upper left cell is given, and its border.
func (d drawing) putFinder(row, col int) {
	for r := row - 1; r <= row+7; r++ {
		for c := col - 1; c <= col+7; c++ {
			d.put(r, c, 'F')
		}
	}
}

func (d drawing) putFormat() {
	n := d.n
	for _, place := range [][2]int{{8, 0}, {8, 1}, {8, 2}, {8, 3}, {8, 4}, {8, 5}, {8, 7}, {8, 8}, {7, 8}, {5, 8}, {4, 8}, {3, 8}, {2, 8}, {1, 8}, {0, 8}} {
		d.put(place[0], place[1], 'o')
	}
	for row := n - 1; row >= n-7; row-- {
		d.put(row, 8, 'o')
	}
	for col := n - 8; col <= n-1; col++ {
		d.put(8, col, 'o')
	}
}

func drawingOf(size int64) drawing {
	d := drawing{n: int(size)}
	for range size {
		d.rows = append(d.rows, slices.Repeat([]byte{'.'}, d.n))
	}
	d.putFinder(0, 0)
	d.putFinder(0, d.n-7)
	d.putFinder(d.n-7, 0)
	for i := 8; i <= d.n-9; i++ {
		d.put(6, i, 'F')
		d.put(i, 6, 'F')
	}
	d.put(d.n-8, 8, 'F')
	d.putFormat()
	return d
}

// count is the number of cells with a letter.
func (d drawing) count(letter byte) int64 {
	count := int64(0)
	for _, row := range d.rows {
		for _, cell := range row {
			if cell == letter {
				count++
			}
		}
	}
	return count
}

// The symbols of two sizes, drawn by hand.
func TestDrawings(t *testing.T) {
	for size, rows := range map[int64][]string{
		17: {
			"FFFFFFFFoFFFFFFFF",
			"FFFFFFFFoFFFFFFFF",
			"FFFFFFFFoFFFFFFFF",
			"FFFFFFFFoFFFFFFFF",
			"FFFFFFFFoFFFFFFFF",
			"FFFFFFFFoFFFFFFFF",
			"FFFFFFFFFFFFFFFFF",
			"FFFFFFFFoFFFFFFFF",
			"ooooooFoooooooooo",
			"FFFFFFFFF........",
			"FFFFFFFFo........",
			"FFFFFFFFo........",
			"FFFFFFFFo........",
			"FFFFFFFFo........",
			"FFFFFFFFo........",
			"FFFFFFFFo........",
			"FFFFFFFFo........",
		},
		21: {
			"FFFFFFFFo....FFFFFFFF",
			"FFFFFFFFo....FFFFFFFF",
			"FFFFFFFFo....FFFFFFFF",
			"FFFFFFFFo....FFFFFFFF",
			"FFFFFFFFo....FFFFFFFF",
			"FFFFFFFFo....FFFFFFFF",
			"FFFFFFFFFFFFFFFFFFFFF",
			"FFFFFFFFo....FFFFFFFF",
			"ooooooFoo....oooooooo",
			"......F..............",
			"......F..............",
			"......F..............",
			"......F..............",
			"FFFFFFFFF............",
			"FFFFFFFFo............",
			"FFFFFFFFo............",
			"FFFFFFFFo............",
			"FFFFFFFFo............",
			"FFFFFFFFo............",
			"FFFFFFFFo............",
			"FFFFFFFFo............",
		},
	} {
		if drawn := string(slices.Concat(drawingOf(size).rows...)); drawn != strings.Join(rows, "") {
			t.Error("the symbol of the size", size, "is drawn as", drawn)
		}
	}
}

// No cell is of two kinds, and the numbers of data cells are as they were found by hand.
func TestDataCount(t *testing.T) {
	want := []int64{64, 208, 384, 592, 832, 1104, 1408}
	for i, size := range matrixSizes {
		d := drawingOf(size)
		if d.count('X') != 0 || d.count('F')+d.count('o')+d.count('.') != size*size || d.count('o') != 30 {
			t.Error("a cell of the size", size, "has been drawn twice, or not at all")
		}
		if count := impl.DataCount(size); count != want[i] || count != d.count('.') {
			t.Error("DataCount", size, "yields", count, "and not", d.count('.'))
		}
	}
}

func TestDataCountOfNoMatrixSize(t *testing.T) {
	numbers := slices.Concat(extremes, []int64{1<<8 + 17, 1<<16 + 17, 1<<32 + 17, 1<<32 + 41, math.MinInt64 + 17, -17, -21})
	for n := int64(-100); n <= 200; n++ {
		numbers = append(numbers, n)
	}
	for _, n := range numbers {
		if count := impl.DataCount(n); count != 0 && !slices.Contains(matrixSizes, n) {
			t.Error("DataCount", n, "yields", count)
		}
	}
}
