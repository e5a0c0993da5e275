package tests

// Promise 1: triangles are cut into cells, and labels keep sides, turn and are read back.

import (
	"math"
	"reflect"
	"slices"
	"strings"
	"testing"

	"loop.example/g01160/impl"
)

var badSides = []int{0, -1, -2, -3, impl.MaxSide + 1, impl.MaxSide + 2, 100, math.MaxInt, math.MinInt}

// want checks a call that has to succeed; a nil slice and an empty one are the same value.
func want(t *testing.T, what string, got any, ok bool, expected any) {
	t.Helper()
	if !ok {
		t.Errorf("%s failed, want %v", what, expected)
		return
	}
	if g := reflect.ValueOf(got); g.Kind() == reflect.Slice && g.Len() == 0 && reflect.ValueOf(expected).Len() == 0 {
		return
	}
	if !reflect.DeepEqual(got, expected) {
		t.Errorf("%s = %v, want %v", what, got, expected)
	}
}

// wantFailure checks that all results of a failed call are zero.
func wantFailure(t *testing.T, what string, ok bool, others ...any) {
	t.Helper()
	if ok {
		t.Errorf("%s succeeded with %v", what, others)
	}
	for _, r := range others {
		v := reflect.ValueOf(r)
		if v.Kind() == reflect.Slice && v.Len() == 0 {
			continue
		}
		if !v.IsZero() {
			t.Errorf("%s failed with %v instead of the zero value", what, r)
		}
	}
}

func badPoints(n int) []int {
	size := (n + 1) * (n + 2) / 2
	return []int{-1, -2, size, size + 1, math.MaxInt, math.MinInt}
}

// badLists are lists that are no labels for the side n.
func badLists(n int) [][]int {
	size := (n + 1) * (n + 2) / 2
	zeros := make([]int, size)
	lists := [][]int{nil, {}, zeros[:size-1], append(zeros, 0), make([]int, 1000)}
	for _, number := range []int{3, -1, 256, math.MaxInt, math.MinInt} {
		for _, i := range []int{0, size / 2, size - 1} {
			other := slices.Clone(zeros)
			other[i] = number
			lists = append(lists, other)
		}
	}
	return lists
}

func TestMaxSide(t *testing.T) {
	if impl.MaxSide != 8 {
		t.Error("MaxSide", impl.MaxSide)
	}
}

func TestExampleOfChapter1(t *testing.T) {
	points := [][]int{{2, 0, 0}, {1, 1, 0}, {1, 0, 1}, {0, 2, 0}, {0, 1, 1}, {0, 0, 2}}
	for i, p := range points {
		got, ok := impl.PointAt(2, i)
		want(t, "PointAt", got, ok, p)
	}
	cells, ok := impl.CellsOf(2)
	want(t, "CellsOf", cells, ok, [][]int{{0, 1, 2}, {1, 2, 4}, {1, 3, 4}, {2, 4, 5}})
	for cell := range 4 {
		up, ok := impl.IsUpCell(2, cell)
		want(t, "IsUpCell", up, ok, cell != 1)
	}
	n, labels, ok := impl.ParseLabels("2:0/01/112")
	want(t, "ParseLabels", labels, ok, []int{0, 0, 1, 1, 1, 2})
	keeps, ok := impl.KeepsSides(n, labels)
	want(t, "KeepsSides", keeps, ok, false)
	first, ok := impl.FirstBroken(n, labels)
	want(t, "FirstBroken", first, ok, 2)
	n, labels, ok = impl.ParseLabels("2:0/02/112")
	want(t, "ParseLabels", labels, ok, []int{0, 0, 2, 1, 1, 2})
	keeps, ok = impl.KeepsSides(n, labels)
	want(t, "KeepsSides", keeps, ok, true)
}

func TestSideOne(t *testing.T) {
	count, ok := impl.CountPoints(1)
	want(t, "CountPoints", count, ok, 3)
	cells, ok := impl.CellsOf(1)
	want(t, "CellsOf", cells, ok, [][]int{{0, 1, 2}})
	up, ok := impl.IsUpCell(1, 0)
	want(t, "IsUpCell", up, ok, true)
	border, ok := impl.BorderOf(1)
	want(t, "BorderOf", border, ok, []int{0, 1, 2})
	near, ok := impl.NeighboursOf(1, 1)
	want(t, "NeighboursOf", near, ok, []int{0, 2})
	sides, ok := impl.SidesOf(1, 2)
	want(t, "SidesOf", sides, ok, []int{0, 1})
	with, ok := impl.CellsWith(1, 2, 0)
	want(t, "CellsWith", with, ok, []int{0})
	keeping, ok := impl.CountKeeping(1)
	want(t, "CountKeeping", keeping, ok, 1)
	turned, ok := impl.TurnLabels(1, []int{0, 1, 2})
	want(t, "TurnLabels", turned, ok, []int{0, 1, 2})
	text, ok := impl.LabelsText(1, []int{0, 1, 2})
	want(t, "LabelsText", text, ok, "1:0/12")
}

func TestPoints(t *testing.T) {
	for n := 1; n <= impl.MaxSide; n++ {
		points := oraclePoints(n)
		count, ok := impl.CountPoints(n)
		want(t, "CountPoints", count, ok, len(points))
		for i, p := range points {
			got, ok := impl.PointAt(n, i)
			want(t, "PointAt", got, ok, p)
			index, ok := impl.IndexOfPoint(n, p)
			want(t, "IndexOfPoint", index, ok, i)
			sides, ok := impl.SidesOf(n, i)
			want(t, "SidesOf", sides, ok, oracleSides(n, i))
		}
	}
}

func TestIndexOfPointFails(t *testing.T) {
	lists := [][]int{
		nil, {}, {2}, {1, 1}, {2, 0}, {2, 0, 0, 0}, {1, 1, 0, 0}, {0, 0, 0},
		{1, 0, 0}, {1, 1, 1}, {3, 0, 0}, {3, -1, 0}, {-1, 3, 0}, {0, 3, -1}, {-1, 1, 2}, {1, 2, -1},
		{math.MaxInt, math.MaxInt, 4}, {math.MinInt, math.MinInt, 2}, {math.MaxInt, math.MinInt, 3},
		{2, math.MaxInt, math.MinInt + 1},
	}
	for _, list := range lists {
		i, ok := impl.IndexOfPoint(2, list)
		wantFailure(t, "IndexOfPoint", ok, i)
	}
	for n := 1; n <= impl.MaxSide; n++ {
		for _, list := range [][]int{{n + 1, 0, 0}, {n - 1, 0, 0}, {0, 0, n + 1}, {n + 1, -1, 0}, {n, 1, -1}} {
			i, ok := impl.IndexOfPoint(n, list)
			wantFailure(t, "IndexOfPoint", ok, i)
		}
	}
}

func TestNeighbours(t *testing.T) {
	for n := 1; n <= impl.MaxSide; n++ {
		for i := range oraclePoints(n) {
			near, ok := impl.NeighboursOf(n, i)
			want(t, "NeighboursOf", near, ok, oracleNeighbours(n, i))
		}
	}
	near, ok := impl.NeighboursOf(3, 4)
	want(t, "NeighboursOf", near, ok, []int{1, 2, 3, 5, 7, 8})
}

func TestCells(t *testing.T) {
	for n := 1; n <= impl.MaxSide; n++ {
		expected := oracleCells(n)
		cells, ok := impl.CellsOf(n)
		want(t, "CellsOf", cells, ok, expected)
		if len(cells) != n*n {
			t.Errorf("CellsOf(%d) has %d cells", n, len(cells))
		}
		ups := 0
		for cell := range expected {
			up, ok := impl.IsUpCell(n, cell)
			want(t, "IsUpCell", up, ok, oracleIsUp(n, cell))
			if up {
				ups++
			}
		}
		if ups != n*(n+1)/2 {
			t.Errorf("side %d has %d up cells", n, ups)
		}
	}
}

func TestCellsWith(t *testing.T) {
	for n := 1; n <= impl.MaxSide; n++ {
		points := oraclePoints(n)
		cells := oracleCells(n)
		for i := range points {
			for j := range points {
				with, ok := impl.CellsWith(n, i, j)
				if !oracleNear(points[i], points[j]) {
					wantFailure(t, "CellsWith", ok, with)
					continue
				}
				var expected []int
				for number, cell := range cells {
					if slices.Contains(cell, i) && slices.Contains(cell, j) {
						expected = append(expected, number)
					}
				}
				want(t, "CellsWith", with, ok, expected)
			}
		}
	}
	with, ok := impl.CellsWith(2, 4, 1)
	want(t, "CellsWith", with, ok, []int{1, 2})
}

func TestBorder(t *testing.T) {
	border, ok := impl.BorderOf(2)
	want(t, "BorderOf", border, ok, []int{0, 1, 3, 4, 5, 2})
	for n := 1; n <= impl.MaxSide; n++ {
		border, ok := impl.BorderOf(n)
		want(t, "BorderOf", border, ok, oracleBorder(n))
	}
}

func TestAreLabels(t *testing.T) {
	for n := 1; n <= impl.MaxSide; n++ {
		for _, labels := range sampleLabels(n) {
			are, ok := impl.AreLabels(n, labels)
			want(t, "AreLabels", are, ok, true)
		}
		for _, list := range badLists(n) {
			are, ok := impl.AreLabels(n, list)
			want(t, "AreLabels", are, ok, false)
		}
	}
}

func TestKeepsSides(t *testing.T) {
	for n := 1; n <= impl.MaxSide; n++ {
		for _, labels := range sampleLabels(n) {
			broken := oracleBroken(n, labels)
			keeps, ok := impl.KeepsSides(n, labels)
			want(t, "KeepsSides", keeps, ok, broken < 0)
			first, ok := impl.FirstBroken(n, labels)
			if broken < 0 {
				wantFailure(t, "FirstBroken", ok, first)
			} else {
				want(t, "FirstBroken", first, ok, broken)
			}
		}
	}
	first, ok := impl.FirstBroken(1, []int{1, 1, 2})
	want(t, "FirstBroken at the first point", first, ok, 0)
	first, ok = impl.FirstBroken(1, []int{0, 1, 0})
	want(t, "FirstBroken at the last point", first, ok, 2)
}

func TestCountKeeping(t *testing.T) {
	expected := []int{1, 8, 192, 13824, 2985984, 1934917632, 3761479876608}
	for i, number := range expected {
		count, ok := impl.CountKeeping(i + 1)
		want(t, "CountKeeping", count, ok, number)
	}
	count, ok := impl.CountKeeping(8)
	wantFailure(t, "CountKeeping(8)", ok, count)
	for n := 1; n <= 3; n++ {
		keeping := 0
		allLabels(n, func(labels []int) {
			if keeps, ok := impl.KeepsSides(n, labels); keeps && ok {
				keeping++
			}
		})
		count, ok := impl.CountKeeping(n)
		want(t, "CountKeeping", count, ok, keeping)
	}
}

func TestTurnsAndMirrors(t *testing.T) {
	turned, ok := impl.TurnLabels(2, []int{0, 0, 2, 1, 1, 2})
	want(t, "TurnLabels", turned, ok, []int{0, 0, 2, 1, 1, 2})
	turned, ok = impl.TurnLabels(2, []int{0, 1, 2, 2, 0, 2})
	want(t, "TurnLabels", turned, ok, []int{0, 0, 1, 1, 2, 0})
	mirrored, ok := impl.MirrorLabels(2, []int{0, 0, 2, 1, 1, 2})
	want(t, "MirrorLabels", mirrored, ok, []int{0, 1, 0, 1, 2, 2})
	mirrored, ok = impl.MirrorLabels(2, []int{0, 1, 2, 2, 0, 2})
	want(t, "MirrorLabels", mirrored, ok, []int{2, 0, 1, 1, 2, 2})
	for n := 1; n <= impl.MaxSide; n++ {
		for _, labels := range sampleLabels(n) {
			checkTurn(t, n, labels)
			checkMirror(t, n, labels)
		}
	}
}

func checkTurn(t *testing.T, n int, labels []int) {
	t.Helper()
	turned, ok := impl.TurnLabels(n, labels)
	want(t, "TurnLabels", turned, ok, oracleTurn(n, labels))
	before, _ := impl.KeepsSides(n, labels)
	after, ok := impl.KeepsSides(n, turned)
	want(t, "KeepsSides of turned labels", after, ok, before)
	twice, _ := impl.TurnLabels(n, turned)
	thrice, ok := impl.TurnLabels(n, twice)
	want(t, "three turns", thrice, ok, labels)
}

func checkMirror(t *testing.T, n int, labels []int) {
	t.Helper()
	mirrored, ok := impl.MirrorLabels(n, labels)
	want(t, "MirrorLabels", mirrored, ok, oracleMirror(n, labels))
	before, _ := impl.KeepsSides(n, labels)
	after, ok := impl.KeepsSides(n, mirrored)
	want(t, "KeepsSides of mirrored labels", after, ok, before)
	twice, ok := impl.MirrorLabels(n, mirrored)
	want(t, "two mirrors", twice, ok, labels)
}

func TestTexts(t *testing.T) {
	for n := 1; n <= impl.MaxSide; n++ {
		for _, labels := range sampleLabels(n) {
			text, ok := impl.LabelsText(n, labels)
			want(t, "LabelsText", text, ok, oracleText(n, labels))
			side, read, ok := impl.ParseLabels(oracleText(n, labels))
			want(t, "ParseLabels", read, ok, labels)
			want(t, "the side of ParseLabels", side, ok, n)
		}
	}
}

func TestParseLabelsFails(t *testing.T) {
	texts := []string{
		"", "2", ":", "2:", "/", "0:", "0:0", "9:0", "-1:", "10:0", "1:0", "1:0/1", "1:0/123", "1:0/1/2", "1:0/12/",
		"1:/0/12", "1:0//12", "1:012", "1:01/2", "1:/012", "1:012/", "1:0/13", "1:0/1a", "1:0/1-", "1:3/12", "1: 0/12",
		" 1:0/12", "1:0/12 ", "1:0/12\n", "1;0/12", "1/0/12", "1::0/12", "01:0/12", "+1:0/12", "1:0/1\x00", "1:0/1\xff",
		"1:0|12", "x:0/12", "\xb1:0/12", "１:0/12", "1:0/1２", "2:0/12", "1:0/02/112", "2:0/02/1122", "2:0/02/11",
		"2:0/021/12", "2:00/2/112", "2:0/0211/2", "2:0/02:112", "2:0/02/113", "2:0/02/11/", "2:0002/112", "2:0/02112/",
		"2:0/02\n112", "2:0/02/112,", "2:0/02/112/0000", strings.Repeat("0", 100000), "8:" + strings.Repeat("/", 53),
	}
	for _, text := range texts {
		n, labels, ok := impl.ParseLabels(text)
		wantFailure(t, "ParseLabels of "+text[:min(len(text), 20)], ok, n, labels)
	}
}

func TestParseLabelsFailsNearTexts(t *testing.T) {
	for n := 1; n <= impl.MaxSide; n++ {
		text := oracleText(n, sampleLabels(n)[4])
		for i := range text {
			for _, other := range []string{"", "3", "/", ":", "00", "//", "9", "x"} {
				changed := text[:i] + other + text[i+1:]
				if changed == text {
					continue
				}
				side, labels, ok := impl.ParseLabels(changed)
				wantFailure(t, "ParseLabels of "+changed, ok, side, labels)
			}
		}
	}
}
