package tests

// Promise 4: opposite labels have an opposite edge, and their turns are odd.

import (
	"math"
	"slices"
	"testing"

	"loop.example/g01160/impl"
)

// badReaches have among them those whose number of points overflows to that of a reach.
var badReaches = []int{
	0, -1, -2, -3, -4, -5, 5, 6, 9, 100, 1 << 31, 1 << 32, -1 << 31, 1 << 62, 1<<62 + 1, 1<<62 + 4, 1<<63 - 2, -1 << 62, math.MaxInt, math.MinInt,
	math.MinInt + 1, math.MinInt + 4,
}

func wantEdges(t *testing.T, n int, labels []int, expected ...[]int) {
	t.Helper()
	edges, ok := impl.OppositeEdges(n, labels)
	want(t, "OppositeEdges", edges, ok, expected)
}

func wantSquareDoors(t *testing.T, n int, labels []int, expected ...[]int) {
	t.Helper()
	doors, ok := impl.SquareDoors(n, labels)
	want(t, "SquareDoors", doors, ok, expected)
}

// wantSquareWalk has the same walk for both orders of the points; it leads outside if the edge is nil.
func wantSquareWalk(t *testing.T, n int, labels []int, i, j int, expected, edge []int) {
	t.Helper()
	for _, points := range [][]int{{i, j}, {j, i}} {
		passed, found, ok := impl.SquareWalk(n, labels, points[0], points[1])
		want(t, "SquareWalk", passed, ok, expected)
		want(t, "the edge of SquareWalk", found, ok, edge)
	}
}

func wantNoSquareWalk(t *testing.T, n int, labels []int, i, j int) {
	t.Helper()
	passed, edge, ok := impl.SquareWalk(n, labels, i, j)
	wantFailure(t, "SquareWalk", ok, passed, edge)
}

// wantFound expects no edge if it is nil.
func wantFound(t *testing.T, n int, labels, expected []int) {
	t.Helper()
	edge, ok := impl.FindOpposite(n, labels)
	if expected == nil {
		wantFailure(t, "FindOpposite", ok, edge)
	} else {
		want(t, "FindOpposite", edge, ok, expected)
	}
}

func wantOpposite(t *testing.T, n int, list []int, expected bool) {
	t.Helper()
	are, ok := impl.AreOpposite(n, list)
	want(t, "AreOpposite", are, ok, expected)
}

func TestMaxReach(t *testing.T) {
	if impl.MaxReach != 4 {
		t.Error("MaxReach", impl.MaxReach)
	}
}

func TestExampleOfChapter4(t *testing.T) {
	labels := []int{1, 2, 2, 2, 1, -2, -2, -2, -1}
	wantOpposite(t, 1, labels, true)
	border, ok := impl.SquareBorder(1)
	want(t, "SquareBorder", border, ok, []int{0, 1, 2, 5, 8, 7, 6, 3})
	wantFound(t, 1, labels, []int{2, 5})
	wantEdges(t, 1, labels, []int{1, 5}, []int{2, 5}, []int{3, 6}, []int{3, 7}, []int{4, 8})
	wantSquareDoors(t, 1, labels, []int{0, 1}, []int{3, 0})
	wantSquareWalk(t, 1, labels, 0, 1, []int{0, 3}, []int{1, 5})
	wantSquareWalk(t, 1, labels, 3, 0, []int{1, 4}, []int{3, 7})
	wantNoNumber(t, "SquareTurns", impl.SquareTurns, 1, labels)
}

func TestReachOne(t *testing.T) {
	count, ok := impl.CountSquare(1)
	want(t, "CountSquare", count, ok, 9)
	cells, ok := impl.SquareCells(1)
	want(t, "SquareCells", cells, ok, [][]int{{0, 1, 4}, {0, 3, 4}, {1, 2, 5}, {1, 4, 5}, {3, 4, 7}, {3, 6, 7}, {4, 5, 8}, {4, 7, 8}})
	for i, p := range [][]int{{-1, -1}, {0, -1}, {1, -1}, {-1, 0}, {0, 0}, {1, 0}, {-1, 1}, {0, 1}, {1, 1}} {
		got, ok := impl.SquareAt(1, i)
		want(t, "SquareAt", got, ok, p)
		index, ok := impl.SquareIndex(1, p[0], p[1])
		want(t, "SquareIndex", index, ok, i)
	}
	// Without an opposite edge on the border the walk finds one inside.
	labels := []int{1, 1, 2, -2, -2, 2, -2, -1, -1}
	wantOpposite(t, 1, labels, true)
	wantNumber(t, "SquareTurns", impl.SquareTurns, 1, labels, 1)
	wantSquareDoors(t, 1, labels, []int{1, 2})
	wantSquareWalk(t, 1, labels, 1, 2, []int{2, 3}, []int{4, 5})
	wantFound(t, 1, labels, []int{4, 5})
	wantEdges(t, 1, labels, []int{4, 5})
}

// The cell of the door is the last one, and the walk ends in it or leads outside.
func TestWalksOfOneSquareCell(t *testing.T) {
	wantSquareWalk(t, 1, []int{1, 1, 2, 1, 1, 1, 1, 1, 1}, 1, 2, []int{2}, nil)
	wantSquareWalk(t, 1, []int{1, 1, 1, 1, 1, 1, 2, 1, 1}, 3, 6, []int{5}, nil)
	wantSquareWalk(t, 1, []int{1, 2, 1, 1, -1, 1, 1, 1, 1}, 0, 1, []int{0}, []int{0, 4})
	wantSquareWalk(t, 1, []int{1, 2, 1, 1, -2, 1, 1, 1, 1}, 0, 1, []int{0}, []int{1, 4})
	wantSquareWalk(t, 1, []int{1, 2, 1, 1, 1, -2, 1, 1, 1}, 1, 2, []int{2}, []int{1, 5})
	wantSquareWalk(t, 1, []int{1, 2, 1, 1, 1, -1, 1, 1, 1}, 1, 2, []int{2}, []int{2, 5})
	wantSquareWalk(t, 1, []int{1, 1, 1, 2, -2, 1, 1, 1, 1}, 0, 3, []int{1}, []int{3, 4})
	wantSquareWalk(t, 1, []int{1, 1, 1, 1, -2, 2, 1, 1, 1}, 5, 8, []int{6}, []int{4, 5})
}

// The door between the last point of the border and its first one begins with the last one.
func TestDoorThatClosesTheSquareBorder(t *testing.T) {
	labels := []int{2, 1, 1, 1, 1, 1, 1, 1, 1}
	wantSquareDoors(t, 1, labels, []int{0, 1}, []int{3, 0})
	wantSquareWalk(t, 1, labels, 3, 0, []int{1, 0}, nil)
	wantNumber(t, "SquareTurns", impl.SquareTurns, 1, labels, 0)
	labels = []int{1, 1, -2, 2, 1, -2, 2, -1, -1}
	wantSquareDoors(t, 1, labels, []int{3, 0})
	wantNumber(t, "SquareTurns", impl.SquareTurns, 1, labels, -1)
	wantSquareWalk(t, 1, labels, 0, 3, []int{1, 4}, []int{4, 7})
	wantFound(t, 1, labels, []int{4, 7})
}

// What is opposite between the last point and the first one is on the border, too.
func TestEdgeThatClosesTheSquareBorder(t *testing.T) {
	labels := []int{1, 1, 2, -1, 1, 2, -1, -1, -1}
	wantNoNumber(t, "SquareTurns", impl.SquareTurns, 1, labels)
	labels[3] = -2
	wantNumber(t, "SquareTurns", impl.SquareTurns, 1, labels, 1)
	wantFound(t, 1, []int{1, 1, 1, -1, 1, 1, -1, -1, -1}, []int{5, 8})
}

// Points that cut off a corner are not next to each other on the border, though both are on it.
func TestEdgesThatCutOffACorner(t *testing.T) {
	labels := []int{1, 1, 2, 1, 1, -1, -2, -1, -1}
	wantOpposite(t, 1, labels, true)
	labels = []int{2, 1, 2, 1, 1, -1, -2, -1, -2}
	wantOpposite(t, 1, labels, true)
	wantEdges(t, 1, labels, []int{1, 5}, []int{3, 7}, []int{4, 5}, []int{4, 7})
	wantNumber(t, "SquareTurns", impl.SquareTurns, 1, labels, 1)
	wantSquareDoors(t, 1, labels, []int{0, 1}, []int{1, 2}, []int{3, 0})
	wantFound(t, 1, labels, []int{1, 5})
	wantNoSquareWalk(t, 1, []int{1, 1, 1, 1, 1, 2, 1, 1, 1}, 1, 5)
	wantNoSquareWalk(t, 1, []int{1, 1, 1, 2, 1, 1, 1, 1, 1}, 7, 3)
}

func TestFindOppositePassesWalksThatLeadOutside(t *testing.T) {
	for _, middle := range []struct {
		label        int
		passed, edge []int
	}{
		{1, []int{0, 3, 6}, []int{4, 8}},
		{2, []int{0, 1}, []int{3, 4}},
		{-1, []int{0}, []int{0, 4}},
		{-2, []int{0}, []int{1, 4}},
	} {
		labels := []int{1, 2, 1, -2, middle.label, 2, -1, -2, -1}
		wantOpposite(t, 1, labels, true)
		wantSquareDoors(t, 1, labels, []int{0, 1}, []int{1, 2}, []int{2, 5})
		wantSquareWalk(t, 1, labels, 0, 1, middle.passed, middle.edge)
		wantSquareWalk(t, 1, labels, 1, 2, []int{2}, nil)
		wantSquareWalk(t, 1, labels, 2, 5, []int{2}, nil)
		wantFound(t, 1, labels, middle.edge)
	}
	labels := []int{2, 1, 2, 1, 2, -1, -2, -1, -2}
	wantSquareDoors(t, 1, labels, []int{0, 1}, []int{1, 2}, []int{3, 0})
	wantSquareWalk(t, 1, labels, 0, 1, []int{0, 3}, []int{1, 5})
	labels[4] = 1
	wantSquareWalk(t, 1, labels, 0, 1, []int{0, 1}, nil)
	wantSquareWalk(t, 1, labels, 1, 2, []int{2}, []int{1, 5})
	wantFound(t, 1, labels, []int{1, 5})
}

func TestTurnsOfMoreRounds(t *testing.T) {
	labels := slices.Repeat([]int{1}, 81)
	for turns := -7; turns <= 7; turns += 2 {
		opposite := withBorder(4, labels, smoothHalf(4, turns, chance(turns+10)))
		wantOpposite(t, 4, opposite, true)
		wantNumber(t, "SquareTurns", impl.SquareTurns, 4, opposite, turns)
	}
	// Other labels may come round an even number of times.
	for turns, round := range map[int][]int{8: {1, 2, -1, -2}, -8: {1, -2, -1, 2}, 0: {1, 2, 2, 1}} {
		for k, i := range oracleSquareBorder(4) {
			labels[i] = round[k%4]
		}
		wantOpposite(t, 4, labels, false)
		wantNumber(t, "SquareTurns", impl.SquareTurns, 4, labels, turns)
	}
}

func TestSquares(t *testing.T) {
	for n := 1; n <= impl.MaxReach; n++ {
		points := oracleSquare(n)
		count, ok := impl.CountSquare(n)
		want(t, "CountSquare", count, ok, len(points))
		for i, p := range points {
			at, ok := impl.SquareAt(n, i)
			want(t, "SquareAt", at, ok, []int{p.x, p.y})
			index, ok := impl.SquareIndex(n, p.x, p.y)
			want(t, "SquareIndex", index, ok, i)
		}
		cells, ok := impl.SquareCells(n)
		want(t, "SquareCells", cells, ok, oracleSquareCells(n))
		want(t, "the number of cells", len(cells), ok, 8*n*n)
		border, ok := impl.SquareBorder(n)
		want(t, "SquareBorder", border, ok, oracleSquareBorder(n))
		want(t, "the length of the border", len(border), ok, 8*n)
	}
}

func badSquarePoints(n int) []int {
	size := (2*n + 1) * (2*n + 1)
	return []int{-1, -2, -size, size, size + 1, math.MaxInt, math.MinInt}
}

func TestSquarePointsThatThereAreNot(t *testing.T) {
	for n := 1; n <= impl.MaxReach; n++ {
		labels := chanceSquare(n, chance(n), 1, 2)
		for _, i := range badSquarePoints(n) {
			at, ok := impl.SquareAt(n, i)
			wantFailure(t, "SquareAt", ok, at)
			for _, points := range [][]int{{i, 0}, {0, i}, {i, i}, {i, i + 1}, {i, i - 1}} {
				wantNoSquareWalk(t, n, labels, points[0], points[1])
			}
		}
		beyond := []int{n + 1, -n - 1, 2*n + 1, -2*n - 1, 3*n + 1, 100, math.MaxInt, math.MaxInt - n, math.MinInt, math.MinInt + n}
		for _, far := range beyond {
			for _, near := range append(beyond, 0, n, -n) {
				for _, point := range [][]int{{far, near}, {near, far}} {
					index, ok := impl.SquareIndex(n, point[0], point[1])
					wantFailure(t, "SquareIndex", ok, index)
				}
			}
		}
	}
}

// checkSquareWalks tries all pairs of points, of which few are doors of the border.
func checkSquareWalks(t *testing.T, n int, labels []int) {
	t.Helper()
	isDoor := map[[2]int]bool{}
	for _, door := range oracleSquareDoors(n, labels) {
		isDoor[[2]int{door[0], door[1]}] = true
		isDoor[[2]int{door[1], door[0]}] = true
	}
	for i := range labels {
		for j := range labels {
			if !isDoor[[2]int{i, j}] {
				wantNoSquareWalk(t, n, labels, i, j)
				continue
			}
			passed, edge := oracleSquareWalk(n, labels, i, j)
			wantSquareWalk(t, n, labels, i, j, passed, edge)
		}
	}
}

func checkChapter4(t *testing.T, n int, labels []int) {
	t.Helper()
	wantOpposite(t, n, labels, oracleAreOpposite(n, labels))
	wantEdges(t, n, labels, oracleOppositeEdges(n, labels)...)
	wantSquareDoors(t, n, labels, oracleSquareDoors(n, labels)...)
	for _, door := range oracleSquareDoors(n, labels) {
		passed, edge := oracleSquareWalk(n, labels, door[0], door[1])
		wantSquareWalk(t, n, labels, door[0], door[1], passed, edge)
	}
	wantFound(t, n, labels, oracleFindOpposite(n, labels))
	if len(oracleBorderEdges(n, labels)) > 0 {
		wantNoNumber(t, "SquareTurns", impl.SquareTurns, n, labels)
	} else {
		wantNumber(t, "SquareTurns", impl.SquareTurns, n, labels, oracleSquareTurns(n, labels))
	}
	negated, ok := impl.NegateLabels(n, labels)
	want(t, "NegateLabels", negated, ok, oracleNegate(labels))
	turned, ok := impl.AddTurn(n, labels)
	want(t, "AddTurn", turned, ok, oracleAddTurn(labels))
	if t.Failed() {
		t.Fatalf("the labels of reach %d are %v", n, labels)
	}
}

func TestSquaresWithManyLabels(t *testing.T) {
	for n := 1; n <= impl.MaxReach; n++ {
		for k, labels := range slices.Concat(oppositeSamples(n), otherSquareSamples(n)) {
			checkChapter4(t, n, labels)
			if k%8 == 0 || n <= 2 {
				checkSquareWalks(t, n, labels)
			}
		}
	}
}

// allOppositeOfReachOne calls do with each list of opposite labels of reach 1; do must not keep the list.
func allOppositeOfReachOne(do func([]int)) {
	labels := make([]int, 9)
	for number := range 1 << 10 {
		for i := range 5 {
			labels[i] = []int{1, 2, -1, -2}[number>>(2*i)&3]
			if i < 4 {
				labels[8-i] = -labels[i]
			}
		}
		do(labels)
	}
}

func TestAllOppositeLabelsOfReachOne(t *testing.T) {
	allOppositeOfReachOne(func(labels []int) {
		wantOpposite(t, 1, labels, true)
		checkChapter4(t, 1, labels)
		checkLawsOfOpposites(t, 1, labels)
	})
}

// Every thirteenth list of labels of reach 1, opposite or not.
func TestLabelsOfReachOne(t *testing.T) {
	labels := make([]int, 9)
	for number := 0; number < 1<<18; number += 13 {
		for i := range labels {
			labels[i] = []int{1, 2, -1, -2}[number>>(2*i)&3]
		}
		checkChapter4(t, 1, labels)
	}
}

// What the chapter tells of opposite labels themselves.
func checkLawsOfOpposites(t *testing.T, n int, labels []int) {
	t.Helper()
	edges, ok := impl.OppositeEdges(n, labels)
	want(t, "that there is an opposite edge", len(edges) > 0, ok, true)
	found, ok := impl.FindOpposite(n, labels)
	want(t, "that FindOpposite is one", slices.ContainsFunc(edges, func(e []int) bool { return slices.Equal(e, found) }), ok, true)
	turned, _ := impl.AddTurn(n, labels)
	wantOpposite(t, n, turned, true)
	negated, ok := impl.AddTurn(n, turned)
	want(t, "two turns", negated, ok, oracleNegate(labels))
	wantOpposite(t, n, negated, true)
	again, ok := impl.NegateLabels(n, negated)
	want(t, "two NegateLabels", again, ok, labels)
	wantEdges(t, n, turned, edges...)
	turns, ok := impl.SquareTurns(n, labels)
	if len(oracleBorderEdges(n, labels)) > 0 {
		wantFailure(t, "SquareTurns", ok, turns)
		return
	}
	want(t, "that SquareTurns is odd", turns%2 != 0, ok, true)
	wantNumber(t, "SquareTurns behind a turn", impl.SquareTurns, n, turned, turns)
	doors, ok := impl.SquareDoors(n, labels)
	want(t, "that there is an odd number of doors", len(doors)%2, ok, 1)
}

func TestLawsOfOppositeLabels(t *testing.T) {
	for n := 1; n <= impl.MaxReach; n++ {
		onBorder, inside := 0, 0
		for _, labels := range oppositeSamples(n) {
			checkLawsOfOpposites(t, n, labels)
			if len(oracleBorderEdges(n, labels)) > 0 {
				onBorder++
			} else {
				inside++
			}
		}
		if onBorder == 0 || inside == 0 {
			t.Errorf("reach %d: %d samples have an opposite edge on the border, %d have none", n, onBorder, inside)
		}
	}
}

// One point of the border that has another label is enough, wherever it is; inside all labels are opposite.
func TestAreOpposite(t *testing.T) {
	for n := 1; n <= impl.MaxReach; n++ {
		border := oracleSquareBorder(n)
		for _, labels := range oppositeSamples(n)[:4] {
			for i, label := range labels {
				for _, other := range []int{1, 2, -1, -2} {
					changed := slices.Clone(labels)
					changed[i] = other
					wantOpposite(t, n, changed, label == other || !slices.Contains(border, i))
				}
			}
		}
		for _, list := range badSquareLists(n) {
			wantOpposite(t, n, list, false)
		}
	}
	for _, n := range badReaches {
		for _, list := range [][]int{nil, {}, {1}, {1, 2, 2, 2, 1, -2, -2, -2, -1}, oppositeSamples(4)[0]} {
			are, ok := impl.AreOpposite(n, list)
			wantFailure(t, "AreOpposite", ok, are)
		}
	}
}

// badSquareLists are lists that are no labels for the reach n, though most are as opposite as labels are.
func badSquareLists(n int) [][]int {
	labels := oppositeSamples(n)[0]
	size := len(labels)
	lists := [][]int{nil, {}, labels[:size-1], labels[1:], append(slices.Clone(labels), 1), make([]int, size), make([]int, 1000)}
	for m := 1; m <= impl.MaxReach; m++ {
		if m != n {
			lists = append(lists, oppositeSamples(m)[0])
		}
	}
	for _, number := range []int{0, 3, -3, 4, 256, 257, -258, math.MaxInt, math.MinInt, -math.MaxInt} {
		for _, i := range []int{0, n, size / 2, size - 1} {
			other := slices.Clone(labels)
			other[size-1-i] = -number
			other[i] = number
			lists = append(lists, other)
		}
	}
	return lists
}

// No function but AreOpposite takes a reach that there is not, or a list that is no labels for it.
func TestReachesAndListsThatAreNoLabels(t *testing.T) {
	for n := 1; n <= impl.MaxReach; n++ {
		for _, list := range badSquareLists(n) {
			checkNoSquareLabels(t, n, list)
		}
	}
	for _, n := range badReaches {
		for _, list := range [][]int{nil, {}, {1}, {1, 2, 2, 2, 1, -2, -2, -2, -1}, oppositeSamples(2)[0], oppositeSamples(4)[0]} {
			checkNoSquareLabels(t, n, list)
		}
		checkNoSquare(t, n)
	}
}

func checkNoSquareLabels(t *testing.T, n int, list []int) {
	t.Helper()
	negated, ok := impl.NegateLabels(n, list)
	wantFailure(t, "NegateLabels", ok, negated)
	edges, ok := impl.OppositeEdges(n, list)
	wantFailure(t, "OppositeEdges", ok, edges)
	doors, ok := impl.SquareDoors(n, list)
	wantFailure(t, "SquareDoors", ok, doors)
	wantNoSquareWalk(t, n, list, 0, 1)
	wantFound(t, n, list, nil)
	wantNoNumber(t, "SquareTurns", impl.SquareTurns, n, list)
	turned, ok := impl.AddTurn(n, list)
	wantFailure(t, "AddTurn", ok, turned)
}

func checkNoSquare(t *testing.T, n int) {
	t.Helper()
	count, ok := impl.CountSquare(n)
	wantFailure(t, "CountSquare", ok, count)
	cells, ok := impl.SquareCells(n)
	wantFailure(t, "SquareCells", ok, cells)
	border, ok := impl.SquareBorder(n)
	wantFailure(t, "SquareBorder", ok, border)
	for _, i := range []int{0, 1, -1, n, math.MaxInt} {
		at, ok := impl.SquareAt(n, i)
		wantFailure(t, "SquareAt", ok, at)
		index, ok := impl.SquareIndex(n, i, 0)
		wantFailure(t, "SquareIndex", ok, index)
		index, ok = impl.SquareIndex(n, 0, i)
		wantFailure(t, "SquareIndex", ok, index)
	}
}

// Labels that are not opposite are taken where opposite ones are not told.
func TestLabelsThatAreNotOpposite(t *testing.T) {
	for n := 1; n <= impl.MaxReach; n++ {
		others := 0
		for _, labels := range otherSquareSamples(n) {
			if oracleAreOpposite(n, labels) {
				continue
			}
			others++
			wantFound(t, n, labels, nil)
			turned, ok := impl.AddTurn(n, labels)
			want(t, "AddTurn", turned, ok, oracleAddTurn(labels))
			wantOpposite(t, n, turned, false)
		}
		if others < 50 {
			t.Errorf("reach %d: only %d samples are not opposite", n, others)
		}
	}
}
