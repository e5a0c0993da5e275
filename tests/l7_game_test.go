package tests

// Promise 7: a regular game has an odd number of equilibria, and walks from each label end in one.

import (
	"math"
	"slices"
	"testing"

	"loop.example/g01160/impl"
)

func isGame(t *testing.T, g impl.Game, expected bool) {
	t.Helper()
	want(t, "IsGame", impl.IsGame(g), true, expected)
}

func wantReplies(t *testing.T, g impl.Game, x, y []int, rows, columns []int) {
	t.Helper()
	replies, ok := impl.RowReplies(g, y)
	want(t, "RowReplies", replies, ok, rows)
	replies, ok = impl.ColumnReplies(g, x)
	want(t, "ColumnReplies", replies, ok, columns)
}

func wantPay(t *testing.T, g impl.Game, x, y []int, expected ...int) {
	t.Helper()
	first, second, product, ok := impl.PayOf(g, x, y)
	want(t, "PayOf", []int{first, second, product}, ok, expected)
}

func wantEquilibrium(t *testing.T, g impl.Game, x, y []int, expected bool) {
	t.Helper()
	is, ok := impl.IsEquilibrium(g, x, y)
	want(t, "IsEquilibrium", is, ok, expected)
}

func wantPure(t *testing.T, g impl.Game, expected ...[]int) {
	t.Helper()
	pure, ok := impl.PureEquilibria(g)
	want(t, "PureEquilibria", pure, ok, expected)
}

// wantCorners has behind the list of each corner its labels.
func wantCorners(t *testing.T, g impl.Game, player int, expected ...[2][]int) {
	t.Helper()
	var lists [][]int
	for _, corner := range expected {
		lists = append(lists, corner[0])
		labels, ok := impl.LabelsOfCorner(g, player, corner[0])
		want(t, "LabelsOfCorner", labels, ok, corner[1])
	}
	corners, ok := impl.CornersOf(g, player)
	want(t, "CornersOf", corners, ok, lists)
}

func wantRegularGame(t *testing.T, g impl.Game, expected bool) {
	t.Helper()
	regular, ok := impl.IsRegularGame(g)
	want(t, "IsRegularGame", regular, ok, expected)
}

// wantEquilibria is for regular games; each one expected has the weights of rows and those of columns.
func wantEquilibria(t *testing.T, g impl.Game, expected ...[2][]int) {
	t.Helper()
	wantRegularGame(t, g, true)
	var expectedXs, expectedYs [][]int
	for _, e := range expected {
		expectedXs, expectedYs = append(expectedXs, e[0]), append(expectedYs, e[1])
		wantEquilibrium(t, g, e[0], e[1], true)
	}
	xs, ys, ok := impl.AllEquilibria(g)
	want(t, "AllEquilibria", xs, ok, expectedXs)
	want(t, "the columns of AllEquilibria", ys, ok, expectedYs)
}

func wantGameWalk(t *testing.T, g impl.Game, label, expectedSteps int, expectedX, expectedY []int) {
	t.Helper()
	x, y, ok := impl.WalkFromLabel(g, label)
	want(t, "WalkFromLabel", x, ok, expectedX)
	want(t, "the columns of WalkFromLabel", y, ok, expectedY)
	steps, ok := impl.WalkSteps(g, label)
	want(t, "WalkSteps", steps, ok, expectedSteps)
}

func wantNoWalk(t *testing.T, g impl.Game, label int) {
	t.Helper()
	x, y, ok := impl.WalkFromLabel(g, label)
	wantFailure(t, "WalkFromLabel", ok, x, y)
	steps, ok := impl.WalkSteps(g, label)
	wantFailure(t, "WalkSteps", ok, steps)
}

// wantIrregularGame is for games, for which the functions fail that take regular ones alone.
func wantIrregularGame(t *testing.T, g impl.Game) {
	t.Helper()
	wantRegularGame(t, g, false)
	xs, ys, ok := impl.AllEquilibria(g)
	wantFailure(t, "AllEquilibria", ok, xs, ys)
	for label := range len(g.Rows) + len(g.Rows[0]) {
		wantNoWalk(t, g, label)
	}
}

func wantSwapped(t *testing.T, g, expected impl.Game) {
	t.Helper()
	swapped, ok := impl.SwapPlayers(g)
	want(t, "SwapPlayers", swapped, ok, expected)
}

func wantAdded(t *testing.T, g impl.Game, j, k int, expected ...[]int) {
	t.Helper()
	added, ok := impl.AddToColumn(g, j, k)
	want(t, "AddToColumn", added, ok, impl.Game{Rows: expected, Columns: g.Columns})
}

func wantNotAdded(t *testing.T, g impl.Game, j, k int) {
	t.Helper()
	added, ok := impl.AddToColumn(g, j, k)
	wantFailure(t, "AddToColumn", ok, added)
}

func TestLimitsOfChapter7(t *testing.T) {
	if impl.MaxChoices != 3 || impl.MaxPay != 9 {
		t.Error("limits", impl.MaxChoices, impl.MaxPay)
	}
}

func TestFirstExampleOfChapter7(t *testing.T) {
	g := impl.Game{Rows: [][]int{{1, -1}, {-1, 1}}, Columns: [][]int{{-1, 1}, {1, -1}}}
	isGame(t, g, true)
	zero, ok := impl.ZeroSum([][]int{{1, -1}, {-1, 1}})
	want(t, "ZeroSum", zero, ok, g)
	wantCorners(t, g, 1,
		[2][]int{{0, 0, 1}, {0, 1}}, [2][]int{{0, 1, 11}, {0, 2}}, [2][]int{{1, 0, 11}, {1, 3}}, [2][]int{{1, 1, 20}, {2, 3}})
	wantCorners(t, g, 2,
		[2][]int{{0, 0, 1}, {2, 3}}, [2][]int{{0, 1, 11}, {1, 2}}, [2][]int{{1, 0, 11}, {0, 3}}, [2][]int{{1, 1, 20}, {0, 1}})
	wantEquilibria(t, g, [2][]int{{1, 1}, {1, 1}})
	wantPure(t, g)
	for label := range 4 {
		wantGameWalk(t, g, label, 4, []int{1, 1}, []int{1, 1})
	}
	wantReplies(t, g, []int{1, 1}, []int{1, 1}, []int{0, 1}, []int{0, 1})
	wantReplies(t, g, []int{1, 0}, []int{1, 0}, []int{0}, []int{1})
	wantReplies(t, g, []int{1, 2}, []int{1, 2}, []int{1}, []int{0})
	wantPay(t, g, []int{1, 1}, []int{1, 1}, 0, 0, 4)
	wantPay(t, g, []int{1, 0}, []int{1, 0}, 1, -1, 1)
	wantPay(t, g, []int{2, 1}, []int{1, 3}, -2, 2, 12)
	wantEquilibrium(t, g, []int{1, 0}, []int{1, 0}, false)
	wantEquilibrium(t, g, []int{1, 1}, []int{1, 2}, false)
	wantEquilibrium(t, g, []int{1, 2}, []int{1, 1}, false)
	wantSwapped(t, g, impl.Game{Rows: [][]int{{-1, 1}, {1, -1}}, Columns: [][]int{{1, -1}, {-1, 1}}})
}

func TestSecondExampleOfChapter7(t *testing.T) {
	g := impl.Game{Rows: [][]int{{2, 0}, {0, 1}}, Columns: [][]int{{2, 0}, {0, 1}}}
	wantCorners(t, g, 1,
		[2][]int{{0, 0, 1}, {0, 1}}, [2][]int{{0, 1, 11}, {0, 3}}, [2][]int{{1, 0, 12}, {1, 2}}, [2][]int{{1, 2, 32}, {2, 3}})
	wantCorners(t, g, 2,
		[2][]int{{0, 0, 1}, {2, 3}}, [2][]int{{0, 1, 11}, {1, 2}}, [2][]int{{1, 0, 12}, {0, 3}}, [2][]int{{1, 2, 32}, {0, 1}})
	wantEquilibria(t, g, [2][]int{{0, 1}, {0, 1}}, [2][]int{{1, 0}, {1, 0}}, [2][]int{{1, 2}, {1, 2}})
	wantPure(t, g, []int{0, 0}, []int{1, 1})
	for label, end := range [][]int{{1, 0}, {0, 1}, {1, 0}, {0, 1}} {
		wantGameWalk(t, g, label, 2, end, end)
	}
	wantReplies(t, g, []int{1, 2}, []int{1, 3}, []int{1}, []int{0, 1})
	wantReplies(t, g, []int{2, 3}, []int{1, 1}, []int{0}, []int{0})
	wantPay(t, g, []int{1, 2}, []int{1, 2}, 6, 6, 9)
	wantEquilibrium(t, g, []int{1, 0}, []int{0, 1}, false)
	wantSwapped(t, g, g)
	wantAdded(t, g, 0, 7, []int{9, 0}, []int{7, 1})
	wantAdded(t, g, 1, -9, []int{2, -9}, []int{0, -8})
	wantNotAdded(t, g, 0, 8)
	wantNotAdded(t, g, 1, -10)
}

// A player with one choice has a figure that is a line.
func TestGamesOfOneChoice(t *testing.T) {
	g := impl.Game{Rows: [][]int{{5}}, Columns: [][]int{{-3}}}
	wantCorners(t, g, 1, [2][]int{{0, 1}, {0}}, [2][]int{{1, 7}, {1}})
	wantCorners(t, g, 2, [2][]int{{0, 1}, {1}}, [2][]int{{1, 15}, {0}})
	wantEquilibria(t, g, [2][]int{{1}, {1}})
	wantPure(t, g, []int{0, 0})
	wantGameWalk(t, g, 0, 2, []int{1}, []int{1})
	wantGameWalk(t, g, 1, 2, []int{1}, []int{1})
	wantReplies(t, g, []int{1}, []int{1}, []int{0}, []int{0})
	wantPay(t, g, []int{1}, []int{1}, 5, -3, 1)
	wantSwapped(t, g, impl.Game{Rows: [][]int{{-3}}, Columns: [][]int{{5}}})
	wantAdded(t, g, 0, 4, []int{9})
	wantAdded(t, g, 0, -14, []int{-9})

	wide := impl.Game{Rows: [][]int{{0, 5, -9}}, Columns: [][]int{{4, 4, 9}}}
	wantCorners(t, wide, 1, [2][]int{{0, 1}, {0}}, [2][]int{{1, 19}, {3}})
	wantCorners(t, wide, 2,
		[2][]int{{0, 0, 0, 1}, {1, 2, 3}}, [2][]int{{0, 0, 1, 1}, {0, 1, 2}}, [2][]int{{0, 1, 0, 15}, {0, 1, 3}}, [2][]int{{1, 0, 0, 10}, {0, 2, 3}})
	wantEquilibria(t, wide, [2][]int{{1}, {0, 0, 1}})
	wantPure(t, wide, []int{0, 2})
	for label, steps := range []int{2, 3, 3, 2} {
		wantGameWalk(t, wide, label, steps, []int{1}, []int{0, 0, 1})
	}
	wantPay(t, wide, []int{1}, []int{3, 0, 5}, -45, 57, 8)
	tall := impl.Game{Rows: [][]int{{4}, {4}, {9}}, Columns: [][]int{{0}, {5}, {-9}}}
	wantSwapped(t, wide, tall)
	wantSwapped(t, tall, wide)
	wantEquilibria(t, tall, [2][]int{{0, 0, 1}, {1}})
	for label, steps := range []int{3, 3, 2, 2} {
		wantGameWalk(t, tall, label, steps, []int{0, 0, 1}, []int{1})
	}
}

func TestGamesOfUnlikeNumbersOfChoices(t *testing.T) {
	g := impl.Game{Rows: [][]int{{3, 0, 1}, {0, 2, 1}}, Columns: [][]int{{0, 3, 1}, {3, 0, 1}}}
	wantCorners(t, g, 1,
		[2][]int{{0, 0, 1}, {0, 1}}, [2][]int{{0, 1, 13}, {0, 2}}, [2][]int{{1, 0, 13}, {1, 3}}, [2][]int{{1, 1, 23}, {2, 3}})
	labels, ok := impl.LabelsOfCorner(g, 2, []int{0, 0, 1, 11})
	want(t, "LabelsOfCorner", labels, ok, []int{0, 1, 2, 3})
	wantIrregularGame(t, g)
	wantPure(t, g)
	wantEquilibrium(t, g, []int{1, 1}, []int{2, 3, 0}, true)
	wantEquilibrium(t, g, []int{1, 1}, []int{1, 1, 1}, false)

	g.Rows[1][2] = 0
	wantEquilibria(t, g, [2][]int{{1, 1}, {2, 3, 0}})
	wantSwapped(t, g, impl.Game{Rows: [][]int{{0, 3}, {3, 0}, {1, 1}}, Columns: [][]int{{3, 0}, {0, 2}, {1, 0}}})
}

func TestGameOfThreeChoicesWithoutPureEquilibria(t *testing.T) {
	g, ok := impl.ZeroSum([][]int{{0, -1, 1}, {1, 0, -1}, {-1, 1, 0}})
	want(t, "ZeroSum", g, ok, impl.Game{Rows: [][]int{{0, -1, 1}, {1, 0, -1}, {-1, 1, 0}}, Columns: [][]int{{0, 1, -1}, {-1, 0, 1}, {1, -1, 0}}})
	wantPure(t, g)
	wantEquilibria(t, g, [2][]int{{1, 1, 1}, {1, 1, 1}})
	labels, ok := impl.LabelsOfCorner(g, 1, []int{1, 1, 1, 30})
	want(t, "LabelsOfCorner", labels, ok, []int{3, 4, 5})
	labels, ok = impl.LabelsOfCorner(g, 2, []int{1, 1, 1, 30})
	want(t, "LabelsOfCorner", labels, ok, []int{0, 1, 2})
	wantReplies(t, g, []int{1, 0, 0}, []int{1, 0, 0}, []int{1}, []int{1})
	wantReplies(t, g, []int{0, 1, 1}, []int{1, 1, 0}, []int{1}, []int{2})
	wantReplies(t, g, []int{1, 1, 1}, []int{1, 1, 2}, []int{0}, []int{0, 1, 2})
}

// Each choice of some may be made by both players, in seven ways.
func TestGameOfSevenEquilibria(t *testing.T) {
	g := diagonal(3, 2, 1)
	wantEquilibria(t, g,
		[2][]int{{0, 0, 1}, {0, 0, 1}}, [2][]int{{0, 1, 0}, {0, 1, 0}}, [2][]int{{0, 1, 2}, {0, 1, 2}}, [2][]int{{1, 0, 0}, {1, 0, 0}},
		[2][]int{{1, 0, 3}, {1, 0, 3}}, [2][]int{{2, 3, 0}, {2, 3, 0}}, [2][]int{{2, 3, 6}, {2, 3, 6}})
	corners, ok := impl.CornersOf(g, 1)
	want(t, "CornersOf", corners, ok, [][]int{{0, 0, 0, 1}, {0, 0, 1, 11}, {0, 1, 0, 12}, {0, 1, 2, 32}, {1, 0, 0, 13}, {1, 0, 3, 43}, {2, 3, 0, 56}, {2, 3, 6, 116}})
	wantPure(t, g, []int{0, 0}, []int{1, 1}, []int{2, 2})
	for label := range 6 {
		end := only(3, label%3)
		wantGameWalk(t, g, label, 2, end, end)
	}
}

// More conditions than numbers are met exactly at a corner if several choices are equally good there.
func TestGamesThatAreNotRegular(t *testing.T) {
	alike := allPaysAlike(2, 2, 0)
	for player := range 2 {
		wantCorners(t, alike, 1+player,
			[2][]int{{0, 0, 1}, {2 * player, 2*player + 1}},
			[2][]int{{0, 1, 10}, [][]int{{0, 2, 3}, {0, 1, 2}}[player]},
			[2][]int{{1, 0, 10}, [][]int{{1, 2, 3}, {0, 1, 3}}[player]})
	}
	wantIrregularGame(t, alike)
	wantPure(t, alike, []int{0, 0}, []int{0, 1}, []int{1, 0}, []int{1, 1})
	wantEquilibrium(t, alike, []int{3, 5}, []int{1000000, 1}, true)
	wantReplies(t, alike, []int{3, 5}, []int{1, 0}, []int{0, 1}, []int{0, 1})

	cube := allPaysAlike(3, 3, 9)
	wantCorners(t, cube, 1,
		[2][]int{{0, 0, 0, 1}, {0, 1, 2}}, [2][]int{{0, 0, 1, 19}, {0, 1, 3, 4, 5}}, [2][]int{{0, 1, 0, 19}, {0, 2, 3, 4, 5}}, [2][]int{{1, 0, 0, 19}, {1, 2, 3, 4, 5}})
	wantIrregularGame(t, cube)
	wantIrregularGame(t, allPaysAlike(3, 3, -9))
	wantIrregularGame(t, allPaysAlike(1, 2, 5))
	wantIrregularGame(t, allPaysAlike(2, 1, 5))
	wantEquilibria(t, allPaysAlike(1, 1, 5), [2][]int{{1}, {1}})

	// Just one of both figures has such a corner.
	wantIrregularGame(t, impl.Game{Rows: [][]int{{2, 0}, {0, 1}}, Columns: [][]int{{1, 1}, {0, 2}}})
	wantIrregularGame(t, impl.Game{Rows: [][]int{{1, 0}, {1, 2}}, Columns: [][]int{{2, 0}, {0, 1}}})
	// A column is as good as the others where these two are equally good, and nowhere better.
	wantIrregularGame(t, impl.Game{Rows: [][]int{{1, 2, 3}, {3, 2, 0}}, Columns: [][]int{{0, 4, 2}, {4, 0, 2}}})
}

func TestExtremePays(t *testing.T) {
	g := impl.Game{Rows: [][]int{{9, -9, -9}, {-9, 9, -9}, {-9, -9, 9}}, Columns: [][]int{{-9, 9, -9}, {-9, -9, 9}, {9, -9, -9}}}
	wantEquilibria(t, g, [2][]int{{1, 1, 1}, {1, 1, 1}})
	wantPure(t, g)
	wantPay(t, g, []int{1000, 1000, 999}, []int{1000, 1000, 1}, -17991009, -18008991, 6000999)
	high := allPaysAlike(3, 3, 9)
	wantPay(t, high, []int{1000, 1000, 999}, []int{999, 1000, 1000}, 9*2999*2999, 9*2999*2999, 2999*2999)
	low := allPaysAlike(3, 2, -9)
	wantPay(t, low, []int{1000, 1000, 999}, []int{999, 1000}, -9*2999*1999, -9*2999*1999, 2999*1999)
	wantReplies(t, high, []int{1000000, 1000000, 999999}, []int{1000000, 999999, 1000000}, []int{0, 1, 2}, []int{0, 1, 2})
	wantReplies(t, g, []int{1000000, 999999, 1000000}, []int{1000000, 999999, 1000000}, []int{0, 2}, []int{0, 1})
	wantEquilibrium(t, high, []int{1000000, 999999, 0}, []int{0, 1, 1000000}, true)

	g = impl.Game{Rows: [][]int{{9, -9}, {-9, 9}}, Columns: [][]int{{-9, 9}, {9, -9}}}
	wantCorners(t, g, 1,
		[2][]int{{0, 0, 1}, {0, 1}}, [2][]int{{0, 1, 19}, {0, 2}}, [2][]int{{1, 0, 19}, {1, 3}}, [2][]int{{1, 1, 20}, {2, 3}})
	wantEquilibria(t, g, [2][]int{{1, 1}, {1, 1}})
}

func checkFigure(t *testing.T, g impl.Game, player int) {
	t.Helper()
	var expected [][2][]int
	for _, c := range oracleCorners(g, player) {
		expected = append(expected, [2][]int{c.list, c.labels})
	}
	wantCorners(t, g, player, expected...)
	if len(expected) < 2 {
		t.Errorf("the figure of the player %d has %d corners", player, len(expected))
	}
	other := slices.Clone(expected[1][0])
	for k := range other {
		other[k] *= 2
	}
	labels, ok := impl.LabelsOfCorner(g, player, other)
	wantFailure(t, "LabelsOfCorner", ok, labels)
}

func checkChances(t *testing.T, g impl.Game) {
	t.Helper()
	xs, ys := goodChances(len(g.Rows), 1000), goodChances(len(g.Rows[0]), 1000)
	for k := range max(len(xs), len(ys)) {
		x, y := xs[k%len(xs)], ys[k*7%len(ys)]
		wantReplies(t, g, x, y, oracleRowReplies(g, y), oracleColumnReplies(g, x))
		first, second := oracleMeans(g, x, y)
		wantPay(t, g, x, y, first, second, oracleTotal(x)*oracleTotal(y))
		wantEquilibrium(t, g, x, y, oracleIsEquilibrium(g, x, y))
	}
}

func checkGame(t *testing.T, g impl.Game) {
	t.Helper()
	isGame(t, g, true)
	checkFigure(t, g, 1)
	checkFigure(t, g, 2)
	checkChances(t, g)
	wantPure(t, g, oraclePure(g)...)
	wantSwapped(t, g, oracleSwapped(g))
	if oracleIsRegularGame(g) {
		xs, ys := oracleEquilibria(g)
		var expected [][2][]int
		for k, x := range xs {
			expected = append(expected, [2][]int{x, ys[k]})
		}
		wantEquilibria(t, g, expected...)
		for label := range len(g.Rows) + len(g.Rows[0]) {
			x, y, steps := oracleGameWalk(g, label)
			wantGameWalk(t, g, label, steps, x, y)
		}
		checkLawsOfRegularGames(t, g)
	} else {
		wantIrregularGame(t, g)
	}
	checkLawsOfGames(t, g)
	if t.Failed() {
		t.Fatalf("the game is %v", g)
	}
}

// What the chapter tells of the equilibria of regular games itself.
func checkLawsOfRegularGames(t *testing.T, g impl.Game) {
	t.Helper()
	xs, ys, ok := impl.AllEquilibria(g)
	want(t, "that the number of equilibria is odd", len(xs)%2, ok, 1)
	want(t, "that there are as many for both players", len(ys), ok, len(xs))
	var pure [][]int
	for k, x := range xs {
		wantEquilibrium(t, g, x, ys[k], true)
		areX, okX := impl.AreWeights(x, len(g.Rows))
		areY, okY := impl.AreWeights(ys[k], len(g.Rows[0]))
		want(t, "that there are weights", areX && areY, okX && okY, true)
		if oracleTotal(x) == 1 && oracleTotal(ys[k]) == 1 {
			pure = append(pure, []int{slices.Index(x, 1), slices.Index(ys[k], 1)})
		}
	}
	slices.SortFunc(pure, slices.Compare)
	wantPure(t, g, pure...)
	for label := range len(g.Rows) + len(g.Rows[0]) {
		x, y, ok := impl.WalkFromLabel(g, label)
		is := slices.ContainsFunc(xs, func(other []int) bool { return slices.Equal(x, other) })
		want(t, "that the walk ends in an equilibrium", is, ok, true)
		wantEquilibrium(t, g, x, y, true)
		wantNoWalk(t, g, label-len(g.Rows)-len(g.Rows[0]))
	}
}

// What stays the same, and where walks lead, for other games made of a game.
func checkLawsOfGames(t *testing.T, g impl.Game) {
	t.Helper()
	swapped, _ := impl.SwapPlayers(g)
	wantSwapped(t, swapped, g)
	m, n := len(g.Rows), len(g.Rows[0])
	regular, _ := impl.IsRegularGame(g)
	wantRegularGame(t, swapped, regular)
	xs, ys, _ := impl.AllEquilibria(g)
	for k, x := range xs {
		wantEquilibrium(t, swapped, ys[k], x, true)
	}
	if regular {
		for label := range m + n {
			x, y, _ := impl.WalkFromLabel(g, label)
			steps, _ := impl.WalkSteps(g, label)
			wantGameWalk(t, swapped, (label+n)%(m+n), steps, y, x)
		}
	}
	for j := range n {
		for _, k := range []int{-20, -18, -9, -1, 0, 3, 18, 20} {
			checkAdded(t, g, j, k, regular)
		}
	}
}

// checkAdded asks for the same best replies, equilibria and walks of a game to one of whose columns is added.
func checkAdded(t *testing.T, g impl.Game, j, k int, regular bool) {
	t.Helper()
	expected := gameBy(len(g.Rows), len(g.Rows[0]), func(player, row, column int) int {
		if player == 2 {
			return g.Columns[row][column]
		}
		if column == j {
			return g.Rows[row][column] + k
		}
		return g.Rows[row][column]
	})
	if !isGameOf(expected) {
		wantNotAdded(t, g, j, k)
		return
	}
	wantAdded(t, g, j, k, expected.Rows...)
	wantRegularGame(t, expected, regular)
	for _, y := range goodChances(len(g.Rows[0]), 1000) {
		replies, ok := impl.RowReplies(g, y)
		same, _ := impl.RowReplies(expected, y)
		want(t, "RowReplies", same, ok, replies)
	}
	if regular {
		xs, ys, _ := impl.AllEquilibria(g)
		sameXs, sameYs, ok := impl.AllEquilibria(expected)
		want(t, "AllEquilibria", sameXs, ok, xs)
		want(t, "the columns of AllEquilibria", sameYs, ok, ys)
	}
}

func TestAllGamesOfOneChoice(t *testing.T) {
	var pays []int
	for pay := -9; pay <= 9; pay++ {
		pays = append(pays, pay)
	}
	allGames(1, 1, pays, func(g impl.Game) { checkGame(t, g) })
	allGames(1, 2, []int{-9, 0, 1, 9}, func(g impl.Game) { checkGame(t, g) })
	allGames(2, 1, []int{-9, 0, 1, 9}, func(g impl.Game) { checkGame(t, g) })
	allGames(1, 3, []int{-9, 0, 9}, func(g impl.Game) { checkGame(t, g) })
	allGames(3, 1, []int{-2, 4}, func(g impl.Game) { checkGame(t, g) })
}

func TestAllGamesOfTwoChoicesWithFewPays(t *testing.T) {
	allGames(2, 2, []int{-9, 9}, func(g impl.Game) { checkGame(t, g) })
	allGames(2, 2, []int{0, 1}, func(g impl.Game) { checkGame(t, g) })
}

// The samples have regular games of each size, with one equilibrium and with several, with pure ones and without, such with long walks, and games that are not regular.
func TestManyGames(t *testing.T) {
	allSizes(func(m, n int) {
		count, without, longest, odd := map[int]int{}, 0, 0, 0
		for _, g := range gameSamples(m, n, 12) {
			checkGame(t, g)
			xs, _, ok := impl.AllEquilibria(g)
			if !ok {
				odd++
				continue
			}
			count[len(xs)]++
			if pure, _ := impl.PureEquilibria(g); len(pure) == 0 {
				without++
			}
			for label := range m + n {
				steps, _ := impl.WalkSteps(g, label)
				longest = max(longest, steps)
			}
		}
		if m*n > 1 && odd < 3 || count[1] < 5 || min(m, n) > 1 && (count[3] < 3 || without < 3 || longest < 4) || m*n == 9 && (len(count) < 3 || longest < 8) {
			t.Errorf("%d rows, %d columns: the samples have too few games of some kind: %v, %d, %d, %d", m, n, count, without, longest, odd)
		}
	})
}

func TestAreWeights(t *testing.T) {
	for n := 1; n <= impl.MaxChoices; n++ {
		for _, greatest := range []int{1000, 1001, 1000000} {
			for _, w := range goodChances(n, greatest) {
				are, ok := impl.AreWeights(w, n)
				want(t, "AreWeights", are, ok, true)
			}
		}
		for _, w := range badChances(n) {
			are, ok := impl.AreWeights(w, n)
			want(t, "AreWeights", are, ok, false)
		}
	}
	for _, n := range badChoiceCounts {
		for _, w := range [][]int{nil, {}, {1}, {1, 0}, {1, 0, 0}, {1, 0, 0, 0}, {0, 0, 0, 0, 1}} {
			are, ok := impl.AreWeights(w, n)
			wantFailure(t, "AreWeights", ok, are)
		}
	}
}

var badChoiceCounts = []int{0, -1, -2, -3, 4, 5, 100, 1<<32 + 1, 1<<32 + 3, math.MaxInt, math.MinInt, math.MinInt + 1}

// wantNothingOfWeights wants all functions to fail that take a game and weights of both players.
func wantNothingOfWeights(t *testing.T, g impl.Game, x, y []int) {
	t.Helper()
	is, ok := impl.IsEquilibrium(g, x, y)
	wantFailure(t, "IsEquilibrium", ok, is)
	first, second, product, ok := impl.PayOf(g, x, y)
	wantFailure(t, "PayOf", ok, first, second, product)
}

func TestListsThatAreNoChances(t *testing.T) {
	allSizes(func(m, n int) {
		for _, g := range []impl.Game{allPaysAlike(m, n, 0), gameSamples(m, n, 1)[4]} {
			for _, y := range badChances(n) {
				replies, ok := impl.RowReplies(g, y)
				wantFailure(t, "RowReplies", ok, replies)
				wantNothingOfWeights(t, g, only(m, 0), y)
			}
			for _, x := range badChances(m) {
				replies, ok := impl.ColumnReplies(g, x)
				wantFailure(t, "ColumnReplies", ok, replies)
				wantNothingOfWeights(t, g, x, only(n, 0))
				wantNothingOfWeights(t, g, x, badChances(n)[0])
			}
		}
	})
}

// Weights greater than 1000 have no pay, and all else.
func TestWeightsBeyondThoseForAPay(t *testing.T) {
	for _, greatest := range []int{1001, 1002, 2000, 999999, 1000000} {
		allSizes(func(m, n int) {
			g := gameSamples(m, n, 1)[3]
			for _, x := range goodChances(m, greatest) {
				for _, y := range goodChances(n, greatest) {
					wantReplies(t, g, x, y, oracleRowReplies(g, y), oracleColumnReplies(g, x))
					wantEquilibrium(t, g, x, y, oracleIsEquilibrium(g, x, y))
					first, second, product, ok := impl.PayOf(g, x, y)
					if max(slices.Max(x), slices.Max(y)) > 1000 {
						wantFailure(t, "PayOf", ok, first, second, product)
					} else {
						want(t, "PayOf", product, ok, oracleTotal(x)*oracleTotal(y))
					}
				}
			}
		})
	}
}

func TestPlayersAndCornersThatThereAreNot(t *testing.T) {
	g := impl.Game{Rows: [][]int{{1, 4, 0}, {3, 2, -1}}, Columns: [][]int{{1, 2, 0}, {2, 1, 9}}}
	for _, player := range []int{0, 3, -1, -2, 4, 1<<32 + 1, 1<<32 + 2, math.MaxInt, math.MinInt, math.MinInt + 1} {
		corners, ok := impl.CornersOf(g, player)
		wantFailure(t, "CornersOf", ok, corners)
		for _, corner := range [][]int{{0, 0, 1}, {0, 0, 0, 1}, nil} {
			labels, ok := impl.LabelsOfCorner(g, player, corner)
			wantFailure(t, "LabelsOfCorner", ok, labels)
		}
	}
	bad := [][]int{nil, {}, {0}, {1}, {0, 0}, {0, 1}, {0, 0, 0}, {0, 0, 2}, {0, 0, -1}, {1, 0, 0}, {0, 0, 1, 0}, {0, 0, 1, 1}, {0, 0, 0, 1, 0}, {0, 0, 0, 0, 1},
		{1, 1, 1}, {1, 0, 100}, {0, -1, -11}, {-1, 0, -11}, {-1, -1, -20}, {1 << 32, 0, 1}, {0, 0, 1<<32 + 1}, {math.MaxInt, math.MaxInt, math.MaxInt}, {math.MinInt, math.MinInt, math.MinInt}, make([]int, 100)}
	for player := 1; player <= 2; player++ {
		for _, corner := range bad {
			labels, ok := impl.LabelsOfCorner(g, player, corner)
			wantFailure(t, "LabelsOfCorner", ok, labels)
		}
		corners, _ := impl.CornersOf(g, player)
		for _, corner := range corners {
			for _, other := range nearLists(corner) {
				if !slices.ContainsFunc(corners, func(c []int) bool { return slices.Equal(c, other) }) {
					labels, ok := impl.LabelsOfCorner(g, player, other)
					wantFailure(t, "LabelsOfCorner", ok, labels)
				}
			}
		}
	}
}

// nearLists are those with one number more or less, or another one.
func nearLists(list []int) [][]int {
	near := [][]int{list[1:], list[:len(list)-1], append(slices.Clone(list), 0), append([]int{0}, list...)}
	for k := range list {
		for _, by := range []int{1, -1, 1 << 32} {
			other := slices.Clone(list)
			other[k] += by
			near = append(near, other)
		}
	}
	return near
}

func TestLabelsThatThereAreNot(t *testing.T) {
	allSizes(func(m, n int) {
		g := gameBy(m, n, func(player, i, j int) int {
			if player == 1 {
				return m - i + j
			}
			return n - j + i
		})
		wantEquilibria(t, g, [2][]int{only(m, 0), only(n, 0)})
		wantGameWalk(t, g, 0, 2, only(m, 0), only(n, 0))
		for _, label := range []int{-1, -2, m + n, m + n + 1, 6, 7, 100, 1 << 32, math.MaxInt, math.MinInt} {
			if label != m+n-1 {
				wantNoWalk(t, g, label)
			}
		}
	})
}

func TestAddToColumnFails(t *testing.T) {
	allSizes(func(m, n int) {
		g := gameBy(m, n, func(player, i, j int) int { return -9 })
		for j := range n {
			wantAdded(t, g, j, 18, gameBy(m, n, func(player, row, column int) int {
				if column == j {
					return 9
				}
				return -9
			}).Rows...)
			for _, k := range []int{-1, 19, 20, -20, 21, -21, 27, 1 << 32, 1<<32 + 1, math.MaxInt, math.MinInt, math.MinInt + 18} {
				wantNotAdded(t, g, j, k)
			}
		}
		for _, j := range []int{-1, -n, n, n + 1, 3, 4, 1 << 32, math.MaxInt, math.MinInt} {
			for _, k := range []int{0, 1, 18} {
				wantNotAdded(t, g, j, k)
			}
		}
	})
}

func TestZeroSum(t *testing.T) {
	allSizes(func(m, n int) {
		for _, sample := range gameSamples(m, n, 3) {
			expected := gameBy(m, n, func(player, i, j int) int { return sample.Rows[i][j] * (3 - 2*player) })
			g, ok := impl.ZeroSum(sample.Rows)
			want(t, "ZeroSum", g, ok, expected)
			isGame(t, g, true)
			for k, y := range goodChances(n, 1000) {
				x := goodChances(m, 1000)[k%len(goodChances(m, 1000))]
				first, second, _, ok := impl.PayOf(g, x, y)
				want(t, "the sum of both pays", first+second, ok, 0)
			}
		}
	})
	for _, rows := range badPayRows() {
		g, ok := impl.ZeroSum(rows)
		wantFailure(t, "ZeroSum", ok, g)
	}
}

func TestGamesThatAreNone(t *testing.T) {
	for _, g := range append(badGames(), impl.Game{}) {
		isGame(t, g, false)
		for _, list := range [][]int{nil, {}, {1}, {1, 0}, {1, 0, 0}, {0, 1, 0, 0}} {
			replies, ok := impl.RowReplies(g, list)
			wantFailure(t, "RowReplies", ok, replies)
			replies, ok = impl.ColumnReplies(g, list)
			wantFailure(t, "ColumnReplies", ok, replies)
			wantNothingOfWeights(t, g, list, list)
			wantNothingOfWeights(t, g, list, []int{1})
			wantNothingOfWeights(t, g, []int{1, 0}, list)
		}
		for player := range 4 {
			corners, ok := impl.CornersOf(g, player)
			wantFailure(t, "CornersOf", ok, corners)
			for _, corner := range [][]int{nil, {}, {0, 1}, {0, 0, 1}, {0, 0, 0, 1}} {
				labels, ok := impl.LabelsOfCorner(g, player, corner)
				wantFailure(t, "LabelsOfCorner", ok, labels)
			}
		}
		pure, ok := impl.PureEquilibria(g)
		wantFailure(t, "PureEquilibria", ok, pure)
		regular, ok := impl.IsRegularGame(g)
		wantFailure(t, "IsRegularGame", ok, regular)
		xs, ys, ok := impl.AllEquilibria(g)
		wantFailure(t, "AllEquilibria", ok, xs, ys)
		for label := -1; label < 7; label++ {
			wantNoWalk(t, g, label)
		}
		swapped, ok := impl.SwapPlayers(g)
		wantFailure(t, "SwapPlayers", ok, swapped)
		for j := -1; j < 4; j++ {
			wantNotAdded(t, g, j, 0)
		}
	}
}

// Rows may share memory with each other and with columns, and new games do not.
func TestGamesOfOneRow(t *testing.T) {
	row := []int{1, -2}
	rows := [][]int{row, row}
	g := impl.Game{Rows: rows, Columns: rows}
	checkGame(t, g)
	added, ok := impl.AddToColumn(g, 1, 3)
	want(t, "AddToColumn", added, ok, impl.Game{Rows: [][]int{{1, 1}, {1, 1}}, Columns: [][]int{{1, -2}, {1, -2}}})
	zero, ok := impl.ZeroSum(rows)
	want(t, "ZeroSum", zero, ok, impl.Game{Rows: [][]int{{1, -2}, {1, -2}}, Columns: [][]int{{-1, 2}, {-1, 2}}})
	wantSwapped(t, g, impl.Game{Rows: [][]int{{1, 1}, {-2, -2}}, Columns: [][]int{{1, 1}, {-2, -2}}})
	for _, other := range []impl.Game{added, zero} {
		other.Rows[0][0] = 99
		want(t, "the next row", other.Rows[1][0], true, 1)
		want(t, "the column", other.Columns[0][0] == 99, true, false)
	}
	want(t, "the row", row, true, []int{1, -2})
}
