package tests

// The functions of chapter 7 for promise 11: i is a player, a label or a column, j what is added, n how many choices there are, the list weights of rows or a corner, the second one weights of columns, and the rows pays.

import (
	"math"
	"slices"

	"loop.example/g01160/impl"
)

func hasGame(a arguments) bool { return isGameOf(a.game) }

func hasRegularGame(a arguments) bool { return hasGame(a) && oracleIsRegularGame(a.game) }

func hasRowWeights(a arguments) bool {
	return hasGame(a) && areChancesOf(a.list, len(a.game.Rows), 1000000)
}

func hasColumnWeights(a arguments) bool {
	return hasGame(a) && areChancesOf(a.second, len(a.game.Rows[0]), 1000000)
}

func hasBothWeights(a arguments) bool { return hasRowWeights(a) && hasColumnWeights(a) }

func hasPay(a arguments) bool {
	return hasBothWeights(a) && slices.Max(a.list) <= 1000 && slices.Max(a.second) <= 1000
}

func hasFigure(a arguments) bool { return hasGame(a) && isPlayerOf(a.i) }

func hasCorner(a arguments) bool {
	return hasFigure(a) && slices.ContainsFunc(oracleCorners(a.game, a.i), func(c oracleCorner) bool { return slices.Equal(c.list, a.list) })
}

func hasGameLabel(a arguments) bool {
	return a.i >= 0 && hasRegularGame(a) && a.i < len(a.game.Rows)+len(a.game.Rows[0])
}

func hasColumnToAdd(a arguments) bool {
	if !hasGame(a) || a.i < 0 || a.i >= len(a.game.Rows[0]) || a.j < -20 || a.j > 20 {
		return false
	}
	for _, row := range a.game.Rows {
		if row[a.i]+a.j < -9 || row[a.i]+a.j > 9 {
			return false
		}
	}
	return true
}

func functionsOfChapter7() []totalFunction {
	return []totalFunction{
		{"IsGame", func(a arguments) []any { return []any{impl.IsGame(a.game)} }, hasGame},
		{"AreWeights", func(a arguments) []any { return pair(impl.AreWeights(a.list, a.n)) },
			func(a arguments) bool { return a.n >= 1 && a.n <= 3 }},
		{"RowReplies", func(a arguments) []any { return pair(impl.RowReplies(a.game, a.second)) }, hasColumnWeights},
		{"ColumnReplies", func(a arguments) []any { return pair(impl.ColumnReplies(a.game, a.list)) }, hasRowWeights},
		{"PayOf", func(a arguments) []any { return quadruple(impl.PayOf(a.game, a.list, a.second)) }, hasPay},
		{"IsEquilibrium", func(a arguments) []any { return pair(impl.IsEquilibrium(a.game, a.list, a.second)) }, hasBothWeights},
		{"PureEquilibria", func(a arguments) []any { return pair(impl.PureEquilibria(a.game)) }, hasGame},
		{"CornersOf", func(a arguments) []any { return pair(impl.CornersOf(a.game, a.i)) }, hasFigure},
		{"LabelsOfCorner", func(a arguments) []any { return pair(impl.LabelsOfCorner(a.game, a.i, a.list)) }, hasCorner},
		{"IsRegularGame", func(a arguments) []any { return pair(impl.IsRegularGame(a.game)) }, hasGame},
		{"AllEquilibria", func(a arguments) []any { return triple(impl.AllEquilibria(a.game)) }, hasRegularGame},
		{"WalkFromLabel", func(a arguments) []any { return triple(impl.WalkFromLabel(a.game, a.i)) }, hasGameLabel},
		{"WalkSteps", func(a arguments) []any { return pair(impl.WalkSteps(a.game, a.i)) }, hasGameLabel},
		{"SwapPlayers", func(a arguments) []any { return pair(impl.SwapPlayers(a.game)) }, hasGame},
		{"AddToColumn", func(a arguments) []any { return pair(impl.AddToColumn(a.game, a.i, a.j)) }, hasColumnToAdd},
		{"ZeroSum", func(a arguments) []any { return pair(impl.ZeroSum(a.rows)) }, func(a arguments) bool { return arePayRows(a.rows) }},
	}
}

// gameArguments has games of each size with players, labels, columns and lists, good and bad.
func gameArguments() []arguments {
	var all []arguments
	rows := badPayRows()
	allSizes(func(m, n int) {
		next := chance(100*m + n + 2300)
		numbers := []int{-1, 6, 7, m + n, math.MaxInt, math.MinInt}
		added := []int{0, 1, -1, 5, -20, 20, -21, 21, math.MaxInt, math.MinInt}
		for k, g := range gameSamples(m, n, 3) {
			corners := oracleCorners(g, 1+k%2)
			xs, ys := goodChances(m, 1000), goodChances(n, 1000)
			for i := range m + n {
				all = append(all, arguments{n: m, i: i, j: next(7) - 3, list: xs[next(len(xs))], second: ys[next(len(ys))], rows: g.Rows, game: g})
			}
			xs, ys = slices.Concat(xs, goodChances(m, 1000000), badChances(m)), slices.Concat(ys, goodChances(n, 1000000), badChances(n))
			all = append(all,
				arguments{n: m, i: 1 + k%2, list: corners[next(len(corners))].list, second: ys[next(len(ys))], rows: rows[next(len(rows))], game: g},
				arguments{n: m, i: numbers[k%len(numbers)], j: added[next(len(added))], list: xs[next(len(xs))], second: ys[next(len(ys))], rows: g.Columns, game: g},
				arguments{n: n, i: next(m + n), j: added[next(len(added))], list: xs[next(len(xs))], second: ys[next(len(ys))], game: g})
		}
	})
	next, bad := chance(2500), badGames()
	for k := 0; k < len(bad); k += 7 {
		all = append(all, arguments{n: k % 5, i: next(5), j: next(3), list: goodChances(1+k%3, 1000)[0], second: goodChances(1+k/3%3, 1000)[0], rows: bad[k].Rows, game: bad[k]})
	}
	return all
}
