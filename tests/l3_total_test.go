package tests

// The functions of chapter 3 for promise 11: n are the rows, j the columns, i a place or a player, and the list a board.

import (
	"math"
	"slices"

	"loop.example/g01160/impl"
)

func hasGrid(a arguments) bool { return isGrid(a.n, a.j) }

func hasBoard(a arguments) bool { return isBoardOf(a.n, a.j, a.list) }

func hasFullBoard(a arguments) bool { return isFullBoardOf(a.n, a.j, a.list) }

func hasBoardAndPlayer(a arguments) bool { return hasBoard(a) && isPlayerOf(a.i) }

func hasPlayedBoard(a arguments) bool { return hasBoardAndPlayer(a) && countZeros(a.list) <= 9 }

func functionsOfChapter3() []totalFunction {
	return []totalFunction{
		{"IsBoard", func(a arguments) []any { return pair(impl.IsBoard(a.n, a.j, a.list)) }, hasGrid},
		{"HexNear", func(a arguments) []any { return pair(impl.HexNear(a.n, a.j, a.i)) },
			func(a arguments) bool { return hasGrid(a) && a.i >= 0 && a.i < a.n*a.j }},
		{"HasWon", func(a arguments) []any { return pair(impl.HasWon(a.n, a.j, a.list, a.i)) }, hasBoardAndPlayer},
		{"WinnerOf", func(a arguments) []any { return pair(impl.WinnerOf(a.n, a.j, a.list)) }, hasFullBoard},
		{"HexWalk", func(a arguments) []any { return pair(impl.HexWalk(a.n, a.j, a.list)) }, hasFullBoard},
		{"WinnerByWalk", func(a arguments) []any { return pair(impl.WinnerByWalk(a.n, a.j, a.list)) }, hasFullBoard},
		{"NeedOf", func(a arguments) []any { return pair(impl.NeedOf(a.n, a.j, a.list, a.i)) },
			func(a arguments) bool { return hasBoardAndPlayer(a) && oracleNeed(a.n, a.j, a.list, a.i) >= 0 }},
		{"TurnBoard", func(a arguments) []any { return pair(impl.TurnBoard(a.n, a.j, a.list)) }, hasBoard},
		{"HalfTurn", func(a arguments) []any { return pair(impl.HalfTurn(a.n, a.j, a.list)) }, hasBoard},
		{"WinsMoving", func(a arguments) []any { return pair(impl.WinsMoving(a.n, a.j, a.list, a.i)) }, hasPlayedBoard},
		{"FirstWinningMove", func(a arguments) []any { return pair(impl.FirstWinningMove(a.n, a.j, a.list, a.i)) },
			func(a arguments) bool { return hasPlayedBoard(a) && oracleWinningMove(a.n, a.j, a.list, a.i) >= 0 }},
		{"CountWins", func(a arguments) []any { return pair(impl.CountWins(a.n, a.j, a.i)) },
			func(a arguments) bool { return hasGrid(a) && a.n*a.j <= 9 && isPlayerOf(a.i) }},
		{"BoardText", func(a arguments) []any { return pair(impl.BoardText(a.n, a.j, a.list)) }, hasBoard},
		{"ParseBoard", func(a arguments) []any { return quadruple(impl.ParseBoard(a.text)) },
			func(a arguments) bool { return isBoardText(a.text) }},
	}
}

func goodBoardTexts() []string { return []string{"0", "12/21", "120", "1/2/0", "12/11"} }

// boardArguments has rows and columns with their edges, good and bad, and with lists of all kinds.
func boardArguments() []arguments {
	texts := append(goodBoardTexts(), "", "/", "12/2", "12/23", "1//1", "\xff")
	var all []arguments
	for _, g := range [][2]int{{1, 1}, {1, 4}, {4, 1}, {2, 2}, {2, 3}, {3, 3}, {1, 9}, {2, 5}, {4, 3}, {6, 5}, {30, 1}, {1, 30}, {2, 15}} {
		size := g[0] * g[1]
		lists := slices.Concat(sampleBoards(g[0], g[1])[:13], badBoards(g[0], g[1]))
		lists = append(lists, withZeros(lists[7], 9), withZeros(lists[7], 10))
		for k, list := range lists {
			for _, i := range []int{1, 2} {
				all = append(all, arguments{n: g[0], i: i, j: g[1], list: list, text: texts[k%len(texts)]})
			}
			others := []int{0, 3, -1, size - 1, size, math.MaxInt, math.MinInt}
			all = append(all, arguments{n: g[0], i: others[k%len(others)], j: g[1], list: list, text: texts[k%len(texts)]})
		}
	}
	for k, g := range badGrids {
		for _, list := range [][]int{nil, {1}, make([]int, 31), make([]int, 36)} {
			all = append(all, arguments{n: g[0], i: 1 + k%2, j: g[1], list: list})
		}
	}
	return all
}
