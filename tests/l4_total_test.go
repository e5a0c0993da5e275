package tests

// The functions of chapter 4 for promise 11: n is the reach, i and j are points or the numbers x and y of one, and the list is labels.

import (
	"math"
	"slices"

	"loop.example/g01160/impl"
)

func hasReach(a arguments) bool { return isReach(a.n) }

func hasSquareLabels(a arguments) bool { return areSquareLabels(a.n, a.list) }

func functionsOfChapter4() []totalFunction {
	return []totalFunction{
		{"CountSquare", func(a arguments) []any { return pair(impl.CountSquare(a.n)) }, hasReach},
		{"SquareAt", func(a arguments) []any { return pair(impl.SquareAt(a.n, a.i)) },
			func(a arguments) bool { return isSquarePoint(a.n, a.i) }},
		{"SquareIndex", func(a arguments) []any { return pair(impl.SquareIndex(a.n, a.i, a.j)) },
			func(a arguments) bool { return isReach(a.n) && oracleSquareIndex(a.n, a.i, a.j) >= 0 }},
		{"SquareCells", func(a arguments) []any { return pair(impl.SquareCells(a.n)) }, hasReach},
		{"SquareBorder", func(a arguments) []any { return pair(impl.SquareBorder(a.n)) }, hasReach},
		{"AreOpposite", func(a arguments) []any { return pair(impl.AreOpposite(a.n, a.list)) }, hasReach},
		{"NegateLabels", func(a arguments) []any { return pair(impl.NegateLabels(a.n, a.list)) }, hasSquareLabels},
		{"OppositeEdges", func(a arguments) []any { return pair(impl.OppositeEdges(a.n, a.list)) }, hasSquareLabels},
		{"SquareDoors", func(a arguments) []any { return pair(impl.SquareDoors(a.n, a.list)) }, hasSquareLabels},
		{"SquareWalk", func(a arguments) []any { return triple(impl.SquareWalk(a.n, a.list, a.i, a.j)) },
			func(a arguments) bool { return hasSquareLabels(a) && isSquareDoor(a.n, a.list, a.i, a.j) }},
		{"FindOpposite", func(a arguments) []any { return pair(impl.FindOpposite(a.n, a.list)) },
			func(a arguments) bool { return hasSquareLabels(a) && oracleAreOpposite(a.n, a.list) }},
		{"SquareTurns", func(a arguments) []any { return pair(impl.SquareTurns(a.n, a.list)) },
			func(a arguments) bool { return hasSquareLabels(a) && len(oracleBorderEdges(a.n, a.list)) == 0 }},
		{"AddTurn", func(a arguments) []any { return pair(impl.AddTurn(a.n, a.list)) }, hasSquareLabels},
	}
}

// squareArguments has each reach with points, doors and none, and with lists of all kinds.
func squareArguments() []arguments {
	var all []arguments
	for n := 1; n <= impl.MaxReach; n++ {
		size := (2*n + 1) * (2*n + 1)
		samples := slices.Concat(oppositeSamples(n)[:10], otherSquareSamples(n)[20:60:60])
		lists := slices.Concat(samples, badSquareLists(n))
		for _, labels := range samples {
			lists = append(lists, labels[:size-1])
			for k, door := range oracleSquareDoors(n, labels) {
				all = append(all, arguments{n: n, i: door[k%2], j: door[1-k%2], list: labels})
			}
		}
		numbers := []int{0, 1, -1, n, -n, n + 1, -n - 1, size / 2, size - 1, size, math.MaxInt, math.MinInt}
		next := chance(n)
		for _, list := range lists {
			all = append(all, arguments{n: n, i: numbers[next(len(numbers))], j: numbers[next(len(numbers))], list: list})
		}
	}
	for _, n := range badReaches {
		for _, list := range [][]int{nil, {1}, {1, 2, 2, 2, 1, -2, -2, -2, -1}, oppositeSamples(4)[0]} {
			all = append(all, arguments{n: n, i: 0, j: 1, list: list}, arguments{n: n, i: n, j: n, list: list})
		}
	}
	return all
}
