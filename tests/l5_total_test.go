package tests

// The functions of chapter 5 for promise 11: n is the side, i a point, j a person, the list pieces or rooms, and the rows tastes or worths.

import (
	"math"
	"slices"

	"loop.example/g01160/impl"
)

func hasTastes(a arguments) bool { return areTastesOf(a.n, a.rows) }

func hasCut(a arguments) bool { return hasTastes(a) && isPointOf(a.n, a.i) }

func hasCutAndPerson(a arguments) bool { return hasCut(a) && isPersonOf(a.j) }

func hasCutAndPieces(a arguments) bool { return hasCut(a) && isSharing(a.list) }

func hasWorths(a arguments) bool { return areWorthsOf(a.rows) }

func hasRent(a arguments) bool { return hasWorths(a) && isSide(a.n) }

func functionsOfChapter5() []totalFunction {
	return []totalFunction{
		{"AreTastes", func(a arguments) []any { return pair(impl.AreTastes(a.n, a.rows)) }, hasSide},
		{"PiecesOf", func(a arguments) []any { return pair(impl.PiecesOf(a.n, a.rows, a.j, a.i)) }, hasCutAndPerson},
		{"OwnerAt", func(a arguments) []any { return pair(impl.OwnerAt(a.n, a.i)) }, hasPoint},
		{"FavouriteOf", func(a arguments) []any { return pair(impl.FavouriteOf(a.n, a.rows, a.j, a.i)) }, hasCutAndPerson},
		{"CakeLabels", func(a arguments) []any { return pair(impl.CakeLabels(a.n, a.rows)) }, hasTastes},
		{"FairCell", func(a arguments) []any { return pair(impl.FairCell(a.n, a.rows)) }, hasTastes},
		{"FairCut", func(a arguments) []any { return triple(impl.FairCut(a.n, a.rows)) }, hasTastes},
		{"EnvyAt", func(a arguments) []any { return pair(impl.EnvyAt(a.n, a.rows, a.i, a.list)) }, hasCutAndPieces},
		{"GreatestTaste", func(a arguments) []any { return pair(impl.GreatestTaste(a.n, a.rows)) }, hasTastes},
		{"LeastEnvy", func(a arguments) []any { return pair(impl.LeastEnvy(a.n, a.rows)) }, hasTastes},
		{"BestCut", func(a arguments) []any { return triple(impl.BestCut(a.n, a.rows)) }, hasTastes},
		{"SumAt", func(a arguments) []any { return pair(impl.SumAt(a.n, a.rows, a.i, a.list)) }, hasCutAndPieces},
		{"RentEnvy", func(a arguments) []any { return pair(impl.RentEnvy(a.n, a.rows, a.i, a.list)) },
			func(a arguments) bool { return hasRent(a) && isPointOf(a.n, a.i) && isSharing(a.list) }},
		{"FairRent", func(a arguments) []any { return triple(impl.FairRent(a.n, a.rows)) }, hasRent},
		{"BestRooms", func(a arguments) []any { return pair(impl.BestRooms(a.rows)) }, hasWorths},
	}
}

// sharedArguments has each side with points and people, good and bad, and with rows and lists of all kinds.
func sharedArguments() []arguments {
	var all []arguments
	for n := 1; n <= impl.MaxSide; n++ {
		size := (n + 1) * (n + 2) / 2
		rows := slices.Concat(tasteSamples(n)[:20], worthSamples()[:20])
		lists := oracleSharings()
		for k, r := range rows {
			all = append(all, arguments{n: n, i: k * size / len(rows), j: k % 3, list: lists[k%6], rows: r})
		}
		rows = slices.Concat(rows[:10], badRows(n, impl.MaxTaste), badRows(3, 20))
		lists = slices.Concat(lists, badSharings())
		points := []int{0, size / 2, size - 1, size, -1, math.MaxInt, math.MinInt}
		persons := []int{0, 1, 2, 3, -1, math.MaxInt, math.MinInt}
		next := chance(n + 900)
		for _, r := range rows {
			all = append(all, arguments{n: n, i: points[next(len(points))], j: persons[next(len(persons))], list: lists[next(len(lists))], rows: r})
		}
	}
	for _, n := range badSides {
		for _, rows := range [][][]int{nil, {{}, {}, {}}, {{1}, {2}, {3}}, {{1, 2, 3}, {4, 5, 6}, {7, 8, 9}}, rowsOfSide(n)} {
			all = append(all, arguments{n: n, i: 0, j: 1, list: []int{0, 1, 2}, rows: rows})
		}
	}
	return all
}

// rowsOfSide would be tastes if there were such a side.
func rowsOfSide(n int) [][]int {
	if n < 0 || n > 1000 {
		return nil
	}
	return rowsBy(n, func(person, k int) int { return (person + k) % 10 })
}
