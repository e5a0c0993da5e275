package tests

// What chapter 5 says, computed anew: cakes slice by slice, envy by trying all pairs of people and pieces, what is best by making a list of all that there is.

import "slices"

// oracleSharings are all lists of 0, 1 and 2, each once, in lexicographic order.
func oracleSharings() [][]int {
	var sharings [][]int
	for number := range 27 {
		if list := []int{number / 9, number / 3 % 3, number % 3}; isSharing(list) {
			sharings = append(sharings, list)
		}
	}
	return sharings
}

func isSharing(list []int) bool {
	return len(list) == 3 && slices.Contains(list, 0) && slices.Contains(list, 1) && slices.Contains(list, 2)
}

func isPersonOf(person int) bool { return person == 0 || person == 1 || person == 2 }

func areThreeLists(lists [][]int, length, greatest int) bool {
	if len(lists) != 3 {
		return false
	}
	for _, list := range lists {
		if len(list) != length || length > 0 && (slices.Min(list) < 0 || slices.Max(list) > greatest) {
			return false
		}
	}
	return true
}

func areTastesOf(n int, tastes [][]int) bool { return isSide(n) && areThreeLists(tastes, n, 9) }

func areWorthsOf(worths [][]int) bool { return areThreeLists(worths, 3, 20) }

func oraclePieces(n int, tastes [][]int, person, i int) []int {
	p := oraclePoints(n)[i]
	var pieceOf []int
	for piece, size := range p {
		for range size {
			pieceOf = append(pieceOf, piece)
		}
	}
	pieces := []int{0, 0, 0}
	for k, piece := range pieceOf {
		pieces[piece] += tastes[person][k]
	}
	return pieces
}

func oracleOwner(n, i int) int {
	p := oraclePoints(n)[i]
	return (p[1] + p[2] + p[2]) % 3
}

func oracleFavourite(n int, tastes [][]int, person, i int) int {
	pieces := oraclePieces(n, tastes, person, i)
	var favourites []int
	for piece, size := range oraclePoints(n)[i] {
		if size == 0 {
			continue
		}
		best := true
		for other, otherSize := range oraclePoints(n)[i] {
			best = best && (otherSize == 0 || pieces[piece] >= pieces[other])
		}
		if best {
			favourites = append(favourites, piece)
		}
	}
	return favourites[0]
}

func oracleCakeLabels(n int, tastes [][]int) []int {
	var labels []int
	for i := range oraclePoints(n) {
		labels = append(labels, oracleFavourite(n, tastes, oracleOwner(n, i), i))
	}
	return labels
}

func oracleFairCut(n int, tastes [][]int) (point int, pieces []int) {
	cell := oracleCells(n)[oracleFound(n, oracleCakeLabels(n, tastes))]
	for person := range 3 {
		own := slices.IndexFunc(cell, func(i int) bool { return oracleOwner(n, i) == person })
		pieces = append(pieces, oracleFavourite(n, tastes, person, cell[own]))
	}
	return slices.Min(cell), pieces
}

// oracleCakeAt is what each piece at a point is worth to each person.
func oracleCakeAt(n int, tastes [][]int, i int) [][]int {
	return [][]int{oraclePieces(n, tastes, 0, i), oraclePieces(n, tastes, 1, i), oraclePieces(n, tastes, 2, i)}
}

// oracleRentAt is what each room is worth to each person when it costs what it does at a point.
func oracleRentAt(n int, worths [][]int, i int) [][]int {
	var left [][]int
	for _, row := range worths {
		p := oraclePoints(n)[i]
		left = append(left, []int{row[0] - p[0], row[1] - p[1], row[2] - p[2]})
	}
	return left
}

func oracleEnvy(worths [][]int, own []int) int {
	envies := []int{0}
	for person, row := range worths {
		for _, worth := range row {
			envies = append(envies, worth-row[own[person]])
		}
	}
	return slices.Max(envies)
}

func oracleSum(worths [][]int, own []int) int {
	return worths[0][own[0]] + worths[1][own[1]] + worths[2][own[2]]
}

type sharedPoint struct {
	envy, point int
	own         []int
}

// oracleLeast finds the first of all points and sharings with the least envy, if the offers of a point are told by worthsAt.
func oracleLeast(n int, worthsAt func(i int) [][]int) sharedPoint {
	var all []sharedPoint
	for i := range oraclePoints(n) {
		for _, own := range oracleSharings() {
			all = append(all, sharedPoint{oracleEnvy(worthsAt(i), own), i, own})
		}
	}
	slices.SortStableFunc(all, func(a, b sharedPoint) int { return a.envy - b.envy })
	return all[0]
}

func oracleBestCut(n int, tastes [][]int) sharedPoint {
	return oracleLeast(n, func(i int) [][]int { return oracleCakeAt(n, tastes, i) })
}

func oracleFairRent(n int, worths [][]int) sharedPoint {
	return oracleLeast(n, func(i int) [][]int { return oracleRentAt(n, worths, i) })
}

func oracleBestRooms(worths [][]int) []int {
	all := oracleSharings()
	slices.SortStableFunc(all, func(a, b []int) int { return oracleSum(worths, b) - oracleSum(worths, a) })
	return all[0]
}

func rowsBy(length int, numberAt func(person, k int) int) [][]int {
	rows := make([][]int, 3)
	for person := range rows {
		rows[person] = []int{}
		for k := range length {
			rows[person] = append(rows[person], numberAt(person, k))
		}
	}
	return rows
}

// tasteSamples are tastes of all kinds for a side, the same ones in each run: many slices that are worth nothing, and many pieces of equal worth among them.
func tasteSamples(n int) [][][]int {
	next := chance(n + 500)
	samples := [][][]int{
		rowsBy(n, func(person, k int) int { return 0 }),
		rowsBy(n, func(person, k int) int { return 1 }),
		rowsBy(n, func(person, k int) int { return 9 }),
		rowsBy(n, func(person, k int) int { return k % 10 }),
		rowsBy(n, func(person, k int) int { return 9 - k }),
		rowsBy(n, func(person, k int) int { return (person + k) % 3 }),
		rowsBy(n, func(person, k int) int { return 9 * (k % 2) }),
		rowsBy(n, func(person, k int) int { return min(person, k) }),
		rowsBy(n, func(person, k int) int { return []int{0, 1, 9}[person] }),
	}
	for only := range n {
		samples = append(samples, rowsBy(n, func(person, k int) int {
			if k == only {
				return 9 - person
			}
			return 0
		}))
	}
	for _, below := range []int{10, 2, 3, 10, 5} {
		for range 6 {
			samples = append(samples, rowsBy(n, func(person, k int) int { return next(below) }))
			samples = append(samples, rowsBy(n, func(person, k int) int { return max(0, next(2*below)-below) }))
		}
	}
	return samples
}

// worthSamples are worths of all kinds, the same ones in each run.
func worthSamples() [][][]int {
	next := chance(700)
	samples := [][][]int{
		rowsBy(3, func(person, room int) int { return 0 }),
		rowsBy(3, func(person, room int) int { return 20 }),
		rowsBy(3, func(person, room int) int { return 10 * room }),
		rowsBy(3, func(person, room int) int { return 20 - 10*room }),
		rowsBy(3, func(person, room int) int { return 10 * person }),
		{{5, 1, 1}, {1, 5, 1}, {1, 1, 5}},
		{{0, 20, 0}, {0, 20, 0}, {0, 0, 0}},
		{{0, 0, 20}, {20, 0, 0}, {0, 20, 0}},
		{{20, 0, 0}, {20, 0, 0}, {20, 0, 0}},
	}
	for _, below := range []int{21, 2, 3, 6, 21, 10} {
		for range 10 {
			samples = append(samples, rowsBy(3, func(person, room int) int { return next(below) }))
			samples = append(samples, rowsBy(3, func(person, room int) int { return max(0, next(2*below)-below) }))
		}
	}
	return samples
}

// allRows calls do with all rows of three people of such numbers; do must not keep them.
func allRows(length int, from []int, do func([][]int)) {
	rows := rowsBy(length, func(person, k int) int { return from[0] })
	count := 1
	for range 3 * length {
		count *= len(from)
	}
	for number := range count {
		for place := range 3 * length {
			rows[place/length][place%length] = from[number%len(from)]
			number /= len(from)
		}
		do(rows)
	}
}

// badSharings are lists that are no pieces and no rooms.
func badSharings() [][]int {
	return [][]int{
		nil, {}, {0}, {0, 1}, {1, 2}, {0, 1, 2, 0}, {0, 1, 2, 3}, {0, 1, 2, 0, 1, 2}, {0, 0, 0}, {0, 0, 1}, {0, 1, 1}, {2, 1, 2}, {1, 1, 1}, {0, 2, 2},
		{0, 1, 3}, {1, 2, 3}, {3, 1, 2}, {0, 3, 2}, {-1, 0, 1}, {0, -1, 2}, {0, 1, -1}, {-1, -2, 0}, {0, 1, 258}, {256, 1, 2}, {0, 1, 1 << 32}, {1 << 32, 1, 2},
		{0, 1<<63 - 1, 2}, {0, 1, -1 << 63}, {-1 << 63, 1<<63 - 1, 1}, {4, -1, 0},
	}
}

// badRows are lists that are no tastes and no worths of this length and with this greatest number.
func badRows(length, greatest int) [][][]int {
	good := func() [][]int {
		return rowsBy(length, func(person, k int) int { return (person + k) % 2 * greatest })
	}
	lists := [][][]int{nil, {}, good()[:1], good()[:2], append(good(), good()[0]), append(good(), nil), {nil, nil, nil}, {{}, {}, {}}, make([][]int, 100)}
	for person := range 3 {
		for _, row := range [][]int{nil, {}, make([]int, length-1), make([]int, length+1), make([]int, 100)} {
			other := good()
			other[person] = row
			if len(row) != length {
				lists = append(lists, other)
			}
		}
		for _, number := range []int{-1, greatest + 1, greatest + 2, -greatest, 256, 1 << 32, -1 << 32, 1<<63 - 1, -1 << 63} {
			for _, k := range []int{0, length / 2, length - 1} {
				other := good()
				other[person][k] = number
				lists = append(lists, other)
			}
		}
	}
	return lists
}
