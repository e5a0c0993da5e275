package tests

// What chapter 7 says, computed anew: corners by solving for them in fractions, equilibria by trying which choices are made, walks by going from pair to pair of corners that have all labels but one.

import (
	"fmt"
	"math"
	"math/big"
	"math/bits"
	"slices"

	"loop.example/g01160/impl"
)

func arePayRows(rows [][]int) bool {
	if len(rows) == 0 || len(rows) > 3 {
		return false
	}
	for _, row := range rows {
		if len(row) == 0 || len(row) > 3 || len(row) != len(rows[0]) {
			return false
		}
		for _, pay := range row {
			if pay > 9 || pay < -9 {
				return false
			}
		}
	}
	return true
}

func isGameOf(g impl.Game) bool {
	return arePayRows(g.Rows) && arePayRows(g.Columns) && len(g.Rows) == len(g.Columns) && len(g.Rows[0]) == len(g.Columns[0])
}

func areChancesOf(list []int, choices, greatest int) bool {
	if len(list) != choices {
		return false
	}
	divisor := new(big.Int)
	for _, number := range list {
		if number < 0 || number > greatest {
			return false
		}
		divisor.GCD(nil, nil, divisor, big.NewInt(int64(number)))
	}
	return divisor.Cmp(big.NewInt(1)) == 0
}

func oracleSwapped(g impl.Game) impl.Game {
	var swapped impl.Game
	for j := range g.Rows[0] {
		var row, column []int
		for i := range g.Rows {
			row = append(row, g.Columns[i][j])
			column = append(column, g.Rows[i][j])
		}
		swapped.Rows = append(swapped.Rows, row)
		swapped.Columns = append(swapped.Columns, column)
	}
	return swapped
}

// oracleMeans has what both players get, times the sums of both weights.
func oracleMeans(g impl.Game, x, y []int) (first, second int) {
	for i := range x {
		for j := range y {
			first += x[i] * y[j] * g.Rows[i][j]
			second += x[i] * y[j] * g.Columns[i][j]
		}
	}
	return first, second
}

// only makes one choice for sure.
func only(choices, choice int) []int {
	weights := make([]int, choices)
	weights[choice] = 1
	return weights
}

func oracleRowReplies(g impl.Game, y []int) []int {
	var replies []int
	for i := range g.Rows {
		own, _ := oracleMeans(g, only(len(g.Rows), i), y)
		better := 0
		for other := range g.Rows {
			if more, _ := oracleMeans(g, only(len(g.Rows), other), y); more > own {
				better++
			}
		}
		if better == 0 {
			replies = append(replies, i)
		}
	}
	return replies
}

func oracleColumnReplies(g impl.Game, x []int) []int {
	return oracleRowReplies(oracleSwapped(g), x)
}

// oracleIsEquilibrium asks whether a player could get more by one choice for sure: so they could if a choice that is made were no best reply.
func oracleIsEquilibrium(g impl.Game, x, y []int) bool {
	first, second := oracleMeans(g, x, y)
	for i := range x {
		if other, _ := oracleMeans(g, only(len(x), i), y); other*oracleTotal(x) > first {
			return false
		}
	}
	for j := range y {
		if _, other := oracleMeans(g, x, only(len(y), j)); other*oracleTotal(y) > second {
			return false
		}
	}
	return true
}

func oracleTotal(list []int) int {
	total := 0
	for _, number := range list {
		total += number
	}
	return total
}

func oraclePure(g impl.Game) [][]int {
	var found [][]int
	for i := range g.Rows {
		for j := range g.Rows[0] {
			best := true
			for other := range g.Rows {
				best = best && g.Rows[other][j] <= g.Rows[i][j]
			}
			for other := range g.Rows[0] {
				best = best && g.Columns[i][other] <= g.Columns[i][j]
			}
			if best {
				found = append(found, []int{i, j})
			}
		}
	}
	return found
}

// oracleLimit is a condition: the sum of the products of factors and numbers is at most this.
type oracleLimit struct {
	label   int
	factors []int
	most    int
}

type oracleCorner struct {
	list, labels []int
}

// oracleLimits are in the order of their labels.
func oracleLimits(g impl.Game, player int) []oracleLimit {
	m, n := len(g.Rows), len(g.Rows[0])
	var limits []oracleLimit
	for label := range m + n {
		limit := oracleLimit{label: label}
		switch {
		case player == 1 && label < m:
			limit.factors = only(m, label)
			limit.factors[label] = -1
		case player == 1:
			for i := range m {
				limit.factors = append(limit.factors, 10+g.Columns[i][label-m])
			}
			limit.most = 1
		case label < m:
			for j := range n {
				limit.factors = append(limit.factors, 10+g.Rows[label][j])
			}
			limit.most = 1
		default:
			limit.factors = only(n, label-m)
			limit.factors[label-m] = -1
		}
		limits = append(limits, limit)
	}
	return limits
}

// compare is less than 0 if more is possible, and 0 if the limit is met exactly.
func (l oracleLimit) compare(point []*big.Rat) int {
	sum := new(big.Rat)
	for k, factor := range l.factors {
		sum.Add(sum, new(big.Rat).Mul(big.NewRat(int64(factor), 1), point[k]))
	}
	return sum.Cmp(big.NewRat(int64(l.most), 1))
}

func oracleCorners(g impl.Game, player int) []oracleCorner {
	limits := oracleLimits(g, player)
	size := len(limits[0].factors)
	found := map[string]oracleCorner{}
	for number := range 1 << len(limits) {
		if bits.OnesCount(uint(number)) != size {
			continue
		}
		var equations [][]*big.Rat
		for k, limit := range limits {
			if number&(1<<k) != 0 {
				equations = append(equations, fractions(append(slices.Clone(limit.factors), limit.most)...))
			}
		}
		point := solved(equations)
		if point == nil || slices.ContainsFunc(limits, func(limit oracleLimit) bool { return limit.compare(point) > 0 }) {
			continue
		}
		c := oracleCorner{list: wholeNumbers(point)}
		for _, limit := range limits {
			if limit.compare(point) == 0 {
				c.labels = append(c.labels, limit.label)
			}
		}
		found[fmt.Sprint(c.list)] = c
	}
	var corners []oracleCorner
	for _, c := range found {
		corners = append(corners, c)
	}
	slices.SortFunc(corners, func(c, d oracleCorner) int { return slices.Compare(c.list, d.list) })
	return corners
}

// wholeNumbers are those of a point, each times the least number that makes all whole, and this number.
func wholeNumbers(point []*big.Rat) []int {
	times := big.NewInt(1)
	for _, number := range point {
		divisor := new(big.Int).GCD(nil, nil, times, number.Denom())
		times.Mul(times, new(big.Int).Quo(number.Denom(), divisor))
	}
	var list []int
	for _, number := range point {
		whole := new(big.Rat).Mul(number, new(big.Rat).SetInt(times))
		list = append(list, int(whole.Num().Int64()))
	}
	return append(list, int(times.Int64()))
}

func oracleIsRegularGame(g impl.Game) bool {
	for player, size := range []int{len(g.Rows), len(g.Rows[0])} {
		for _, c := range oracleCorners(g, player+1) {
			if len(c.labels) > size {
				return false
			}
		}
	}
	return true
}

// oracleMade has the weights of rows, made of some of them alone, with which some columns are equally good; nil if there are none alone, or not all greater than 0.
func oracleMade(g impl.Game, rows, columns []int) []*big.Rat {
	var equations [][]*big.Rat
	for _, j := range columns {
		var factors []int
		for _, i := range rows {
			factors = append(factors, g.Columns[i][j])
		}
		equations = append(equations, fractions(append(factors, -1, 0)...))
	}
	sum := slices.Repeat([]int{1}, len(rows))
	equations = append(equations, fractions(append(sum, 0, 1)...))
	found := solved(equations)
	if found == nil {
		return nil
	}
	weights := fractions(make([]int, len(g.Rows))...)
	for k, i := range rows {
		if found[k].Sign() <= 0 {
			return nil
		}
		weights[i] = found[k]
	}
	return weights
}

// oracleCornerOf is as far as weights lead in the figure of the first player.
func oracleCornerOf(g impl.Game, weights []*big.Rat) []int {
	greatest := new(big.Rat)
	for j := range g.Rows[0] {
		sum := new(big.Rat)
		for i, weight := range weights {
			sum.Add(sum, new(big.Rat).Mul(weight, big.NewRat(int64(10+g.Columns[i][j]), 1)))
		}
		if sum.Cmp(greatest) > 0 {
			greatest = sum
		}
	}
	var point []*big.Rat
	for _, weight := range weights {
		point = append(point, new(big.Rat).Quo(weight, greatest))
	}
	return wholeNumbers(point)
}

func bitsOf(number int) []int {
	var found []int
	for k := range 3 {
		if number&(1<<k) != 0 {
			found = append(found, k)
		}
	}
	return found
}

// oracleEquilibria is for regular games, in which both players make equally many choices.
func oracleEquilibria(g impl.Game) (xs, ys [][]int) {
	type equilibrium struct{ corner, x, y []int }
	var found []equilibrium
	for number := range 1 << (len(g.Rows) + len(g.Rows[0])) {
		rows, columns := bitsOf(number%(1<<len(g.Rows))), bitsOf(number>>len(g.Rows))
		if len(rows) != len(columns) || len(rows) == 0 {
			continue
		}
		x, y := oracleMade(g, rows, columns), oracleMade(oracleSwapped(g), columns, rows)
		if x == nil || y == nil {
			continue
		}
		wholeX, wholeY := wholeNumbers(x), wholeNumbers(y)
		e := equilibrium{oracleCornerOf(g, x), wholeX[:len(x)], wholeY[:len(y)]}
		if oracleIsEquilibrium(g, e.x, e.y) {
			found = append(found, e)
		}
	}
	slices.SortFunc(found, func(e, f equilibrium) int { return slices.Compare(e.corner, f.corner) })
	for _, e := range found {
		xs = append(xs, e.x)
		ys = append(ys, e.y)
	}
	return xs, ys
}

func countCommon(a, b []int) int {
	count := 0
	for _, number := range a {
		if slices.Contains(b, number) {
			count++
		}
	}
	return count
}

// oracleGameWalk goes on to the pair of corners that it does not come from, among all that have all labels but for one; both corners of an edge have all labels but one in common.
func oracleGameWalk(g impl.Game, label int) (x, y []int, steps int) {
	first, second := oracleCorners(g, 1), oracleCorners(g, 2)
	m, n := len(g.Rows), len(g.Rows[0])
	isOnWay := func(c, d oracleCorner) bool {
		for other := range m + n {
			if other != label && !slices.Contains(c.labels, other) && !slices.Contains(d.labels, other) {
				return false
			}
		}
		return true
	}
	before, at := [2]int{-1, -1}, [2]int{0, 0}
	for {
		next := at
		for c := range first {
			if to := [2]int{c, at[1]}; c != at[0] && to != before && countCommon(first[c].labels, first[at[0]].labels) == m-1 && isOnWay(first[c], second[at[1]]) {
				next = to
			}
		}
		for d := range second {
			if to := [2]int{at[0], d}; d != at[1] && to != before && countCommon(second[d].labels, second[at[1]].labels) == n-1 && isOnWay(first[at[0]], second[d]) {
				next = to
			}
		}
		if next == at {
			return first[at[0]].list[:m], second[at[1]].list[:n], steps
		}
		before, at = at, next
		steps++
	}
}

// gameBy makes a game of what both players get.
func gameBy(m, n int, payOf func(player, i, j int) int) impl.Game {
	var g impl.Game
	for i := range m {
		var row, column []int
		for j := range n {
			row = append(row, payOf(1, i, j))
			column = append(column, payOf(2, i, j))
		}
		g.Rows = append(g.Rows, row)
		g.Columns = append(g.Columns, column)
	}
	return g
}

func allPaysAlike(m, n, pay int) impl.Game {
	return gameBy(m, n, func(player, i, j int) int { return pay })
}

// diagonal has both players get the same for the same choice, and nothing for others.
func diagonal(pays ...int) impl.Game {
	return gameBy(len(pays), len(pays), func(player, i, j int) int {
		if i == j {
			return pays[i]
		}
		return 0
	})
}

// gameSamples are games of all kinds, the same ones in each run: with all pays alike, with few pays, with the greatest and the least ones, for players who get the same, the contrary, or anything.
func gameSamples(m, n, count int) []impl.Game {
	next := chance(100*m + n + 1900)
	samples := []impl.Game{allPaysAlike(m, n, 0), allPaysAlike(m, n, 9), allPaysAlike(m, n, -9)}
	for range count {
		same := gameBy(m, n, func(player, i, j int) int { return next(19) - 9 }).Rows
		samples = append(samples,
			gameBy(m, n, func(player, i, j int) int { return next(19) - 9 }),
			gameBy(m, n, func(player, i, j int) int { return next(19) - 9 }),
			gameBy(m, n, func(player, i, j int) int { return next(3) - 1 }),
			gameBy(m, n, func(player, i, j int) int { return 9 - 18*next(2) }),
			gameBy(m, n, func(player, i, j int) int { return 9 - next(4) }),
			gameBy(m, n, func(player, i, j int) int { return next(4) - 9 }),
			gameBy(m, n, func(player, i, j int) int { return same[i][j] }),
			gameBy(m, n, func(player, i, j int) int { return same[i][j] * (3 - 2*player) }),
			gameBy(m, n, func(player, i, j int) int { return max(-9, min(9, next(5)+6*max(0, 1-(i-j)*(i-j)))) }))
	}
	return samples
}

// allGames calls do with all games whose pays are among these; do must not keep them.
func allGames(m, n int, among []int, do func(impl.Game)) {
	count := 1
	for range 2 * m * n {
		count *= len(among)
	}
	for number := range count {
		do(gameBy(m, n, func(player, i, j int) int {
			pay := among[number%len(among)]
			number /= len(among)
			return pay
		}))
	}
}

// allSizes calls do with all numbers of rows and columns.
func allSizes(do func(m, n int)) {
	for m := 1; m <= impl.MaxChoices; m++ {
		for n := 1; n <= impl.MaxChoices; n++ {
			do(m, n)
		}
	}
}

func plainRows(m, n int) [][]int { return allPaysAlike(m, n, 1).Rows }

// badPays are beyond what a player gets, among them such that are within it for fewer bits.
var badPays = []int{10, -10, 11, 100, -100, 256, 1 << 32, -(1 << 32), 1<<32 + 1, math.MaxInt, math.MinInt}

// badPayRows are no rows of a game, most of them for their numbers.
func badPayRows() [][][]int {
	rows := [][][]int{
		nil, {}, {nil}, {{}}, {{}, {}}, {{}, {}, {}}, {nil, nil}, {{1}, nil}, {{}, {1}}, {{1, 2}, {}}, {{1}, {1, 2}}, {{1, 2}, {1}}, {{1, 2, 3}, {1, 2}, {1, 2, 3}},
		{{1, 2}, {1, 2}, {1, 2, 3}}, {{1, 2}, {1, 2}, {1}}, {{1, 2, 3, 4}}, {{1}, {2}, {3}, {4}}, plainRows(4, 4), plainRows(4, 3), plainRows(3, 4), plainRows(100, 1), plainRows(1, 100), make([][]int, 3), make([][]int, 100),
	}
	allSizes(func(m, n int) {
		for k, pay := range badPays {
			other := plainRows(m, n)
			other[k%m][k*5%n] = pay
			rows = append(rows, other)
			last := plainRows(m, n)
			last[m-1][n-1] = pay
			rows = append(rows, last)
		}
	})
	return rows
}

// badGames are no games for their rows, their columns, both, or for unlike sizes of them.
func badGames() []impl.Game {
	var games []impl.Game
	for k, rows := range badPayRows() {
		good := plainRows(1+k%3, 1+k/3%3)
		games = append(games, impl.Game{Rows: rows, Columns: rows}, impl.Game{Rows: rows, Columns: good}, impl.Game{Rows: good, Columns: rows})
		if len(rows) > 0 && len(rows) < 4 && len(rows[0]) > 0 && len(rows[0]) < 4 {
			like := plainRows(len(rows), len(rows[0]))
			games = append(games, impl.Game{Rows: rows, Columns: like}, impl.Game{Rows: like, Columns: rows})
		}
	}
	allSizes(func(m, n int) {
		allSizes(func(otherM, otherN int) {
			if m != otherM || n != otherN {
				games = append(games, impl.Game{Rows: plainRows(m, n), Columns: plainRows(otherM, otherN)})
			}
		})
	})
	return games
}

// goodChances are weights for so many choices, none of them greater than 1000 if this is the greatest one.
func goodChances(choices, greatest int) [][]int {
	switch choices {
	case 1:
		return [][]int{{1}}
	case 2:
		return [][]int{{1, 0}, {0, 1}, {1, 1}, {1, 2}, {greatest, 1}, {1, greatest}, {greatest, greatest - 1}, {3, 5}, {7, 4}}
	}
	return [][]int{
		{1, 0, 0}, {0, 1, 0}, {0, 0, 1}, {1, 1, 1}, {1, 1, 0}, {0, 1, 1}, {1, 0, 1}, {6, 10, 15}, {2, 2, 1}, {0, 3, 2}, {4, 0, 1},
		{greatest, greatest, greatest - 1}, {1, greatest, greatest}, {greatest, 0, 1}, {0, 1, greatest}, {5, 1, 3},
	}
}

// badChances are no weights for so many choices, whatever the greatest one may be.
func badChances(choices int) [][]int {
	var lists [][]int
	for length := range 5 {
		if length != choices {
			for k := range length {
				lists = append(lists, only(length, k))
			}
			lists = append(lists, make([]int, length), slices.Repeat([]int{1}, length))
		}
	}
	lists = append(lists, nil, []int{}, make([]int, 100), make([]int, choices))
	for _, number := range []int{-1, -2, -1000000, 1000001, 1 << 32, 1<<32 + 1, math.MaxInt, math.MinInt, math.MinInt + 1} {
		for k := range choices {
			beside := slices.Repeat([]int{1}, choices)
			beside[k] = number
			alone := make([]int, choices)
			alone[k] = number
			lists = append(lists, beside, alone)
		}
	}
	for _, divisor := range []int{2, 3, 5, 1000, 500000, 1000000} {
		for k := range choices {
			alone := only(choices, k)
			alone[k] = divisor
			lists = append(lists, alone)
		}
		lists = append(lists, slices.Repeat([]int{divisor}, choices))
	}
	switch choices {
	case 2:
		lists = append(lists, []int{4, 6}, []int{15, 5}, []int{999999, 3}, []int{-1, -1}, []int{-1, 2}, []int{333331, 999993})
	case 3:
		lists = append(lists, []int{4, 6, 8}, []int{0, 9, 6}, []int{15, 0, 5}, []int{999999, 3, 0}, []int{-1, -1, -1}, []int{-1, -1, 3}, []int{2, 2, -3})
	}
	return lists
}
