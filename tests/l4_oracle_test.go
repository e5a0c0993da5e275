package tests

// What chapter 4 says, computed anew: points by looking for them, cells by trying all threes, walks by crossing out the cells that were passed, turns by a table of all steps.

import "slices"

type squarePoint struct{ x, y int }

// The figures are kept from call to call, as finding them takes long; nobody may change them.
var (
	squaresFound     = map[int][]squarePoint{}
	squareCellsFound = map[int][][]int{}
)

func isReach(n int) bool { return n >= 1 && n <= 4 }

func isSquarePoint(n, i int) bool { return isReach(n) && i >= 0 && i < (2*n+1)*(2*n+1) }

func areSquareLabels(n int, list []int) bool {
	if !isReach(n) || len(list) != (2*n+1)*(2*n+1) {
		return false
	}
	return !slices.ContainsFunc(list, func(label int) bool { return !slices.Contains([]int{1, 2, -1, -2}, label) })
}

func oracleSquare(n int) []squarePoint {
	if points, found := squaresFound[n]; found {
		return points
	}
	var points []squarePoint
	for y := -n; y <= n; y++ {
		for x := -n; x <= n; x++ {
			points = append(points, squarePoint{x, y})
		}
	}
	squaresFound[n] = points
	return points
}

// oracleSquareIndex is -1 if there is no such point.
func oracleSquareIndex(n, x, y int) int {
	return slices.Index(oracleSquare(n), squarePoint{x, y})
}

func oracleSquareNear(p, q squarePoint) bool {
	return slices.Contains([]squarePoint{{1, 0}, {-1, 0}, {0, 1}, {0, -1}, {1, 1}, {-1, -1}}, squarePoint{q.x - p.x, q.y - p.y})
}

func oracleSquareCells(n int) [][]int {
	if cells, found := squareCellsFound[n]; found {
		return cells
	}
	points := oracleSquare(n)
	var cells [][]int
	for i, p := range points {
		for j := i + 1; j < len(points); j++ {
			for k := j + 1; k < len(points); k++ {
				if oracleSquareNear(p, points[j]) && oracleSquareNear(p, points[k]) && oracleSquareNear(points[j], points[k]) {
					cells = append(cells, []int{i, j, k})
				}
			}
		}
	}
	squareCellsFound[n] = cells
	return cells
}

func oracleSquareBorder(n int) []int {
	var border []int
	for x := -n; x <= n; x++ {
		border = append(border, oracleSquareIndex(n, x, -n))
	}
	for y := -n + 1; y <= n; y++ {
		border = append(border, oracleSquareIndex(n, n, y))
	}
	for x := n - 1; x >= -n; x-- {
		border = append(border, oracleSquareIndex(n, x, n))
	}
	for y := n - 1; y > -n; y-- {
		border = append(border, oracleSquareIndex(n, -n, y))
	}
	return border
}

func oracleAreOpposite(n int, list []int) bool {
	if !areSquareLabels(n, list) {
		return false
	}
	for i, p := range oracleSquare(n) {
		onBorder := p.x == n || p.x == -n || p.y == n || p.y == -n
		if onBorder && list[i] != -list[oracleSquareIndex(n, -p.x, -p.y)] {
			return false
		}
	}
	return true
}

func oracleOppositeEdges(n int, labels []int) [][]int {
	points := oracleSquare(n)
	var edges [][]int
	for i := range points {
		for j := i + 1; j < len(points); j++ {
			if oracleSquareNear(points[i], points[j]) && labels[i] == -labels[j] {
				edges = append(edges, []int{i, j})
			}
		}
	}
	return edges
}

// oracleSquareSteps are the pairs of points next to each other on the border, the last one from its last point to its first one.
func oracleSquareSteps(n int) [][]int {
	border := oracleSquareBorder(n)
	var steps [][]int
	for k := 1; k < len(border); k++ {
		steps = append(steps, []int{border[k-1], border[k]})
	}
	return append(steps, []int{border[len(border)-1], border[0]})
}

// oracleBorderEdges are the opposite edges of the border, in its order.
func oracleBorderEdges(n int, labels []int) [][]int {
	var edges [][]int
	for _, step := range oracleSquareSteps(n) {
		if labels[step[0]] == -labels[step[1]] {
			edges = append(edges, step)
		}
	}
	return edges
}

func hasOneAndTwo(labels []int, i, j int) bool {
	return labels[i] == 1 && labels[j] == 2 || labels[i] == 2 && labels[j] == 1
}

func oracleSquareDoors(n int, labels []int) [][]int {
	var doors [][]int
	for _, step := range oracleSquareSteps(n) {
		if hasOneAndTwo(labels, step[0], step[1]) {
			doors = append(doors, step)
		}
	}
	return doors
}

func isSquareDoor(n int, labels []int, i, j int) bool {
	for _, door := range oracleSquareDoors(n, labels) {
		if door[0] == i && door[1] == j || door[0] == j && door[1] == i {
			return true
		}
	}
	return false
}

// oracleNextInSquare is the cell with both points that is not crossed out; -1 if there is none.
func oracleNextInSquare(n, i, j int, crossed map[int]bool) int {
	for cell, points := range oracleSquareCells(n) {
		if !crossed[cell] && slices.Contains(points, i) && slices.Contains(points, j) {
			return cell
		}
	}
	return -1
}

// oracleSquareWalk has no edge if the walk leads outside.
func oracleSquareWalk(n int, labels []int, i, j int) (passed, edge []int) {
	crossed := map[int]bool{}
	for {
		cell := oracleNextInSquare(n, i, j, crossed)
		if cell < 0 {
			return passed, nil
		}
		crossed[cell] = true
		passed = append(passed, cell)
		points := oracleSquareCells(n)[cell]
		third := points[0] + points[1] + points[2] - i - j
		switch labels[third] {
		case labels[i]:
			i = third
		case labels[j]:
			j = third
		default:
			return passed, oracleEdgeOf(labels, points)
		}
	}
}

func oracleEdgeOf(labels, points []int) []int {
	for k, i := range points {
		for _, j := range points[k+1:] {
			if labels[i] == -labels[j] {
				return []int{i, j}
			}
		}
	}
	return nil
}

// oracleFindOpposite is nil for labels that are not opposite.
func oracleFindOpposite(n int, labels []int) []int {
	if !oracleAreOpposite(n, labels) {
		return nil
	}
	for _, edge := range oracleBorderEdges(n, labels) {
		return []int{min(edge[0], edge[1]), max(edge[0], edge[1])}
	}
	for _, door := range oracleSquareDoors(n, labels) {
		if _, edge := oracleSquareWalk(n, labels, door[0], door[1]); edge != nil {
			return edge
		}
	}
	return nil
}

// oracleSquareTurns is for labels without an opposite edge on the border.
func oracleSquareTurns(n int, labels []int) int {
	steps := map[[2]int]int{
		{1, 2}: 1, {2, -1}: 1, {-1, -2}: 1, {-2, 1}: 1,
		{2, 1}: -1, {-1, 2}: -1, {-2, -1}: -1, {1, -2}: -1,
	}
	total := 0
	for _, step := range oracleSquareSteps(n) {
		total += steps[[2]int{labels[step[0]], labels[step[1]]}]
	}
	return total / 4
}

func oracleAddTurn(labels []int) []int {
	turned := make([]int, len(labels))
	for i, label := range labels {
		turned[i] = map[int]int{1: 2, 2: -1, -1: -2, -2: 1}[label]
	}
	return turned
}

func oracleNegate(labels []int) []int {
	negated := make([]int, len(labels))
	for i, label := range labels {
		negated[i] = map[int]int{1: -1, 2: -2, -1: 1, -2: 2}[label]
	}
	return negated
}

// chance gives the same numbers in each run.
func chance(seed int) func(below int) int {
	state := uint32(seed)
	return func(below int) int {
		state = state*1664525 + 1013904223
		return int(state>>16) % below
	}
}

func chanceSquare(n int, next func(int) int, from ...int) []int {
	labels := make([]int, len(oracleSquare(n)))
	for i := range labels {
		labels[i] = from[next(len(from))]
	}
	return labels
}

// withBorder gives the border the labels of half a round, and their opposites across it.
func withBorder(n int, labels, half []int) []int {
	labels = slices.Clone(labels)
	border := oracleSquareBorder(n)
	for k, label := range half {
		labels[border[k]] = label
		labels[border[k+len(half)]] = -label
	}
	return labels
}

// smoothHalf are labels for half a round without an opposite edge, which come to the opposite of the first one at its end: they make so many turns, an odd number.
func smoothHalf(n, turns int, next func(int) int) []int {
	length := 4 * n
	round := []int{1, 2, -1, -2}
	at, left := next(4), 2*turns
	var half []int
	for k := range length {
		half = append(half, round[(at+4*length)%4])
		room := length - k - 1
		step := next(3) - 1
		step = max(step, left-room)
		step = min(step, left+room)
		at += step
		left -= step
	}
	return half
}

// oppositeSamples are opposite labels, the same ones in each run: with and without opposite edges on the border, whose turns are many or few, and with insides of all kinds.
func oppositeSamples(n int) [][]int {
	next := chance(n)
	var samples [][]int
	for k := range 24 {
		var inside []int
		switch k % 4 {
		case 0:
			inside = chanceSquare(n, next, 1, 2, -1, -2)
		case 1:
			inside = chanceSquare(n, next, 1, 2)
		case 2:
			inside = chanceSquare(n, next, 1, 2, 1, 2, 1, 2, -1)
		case 3:
			inside = slices.Repeat([]int{[]int{1, 2, -1, -2}[next(4)]}, len(oracleSquare(n)))
		}
		samples = append(samples, withBorder(n, inside, chanceSquare(n, next, 1, 2, -1, -2)[:4*n]))
		for turns := -2*n + 1; turns < 2*n; turns += 2 {
			samples = append(samples, withBorder(n, inside, smoothHalf(n, turns, next)))
		}
	}
	return samples
}

// otherSquareSamples are labels most of which are not opposite: by chance, without opposite edges, with doors alone, of one label, and opposite but for one point of the border.
func otherSquareSamples(n int) [][]int {
	next := chance(n + 50)
	var samples [][]int
	for _, from := range [][]int{{1}, {2}, {-1}, {-2}, {1, 2}, {2, -1}, {-1, -2}, {-2, 1}, {1, -1}, {1, 2, -1}, {1, 2, -2}, {1, 1, 1, 2, -2}, {1, 2, -1, -2}, {1, 2, 1, 2, 1, 2, -2}} {
		for range 6 {
			samples = append(samples, chanceSquare(n, next, from...))
		}
	}
	for _, labelOf := range []func(p squarePoint) int{
		func(p squarePoint) int { return 1 + (p.x+n)%2 },
		func(p squarePoint) int { return 1 + (p.y+n)%2 },
		func(p squarePoint) int { return 1 + (p.x+p.y+2*n)%2 },
		func(p squarePoint) int { return 1 + max(p.x, p.y, -p.x, -p.y)%2 },
		func(p squarePoint) int { return []int{1, 2, -1, -2}[(p.x+n)%4] },
		func(p squarePoint) int { return []int{1, 2, -1, -2}[(p.x-p.y+2*n)%4] },
	} {
		var labels []int
		for _, p := range oracleSquare(n) {
			labels = append(labels, labelOf(p))
		}
		samples = append(samples, labels)
	}
	for k, labels := range oppositeSamples(n)[:16] {
		border := oracleSquareBorder(n)
		labels[border[k*len(border)/16]] = oracleAddTurn(labels)[border[k*len(border)/16]]
		samples = append(samples, labels)
	}
	return samples
}
