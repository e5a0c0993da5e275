package tests

// What chapter 1 says, computed anew by trying everything, so that the tests do not repeat the program's shortcuts.

import (
	"slices"
	"strconv"
	"strings"
)

// Points and cells are kept from call to call, as finding them takes long; nobody may change them.
var (
	pointsFound = map[int][][]int{}
	cellsFound  = map[int][][]int{}
)

func oraclePoints(n int) [][]int {
	if points, found := pointsFound[n]; found {
		return points
	}
	var points [][]int
	for a := n; a >= 0; a-- {
		for b := n; b >= 0; b-- {
			for c := n; c >= 0; c-- {
				if a+b+c == n {
					points = append(points, []int{a, b, c})
				}
			}
		}
	}
	pointsFound[n] = points
	return points
}

func oracleIndex(n int, point ...int) int {
	return slices.IndexFunc(oraclePoints(n), func(p []int) bool { return slices.Equal(p, point) })
}

func oracleNear(p, q []int) bool {
	steps := []int{q[0] - p[0], q[1] - p[1], q[2] - p[2]}
	slices.Sort(steps)
	return slices.Equal(steps, []int{-1, 0, 1})
}

func oracleNeighbours(n, i int) []int {
	points := oraclePoints(n)
	var near []int
	for j := range points {
		if oracleNear(points[i], points[j]) {
			near = append(near, j)
		}
	}
	return near
}

func oracleCells(n int) [][]int {
	if cells, found := cellsFound[n]; found {
		return cells
	}
	points := oraclePoints(n)
	var cells [][]int
	for i := range points {
		for j := i + 1; j < len(points); j++ {
			for k := j + 1; k < len(points); k++ {
				if oracleNear(points[i], points[j]) && oracleNear(points[i], points[k]) && oracleNear(points[j], points[k]) {
					cells = append(cells, []int{i, j, k})
				}
			}
		}
	}
	cellsFound[n] = cells
	return cells
}

func oracleIsUp(n, cell int) bool {
	points := oraclePoints(n)
	for _, order := range [][]int{{0, 1, 2}, {0, 2, 1}, {1, 0, 2}, {1, 2, 0}, {2, 0, 1}, {2, 1, 0}} {
		var lessened [][]int
		for k, i := range oracleCells(n)[cell] {
			p := slices.Clone(points[i])
			p[order[k]]--
			lessened = append(lessened, p)
		}
		if slices.Min(lessened[0]) >= 0 && slices.Equal(lessened[0], lessened[1]) && slices.Equal(lessened[0], lessened[2]) {
			return true
		}
	}
	return false
}

func oracleBorder(n int) []int {
	var border []int
	for b := 0; b < n; b++ {
		border = append(border, oracleIndex(n, n-b, b, 0))
	}
	for c := 0; c < n; c++ {
		border = append(border, oracleIndex(n, 0, n-c, c))
	}
	for a := 0; a < n; a++ {
		border = append(border, oracleIndex(n, a, 0, n-a))
	}
	return border
}

func oracleSides(n, i int) []int {
	var sides []int
	for k, number := range oraclePoints(n)[i] {
		if number == 0 {
			sides = append(sides, k)
		}
	}
	return sides
}

// oracleBroken is -1 if the labels keep sides.
func oracleBroken(n int, labels []int) int {
	for i, label := range labels {
		if slices.Contains(oracleSides(n, i), label) {
			return i
		}
	}
	return -1
}

func oracleTurn(n int, labels []int) []int {
	turned := make([]int, len(labels))
	for i, p := range oraclePoints(n) {
		turned[i] = []int{1, 2, 0}[labels[oracleIndex(n, p[1], p[2], p[0])]]
	}
	return turned
}

func oracleMirror(n int, labels []int) []int {
	mirrored := make([]int, len(labels))
	for i, p := range oraclePoints(n) {
		mirrored[i] = []int{1, 0, 2}[labels[oracleIndex(n, p[1], p[0], p[2])]]
	}
	return mirrored
}

func oracleText(n int, labels []int) string {
	var rows []string
	for a := n; a >= 0; a-- {
		row := ""
		for i, p := range oraclePoints(n) {
			if p[0] == a {
				row += strconv.Itoa(labels[i])
			}
		}
		rows = append(rows, row)
	}
	return strconv.Itoa(n) + ":" + strings.Join(rows, "/")
}

// sampleLabels are labels of the side n that keep sides and such that do not, the same ones in each run.
func sampleLabels(n int) [][]int {
	size := len(oraclePoints(n))
	var samples [][]int
	for label := range 3 {
		samples = append(samples, slices.Repeat([]int{label}, size))
	}
	state := uint32(n)
	for range 12 {
		free, keeping := make([]int, size), make([]int, size)
		for i := range size {
			state = state*1664525 + 1013904223
			free[i] = int(state>>16) % 3
			keeping[i] = free[i]
			for slices.Contains(oracleSides(n, i), keeping[i]) {
				keeping[i] = (keeping[i] + 1) % 3
			}
		}
		samples = append(samples, free, keeping)
		for _, i := range []int{0, size / 2, size - 1} {
			if sides := oracleSides(n, i); len(sides) > 0 {
				broken := slices.Clone(keeping)
				broken[i] = sides[len(sides)-1]
				samples = append(samples, broken)
			}
		}
	}
	return samples
}

// allLabels calls do with each list of labels for the side n; do must not keep the list.
func allLabels(n int, do func([]int)) {
	labels := make([]int, len(oraclePoints(n)))
	for {
		do(labels)
		i := len(labels) - 1
		for i >= 0 && labels[i] == 2 {
			labels[i] = 0
			i--
		}
		if i < 0 {
			return
		}
		labels[i]++
	}
}
