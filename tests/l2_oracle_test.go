package tests

// What chapter 2 says, computed anew: walks by crossing out the cells that were passed, closed rooms by what hangs together.

import "slices"

func oracleOpens(labels []int, i, j int) bool {
	return labels[i] == 0 && labels[j] == 1 || labels[i] == 1 && labels[j] == 0
}

func oracleDoors(n int, labels []int) [][]int {
	points := oraclePoints(n)
	var doors [][]int
	for i := range points {
		for j := i + 1; j < len(points); j++ {
			if oracleNear(points[i], points[j]) && oracleOpens(labels, i, j) {
				doors = append(doors, []int{i, j})
			}
		}
	}
	return doors
}

func oracleBorderDoors(n int, labels []int) [][]int {
	border := oracleBorder(n)
	var doors [][]int
	for k := 1; k < len(border); k++ {
		if oracleOpens(labels, border[k-1], border[k]) {
			doors = append(doors, []int{border[k-1], border[k]})
		}
	}
	if last := border[len(border)-1]; oracleOpens(labels, last, border[0]) {
		doors = append(doors, []int{last, border[0]})
	}
	return doors
}

// oracleBorderDoor is the door of the border with two points as told there; nil if they are none.
func oracleBorderDoor(n int, labels []int, i, j int) []int {
	for _, door := range oracleBorderDoors(n, labels) {
		if slices.Equal(door, []int{i, j}) || slices.Equal(door, []int{j, i}) {
			return door
		}
	}
	return nil
}

func oracleDoorsOfCell(n int, labels []int, cell int) [][]int {
	points := oracleCells(n)[cell]
	var doors [][]int
	for k, i := range points {
		for _, j := range points[k+1:] {
			if oracleOpens(labels, i, j) {
				doors = append(doors, []int{i, j})
			}
		}
	}
	return doors
}

func oracleIsFull(n int, labels []int, cell int) bool {
	var has []int
	for _, i := range oracleCells(n)[cell] {
		has = append(has, labels[i])
	}
	slices.Sort(has)
	return slices.Equal(has, []int{0, 1, 2})
}

func oracleFullCells(n int, labels []int) []int {
	var full []int
	for cell := range n * n {
		if oracleIsFull(n, labels, cell) {
			full = append(full, cell)
		}
	}
	return full
}

// oracleNext is the cell with a door that is not crossed out; -1 if there is none.
func oracleNext(n int, door []int, crossed map[int]bool) int {
	for cell, points := range oracleCells(n) {
		if !crossed[cell] && slices.Contains(points, door[0]) && slices.Contains(points, door[1]) {
			return cell
		}
	}
	return -1
}

// oracleWalk begins in the cell from, or outside if that is -1; its exit is nil if it ends in a full cell.
func oracleWalk(n int, labels []int, from int, door []int) (passed, exit []int) {
	crossed := map[int]bool{from: true}
	for {
		cell := oracleNext(n, door, crossed)
		if cell < 0 {
			return passed, oracleBorderDoor(n, labels, door[0], door[1])
		}
		crossed[cell] = true
		passed = append(passed, cell)
		if oracleIsFull(n, labels, cell) {
			return passed, nil
		}
		for _, other := range oracleDoorsOfCell(n, labels, cell) {
			if !slices.Equal(other, []int{min(door[0], door[1]), max(door[0], door[1])}) {
				door = other
				break
			}
		}
	}
}

// oracleFound is -1 if no walk from the border ends in a full cell.
func oracleFound(n int, labels []int) int {
	for _, door := range oracleBorderDoors(n, labels) {
		if passed, exit := oracleWalk(n, labels, -1, door); exit == nil {
			return passed[len(passed)-1]
		}
	}
	return -1
}

// oraclePartner is -1 if the walk from a full cell leads outside.
func oraclePartner(n int, labels []int, full int) int {
	passed, exit := oracleWalk(n, labels, full, oracleDoorsOfCell(n, labels, full)[0])
	if exit != nil {
		return -1
	}
	return passed[len(passed)-1]
}

func oracleSign(n int, labels []int, full int) int {
	points := oracleCells(n)[full]
	even := false
	switch [3]int{labels[points[0]], labels[points[1]], labels[points[2]]} {
	case [3]int{0, 1, 2}, [3]int{1, 2, 0}, [3]int{2, 0, 1}:
		even = true
	}
	if even == oracleIsUp(n, full) {
		return 1
	}
	return -1
}

func oracleTurns(n int, labels []int) int {
	border := oracleBorder(n)
	turns := 0
	for k, i := range border {
		next := border[(k+1)%len(border)]
		if labels[i] == 0 && labels[next] == 1 {
			turns++
		}
		if labels[i] == 1 && labels[next] == 0 {
			turns--
		}
	}
	return turns
}

// oracleClosed spreads from the doors of the border and from full cells through all doors, until nothing more is come to.
func oracleClosed(n int, labels []int) int {
	open := map[[2]int]bool{}
	for _, door := range oracleBorderDoors(n, labels) {
		open[[2]int{min(door[0], door[1]), max(door[0], door[1])}] = true
	}
	for before := -1; before != len(open); {
		before = len(open)
		for cell := range n * n {
			doors := oracleDoorsOfCell(n, labels, cell)
			come := len(doors) == 1
			for _, door := range doors {
				come = come || open[[2]int(door)]
			}
			for _, door := range doors {
				if come {
					open[[2]int(door)] = true
				}
			}
		}
	}
	closed := 0
	for cell := range n * n {
		if doors := oracleDoorsOfCell(n, labels, cell); len(doors) == 2 && !open[[2]int(doors[0])] {
			closed++
		}
	}
	return closed
}

// doorLabels have many doors: rings, stripes, and 0 and 1 by turns and by chance, with few labels 2.
func doorLabels(n int) [][]int {
	var samples [][]int
	for _, labelOf := range []func(p []int) int{
		func(p []int) int { return slices.Min(p) % 2 },
		func(p []int) int { return 1 - slices.Min(p)%2 },
		func(p []int) int { return min(slices.Min(p), 2) },
		func(p []int) int { return p[0] % 2 },
		func(p []int) int { return p[1] % 2 },
		func(p []int) int { return p[2] / 2 % 2 },
		func(p []int) int { return (p[0] - p[1] + 9) % 3 },
		func(p []int) int { return (p[1] - p[0] + 9) % 3 },
	} {
		var labels []int
		for _, p := range oraclePoints(n) {
			labels = append(labels, labelOf(p))
		}
		samples = append(samples, labels)
	}
	state := uint32(n)
	for k := range 16 {
		labels := make([]int, len(oraclePoints(n)))
		for i := range labels {
			state = state*1664525 + 1013904223
			labels[i] = int(state>>16) % 2
			if k%2 == 1 && state>>28 == 0 {
				labels[i] = 2
			}
		}
		samples = append(samples, labels)
	}
	return samples
}
