package tests

// What chapter 3 says, computed anew: places by their rows and columns, what hangs together by marking until nothing changes, walks by crossing out threes, games by what each move leads to.

import (
	"slices"
	"strconv"
	"strings"
)

type hexPlace struct{ r, c int }

func oracleHexNear(p, q hexPlace) bool {
	return slices.Contains([]hexPlace{{0, -1}, {0, 1}, {-1, 0}, {1, 0}, {-1, 1}, {1, -1}}, hexPlace{q.r - p.r, q.c - p.c})
}

func isGrid(rows, columns int) bool {
	return rows >= 1 && rows <= 30 && columns >= 1 && columns <= 30 && rows*columns <= 30
}

func isPlayerOf(player int) bool { return player == 1 || player == 2 }

func isBoardOf(rows, columns int, board []int) bool {
	return isGrid(rows, columns) && len(board) == rows*columns && slices.Min(board) >= 0 && slices.Max(board) <= 2
}

func countZeros(board []int) int {
	count := 0
	for _, owner := range board {
		if owner == 0 {
			count++
		}
	}
	return count
}

func isFullBoardOf(rows, columns int, board []int) bool {
	return isBoardOf(rows, columns, board) && countZeros(board) == 0
}

// hexPlaces are all places of a board in the order of their numbers.
func hexPlaces(rows, columns int) []hexPlace {
	var places []hexPlace
	for r := range rows {
		for c := range columns {
			places = append(places, hexPlace{r, c})
		}
	}
	return places
}

func oracleNearOnBoard(rows, columns, i int) []int {
	places := hexPlaces(rows, columns)
	var near []int
	for j := range places {
		if oracleHexNear(places[i], places[j]) {
			near = append(near, j)
		}
	}
	return near
}

// hexLine is how far a place is from the first row or column of a player, and how far the last one is.
func hexLine(rows, columns int, p hexPlace, player int) (line, last int) {
	if player == 1 {
		return p.r, rows - 1
	}
	return p.c, columns - 1
}

// oracleNeed is -1 if the player cannot win any more; what places need is lessened until nothing changes.
func oracleNeed(rows, columns int, board []int, player int) int {
	const never = 1000
	places := hexPlaces(rows, columns)
	needs := slices.Repeat([]int{never}, len(places))
	for changed := true; changed; {
		changed = false
		for i, p := range places {
			before := never
			if line, _ := hexLine(rows, columns, p, player); line == 0 {
				before = 0
			}
			for j, q := range places {
				if oracleHexNear(p, q) {
					before = min(before, needs[j])
				}
			}
			need := never
			switch board[i] {
			case player:
				need = before
			case 0:
				need = min(before+1, never)
			}
			if need < needs[i] {
				needs[i] = need
				changed = true
			}
		}
	}
	least := never
	for i, p := range places {
		if line, last := hexLine(rows, columns, p, player); line == last {
			least = min(least, needs[i])
		}
	}
	if least == never {
		return -1
	}
	return least
}

func oracleHasWon(rows, columns int, board []int, player int) bool {
	return oracleNeed(rows, columns, board, player) == 0
}

func oracleWinner(rows, columns int, board []int) int {
	for _, player := range []int{1, 2} {
		if oracleHasWon(rows, columns, board, player) {
			return player
		}
	}
	return 0
}

// rimOwners are the players of a full board's places and of its rim, as the document tells them.
func rimOwners(rows, columns int, board []int) map[hexPlace]int {
	owners := map[hexPlace]int{}
	for r := -1; r <= rows; r++ {
		for c := -1; c <= columns; c++ {
			owners[hexPlace{r, c}] = 2
		}
	}
	for c := -1; c <= columns; c++ {
		if c != columns {
			owners[hexPlace{-1, c}] = 1
		}
		if c != -1 {
			owners[hexPlace{rows, c}] = 1
		}
	}
	for i, p := range hexPlaces(rows, columns) {
		owners[p] = board[i]
	}
	return owners
}

// threesOf are all threes of places that are neighbours of each other, one of which is the place.
func threesOf(owners map[hexPlace]int, p hexPlace) [][3]hexPlace {
	var near []hexPlace
	for q := range owners {
		if oracleHexNear(p, q) {
			near = append(near, q)
		}
	}
	var threes [][3]hexPlace
	for k, q := range near {
		for _, s := range near[k+1:] {
			if oracleHexNear(q, s) {
				threes = append(threes, [3]hexPlace{p, q, s})
			}
		}
	}
	return threes
}

// oracleHexWalk crosses out each three that it has gone through, told by the sum of its places, which no two threes share.
func oracleHexWalk(rows, columns int, board []int) [][]int {
	owners := rimOwners(rows, columns, board)
	door := map[int]hexPlace{1: {-1, -1}, 2: {0, -1}}
	crossed := map[hexPlace]bool{}
	number := func(p hexPlace) int { return (columns+2)*(p.r+1) + p.c + 1 }
	var doors [][]int
	for {
		doors = append(doors, []int{number(door[1]), number(door[2])})
		var next *hexPlace
		for _, three := range threesOf(owners, door[1]) {
			sum := hexPlace{three[0].r + three[1].r + three[2].r, three[0].c + three[1].c + three[2].c}
			if crossed[sum] || !slices.Contains(three[:], door[2]) {
				continue
			}
			crossed[sum] = true
			for _, p := range three {
				if p != door[1] && p != door[2] {
					next = &p
				}
			}
			break
		}
		if next == nil {
			return doors
		}
		door[owners[*next]] = *next
	}
}

func oracleTurnBoard(rows, columns int, board []int) []int {
	var turned []int
	for c := range columns {
		for r := range rows {
			turned = append(turned, []int{0, 2, 1}[board[r*columns+c]])
		}
	}
	return turned
}

func oracleBoardText(rows, columns int, board []int) string {
	text := ""
	for i, owner := range board {
		if i > 0 && i%columns == 0 {
			text += "/"
		}
		text += strconv.Itoa(owner)
	}
	return text
}

func isBoardText(text string) bool {
	lines := strings.Split(text, "/")
	for _, line := range lines {
		if len(line) != len(lines[0]) || strings.Trim(line, "012") != "" {
			return false
		}
	}
	return isGrid(len(lines), len(lines[0]))
}

// movesFound are kept from call to call, as playing all games takes long.
var movesFound = map[string]int{}

// oracleWinningMove is -1 if the player has none, or if one has won.
func oracleWinningMove(rows, columns int, board []int, player int) int {
	key := strconv.Itoa(player) + ":" + oracleBoardText(rows, columns, board)
	if move, found := movesFound[key]; found {
		return move
	}
	found := -1
	if oracleWinner(rows, columns, board) == 0 {
		for i, owner := range board {
			if owner != 0 {
				continue
			}
			moved := slices.Clone(board)
			moved[i] = player
			if !oracleWinsMoving(rows, columns, moved, 3-player) {
				found = i
				break
			}
		}
	}
	movesFound[key] = found
	return found
}

func oracleWinsMoving(rows, columns int, board []int, player int) bool {
	if winner := oracleWinner(rows, columns, board); winner != 0 {
		return winner == player
	}
	return oracleWinningMove(rows, columns, board, player) >= 0
}

// allGrids are all rows and columns that a board may have.
func allGrids() [][2]int {
	var grids [][2]int
	for rows := 1; rows <= 30; rows++ {
		for columns := 1; rows*columns <= 30; columns++ {
			grids = append(grids, [2]int{rows, columns})
		}
	}
	return grids
}

// allBoards calls do with each board with at least the number least on each place; do must not keep the list.
func allBoards(size, least int, do func([]int)) {
	board := slices.Repeat([]int{least}, size)
	for {
		do(board)
		i := size - 1
		for i >= 0 && board[i] == 2 {
			board[i] = least
			i--
		}
		if i < 0 {
			return
		}
		board[i]++
	}
}

// sampleBoards are boards of the rows and columns, the same ones in each run: of one player, striped, and by chance with all, some, a few and no places that are nobody's.
func sampleBoards(rows, columns int) [][]int {
	size := rows * columns
	var samples [][]int
	for owner := range 3 {
		samples = append(samples, slices.Repeat([]int{owner}, size))
	}
	state := uint32(rows*100 + columns)
	next := func(below int) int {
		state = state*1664525 + 1013904223
		return int(state>>16) % below
	}
	for stripe := range 4 {
		striped := make([]int, size)
		for i, p := range hexPlaces(rows, columns) {
			striped[i] = 1 + []int{p.r, p.c, p.r + p.c, p.r/2 + p.c/2}[stripe]%2
		}
		samples = append(samples, striped)
	}
	for range 6 {
		full, mixed := make([]int, size), make([]int, size)
		for i := range size {
			full[i] = 1 + next(2)
			mixed[i] = next(3)
		}
		few := slices.Clone(full)
		for range min(size, 9) {
			few[next(size)] = 0
		}
		samples = append(samples, full, mixed, few)
	}
	return samples
}

// withZeros is the board without what is on its first places that are somebody's, so that so many are nobody's, if it has as many.
func withZeros(board []int, count int) []int {
	emptied := slices.Clone(board)
	for i := range emptied {
		if countZeros(emptied) < count {
			emptied[i] = 0
		}
	}
	return emptied
}
