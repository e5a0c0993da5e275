package tests

// Promise 3: just one player wins on a full board, and a walk tells who.

import (
	"math"
	"slices"
	"strings"
	"testing"

	"loop.example/g01160/impl"
)

// badGrids have rows and columns of 0, below 0, or with too many places together; the products of the great ones overflow.
var badGrids = [][2]int{
	{0, 0}, {0, 1}, {1, 0}, {0, 30}, {30, 0}, {-1, -1}, {-1, 1}, {1, -1}, {-2, -2}, {-5, 6}, {-3, -10},
	{1, 31}, {31, 1}, {2, 16}, {16, 2}, {3, 11}, {11, 3}, {4, 8}, {8, 4}, {5, 7}, {7, 5}, {6, 6}, {30, 30}, {31, 31},
	{0, math.MaxInt}, {math.MaxInt, 0}, {1, math.MaxInt}, {math.MaxInt, 1}, {math.MaxInt, math.MaxInt},
	{1, math.MinInt}, {math.MinInt, 1}, {math.MinInt, math.MinInt}, {math.MinInt, -1}, {-1, math.MinInt},
	{1 << 32, 1 << 32}, {1 << 62, 4}, {4, 1 << 62}, {1<<62 + 1, 4}, {1 << 63 / 3, 3}, {3, 1<<63/3 + 1},
}

var badPlayers = []int{0, -1, -2, 3, 4, 257, math.MaxInt, math.MinInt}

func isOnBoard(t *testing.T, rows, columns int, board []int, expected bool) {
	t.Helper()
	is, ok := impl.IsBoard(rows, columns, board)
	want(t, "IsBoard", is, ok, expected)
}

func wantNeed(t *testing.T, text string, player, expected int) {
	t.Helper()
	rows, columns, board := readBoard(t, text)
	need, ok := impl.NeedOf(rows, columns, board, player)
	what := "NeedOf of " + text
	if expected < 0 {
		wantFailure(t, what, ok, need)
	} else {
		want(t, what, need, ok, expected)
	}
	won, ok := impl.HasWon(rows, columns, board, player)
	want(t, "HasWon of "+text, won, ok, expected == 0)
}

// readBoard takes texts that are written out by hand, so that it may split them simply.
func readBoard(t *testing.T, text string) (rows, columns int, board []int) {
	t.Helper()
	lines := strings.Split(text, "/")
	for _, digit := range strings.Join(lines, "") {
		board = append(board, int(digit-'0'))
	}
	return len(lines), len(lines[0]), board
}

func wantWinner(t *testing.T, rows, columns int, board []int, expected int) {
	t.Helper()
	winner, ok := impl.WinnerOf(rows, columns, board)
	want(t, "WinnerOf", winner, ok, expected)
	winner, ok = impl.WinnerByWalk(rows, columns, board)
	want(t, "WinnerByWalk", winner, ok, expected)
}

// wantMove expects no move if it is -1.
func wantMove(t *testing.T, rows, columns int, board []int, player, expected int) {
	t.Helper()
	move, ok := impl.FirstWinningMove(rows, columns, board, player)
	if expected < 0 {
		wantFailure(t, "FirstWinningMove", ok, move)
	} else {
		want(t, "FirstWinningMove", move, ok, expected)
	}
}

func wantWinsMoving(t *testing.T, rows, columns int, board []int, player int, expected bool) {
	t.Helper()
	wins, ok := impl.WinsMoving(rows, columns, board, player)
	want(t, "WinsMoving", wins, ok, expected)
}

func TestLimitsOfChapter3(t *testing.T) {
	if impl.MaxCells != 30 || impl.MaxPlayed != 9 {
		t.Error("limits", impl.MaxCells, impl.MaxPlayed)
	}
}

func TestExampleOfChapter3(t *testing.T) {
	wantWinner(t, 2, 2, []int{1, 2, 2, 1}, 2)
	near, ok := impl.HexNear(2, 2, 1)
	want(t, "HexNear", near, ok, []int{0, 2, 3})
	wantWinner(t, 2, 2, []int{1, 2, 1, 1}, 1)
	empty := []int{0, 0, 0, 0}
	for _, player := range []int{1, 2} {
		wantWinsMoving(t, 2, 2, empty, player, true)
		wantMove(t, 2, 2, empty, player, 1)
	}
	wantWinsMoving(t, 2, 2, []int{1, 0, 0, 0}, 2, true)
	wantWinsMoving(t, 2, 2, []int{0, 1, 0, 0}, 2, false)
}

func TestIsBoard(t *testing.T) {
	for _, g := range allGrids() {
		rows, columns := g[0], g[1]
		for _, board := range sampleBoards(rows, columns) {
			isOnBoard(t, rows, columns, board, true)
		}
		for _, list := range badBoards(rows, columns) {
			isOnBoard(t, rows, columns, list, false)
		}
	}
	isOnBoard(t, 2, 3, []int{0, 1, 2, 2, 1, 0}, true)
	isOnBoard(t, 2, 3, []int{0, 1, 2, 3, 1, 0}, false)
	for _, g := range badGrids {
		for _, list := range [][]int{nil, {}, {0}, make([]int, 30), make([]int, 31), make([]int, 36)} {
			is, ok := impl.IsBoard(g[0], g[1], list)
			wantFailure(t, "IsBoard", ok, is)
		}
	}
}

// badBoards are lists that are no boards of the rows and columns.
func badBoards(rows, columns int) [][]int {
	size := rows * columns
	zeros := make([]int, size)
	lists := [][]int{nil, {}, zeros[:size-1], append(slices.Clone(zeros), 0), make([]int, 1000)}
	for _, number := range []int{3, 4, -1, -2, 256, 257, math.MaxInt, math.MinInt} {
		for _, i := range []int{0, size / 2, size - 1} {
			other := slices.Repeat([]int{1}, size)
			other[i] = number
			lists = append(lists, other)
		}
	}
	return lists
}

func TestHexNear(t *testing.T) {
	near, ok := impl.HexNear(3, 4, 5)
	want(t, "HexNear in the middle", near, ok, []int{1, 2, 4, 6, 8, 9})
	near, ok = impl.HexNear(3, 4, 0)
	want(t, "HexNear at the first place", near, ok, []int{1, 4})
	near, ok = impl.HexNear(3, 4, 3)
	want(t, "HexNear at the end of the first row", near, ok, []int{2, 6, 7})
	near, ok = impl.HexNear(3, 4, 8)
	want(t, "HexNear at the beginning of the last row", near, ok, []int{4, 5, 9})
	near, ok = impl.HexNear(3, 4, 11)
	want(t, "HexNear at the last place", near, ok, []int{7, 10})
	near, ok = impl.HexNear(1, 1, 0)
	want(t, "HexNear of one place", near, ok, []int{})
	near, ok = impl.HexNear(1, 30, 29)
	want(t, "HexNear in one row", near, ok, []int{28})
	near, ok = impl.HexNear(30, 1, 10)
	want(t, "HexNear in one column", near, ok, []int{9, 11})
	for _, g := range allGrids() {
		rows, columns := g[0], g[1]
		for i := range rows * columns {
			near, ok := impl.HexNear(rows, columns, i)
			want(t, "HexNear", near, ok, oracleNearOnBoard(rows, columns, i))
		}
		for _, i := range []int{-1, -2, -columns, rows * columns, rows*columns + 1, 30, 31, math.MaxInt, math.MinInt} {
			near, ok := impl.HexNear(rows, columns, i)
			wantFailure(t, "HexNear", ok, near)
		}
	}
}

func TestNeedsByHand(t *testing.T) {
	for _, example := range []struct {
		text     string
		one, two int // what both players need, -1 if they cannot win any more
	}{
		{"0", 1, 1}, {"1", 0, -1}, {"2", -1, 0},
		{"000", 1, 3}, {"0/0/0", 3, 1}, {"202", 1, 1}, {"212", 0, -1}, {"222", -1, 0}, {"020", 1, 2},
		{"1/0/1", 1, 1}, {"1/1/1", 0, -1}, {"1/2/1", -1, 0},
		{"000/000/000", 3, 3}, {"010/000/000", 2, 3}, {"010/200/000", 2, 2}, {"01/10", 0, -1}, {"10/01", 1, 2},
		{"02/20", -1, 0}, {"20/02", 2, 1}, {"001/010/100", 0, -1}, {"100/010/001", 2, 3},
		{"002/020/200", -1, 0}, {"111/222/000", -1, 0}, {"111/202/000", 2, 1}, {"110/222/011", -1, 0},
		{"121/121/121", 0, -1}, {"12/21", -1, 0}, {"12/11", 0, -1},
		// The way of the player 1 has to go up again.
		{"12222/12111/12121/11121/22221", 0, -1}, {"12222/12101/12121/11121/22221", 1, 1},
		// The cheap way goes over the places of the player, not straight ahead.
		{"10000/10000/10000/11111/00001/00001", 0, -1}, {"10000/11100/00100/00000", 1, 5},
	} {
		wantNeed(t, example.text, 1, example.one)
		wantNeed(t, example.text, 2, example.two)
	}
}

func checkNeeds(t *testing.T, rows, columns int, board []int) {
	t.Helper()
	for _, player := range []int{1, 2} {
		expected := oracleNeed(rows, columns, board, player)
		need, ok := impl.NeedOf(rows, columns, board, player)
		if expected < 0 {
			wantFailure(t, "NeedOf", ok, need)
		} else {
			want(t, "NeedOf", need, ok, expected)
		}
		won, ok := impl.HasWon(rows, columns, board, player)
		want(t, "HasWon", won, ok, expected == 0)
	}
}

func TestNeeds(t *testing.T) {
	for _, g := range [][2]int{{1, 1}, {1, 2}, {2, 1}, {1, 4}, {4, 1}, {2, 2}, {2, 3}, {3, 2}, {2, 4}, {4, 2}} {
		allBoards(g[0]*g[1], 0, func(board []int) { checkNeeds(t, g[0], g[1], board) })
	}
	for _, g := range allGrids() {
		for _, board := range sampleBoards(g[0], g[1]) {
			checkNeeds(t, g[0], g[1], board)
		}
	}
}

// A player wins by getting so many places and by no fewer.
func TestNeedsAreWhatFillsTheWay(t *testing.T) {
	for _, g := range [][2]int{{2, 3}, {3, 2}, {3, 3}} {
		size := g[0] * g[1]
		for _, board := range sampleBoards(g[0], g[1]) {
			for _, player := range []int{1, 2} {
				least := -1
				for chosen := range 1 << size {
					filled, count := slices.Clone(board), 0
					for i := range size {
						if chosen>>i&1 == 1 {
							filled[i] = player
							count++
						}
					}
					if gets := countZeros(board) - countZeros(filled); gets != count {
						continue
					}
					if won, ok := impl.HasWon(g[0], g[1], filled, player); ok && won && (least < 0 || count < least) {
						least = count
					}
				}
				if expected := oracleNeed(g[0], g[1], board, player); least != expected {
					t.Errorf("%d places win %v for the player %d, not %d", least, board, player, expected)
				}
			}
		}
	}
}

func TestWalksOfOnePlace(t *testing.T) {
	doors, ok := impl.HexWalk(1, 1, []int{1})
	want(t, "HexWalk", doors, ok, [][]int{{0, 3}, {1, 3}, {4, 3}, {4, 6}, {7, 6}})
	doors, ok = impl.HexWalk(1, 1, []int{2})
	want(t, "HexWalk", doors, ok, [][]int{{0, 3}, {1, 3}, {1, 4}, {1, 2}})
	wantWinner(t, 1, 1, []int{1}, 1)
	wantWinner(t, 1, 1, []int{2}, 2)
}

func TestWalksOfTheExample(t *testing.T) {
	doors, ok := impl.HexWalk(2, 2, []int{1, 2, 2, 1})
	want(t, "HexWalk", doors, ok, [][]int{{0, 4}, {1, 4}, {5, 4}, {5, 8}, {5, 9}, {5, 6}, {2, 6}, {2, 3}})
	doors, ok = impl.HexWalk(2, 2, []int{1, 2, 1, 1})
	want(t, "HexWalk", doors, ok, [][]int{{0, 4}, {1, 4}, {5, 4}, {5, 8}, {9, 8}, {9, 12}, {13, 12}})
}

func checkFullBoard(t *testing.T, rows, columns int, board []int) {
	t.Helper()
	doors, ok := impl.HexWalk(rows, columns, board)
	want(t, "HexWalk", doors, ok, oracleHexWalk(rows, columns, board))
	wantWinner(t, rows, columns, board, oracleWinner(rows, columns, board))
	one, _ := impl.HasWon(rows, columns, board, 1)
	two, ok := impl.HasWon(rows, columns, board, 2)
	want(t, "HasWon of the other player", two, ok, !one)
	back, _ := impl.HalfTurn(rows, columns, board)
	wantWinner(t, rows, columns, back, oracleWinner(rows, columns, board))
	turned, _ := impl.TurnBoard(rows, columns, board)
	wantWinner(t, columns, rows, turned, 3-oracleWinner(rows, columns, board))
}

func TestFullBoards(t *testing.T) {
	for _, g := range [][2]int{{1, 1}, {1, 2}, {2, 1}, {1, 5}, {5, 1}, {2, 2}, {2, 3}, {3, 2}, {2, 4}, {4, 2}, {3, 3}} {
		allBoards(g[0]*g[1], 1, func(board []int) { checkFullBoard(t, g[0], g[1], board) })
	}
	winners := map[int]int{}
	for _, g := range allGrids() {
		for _, board := range sampleBoards(g[0], g[1]) {
			if countZeros(board) == 0 {
				checkFullBoard(t, g[0], g[1], board)
				winners[oracleWinner(g[0], g[1], board)]++
			}
		}
	}
	if winners[0] != 0 || winners[1] == 0 || winners[2] == 0 {
		t.Error("winners of the sample boards", winners)
	}
}

func TestBoardsThatAreNotFull(t *testing.T) {
	for _, g := range allGrids() {
		rows, columns := g[0], g[1]
		for _, owner := range []int{1, 2} {
			for _, i := range []int{0, rows * columns / 2, rows*columns - 1} {
				board := slices.Repeat([]int{owner}, rows*columns)
				board[i] = 0
				wantNotFull(t, rows, columns, board)
			}
		}
		wantNotFull(t, rows, columns, make([]int, rows*columns))
	}
	// That a player has won does not make a board full.
	wantNotFull(t, 2, 2, []int{1, 0, 1, 2})
}

func wantNotFull(t *testing.T, rows, columns int, board []int) {
	t.Helper()
	winner, ok := impl.WinnerOf(rows, columns, board)
	wantFailure(t, "WinnerOf", ok, winner)
	doors, ok := impl.HexWalk(rows, columns, board)
	wantFailure(t, "HexWalk", ok, doors)
	winner, ok = impl.WinnerByWalk(rows, columns, board)
	wantFailure(t, "WinnerByWalk", ok, winner)
}

func TestTurnsOfBoards(t *testing.T) {
	turned, ok := impl.TurnBoard(2, 3, []int{0, 1, 2, 1, 1, 0})
	want(t, "TurnBoard", turned, ok, []int{0, 2, 2, 2, 1, 0})
	back, ok := impl.HalfTurn(2, 3, []int{0, 1, 2, 1, 1, 0})
	want(t, "HalfTurn", back, ok, []int{0, 1, 1, 2, 1, 0})
	for _, g := range allGrids() {
		rows, columns := g[0], g[1]
		for _, board := range sampleBoards(rows, columns) {
			turned, ok := impl.TurnBoard(rows, columns, board)
			want(t, "TurnBoard", turned, ok, oracleTurnBoard(rows, columns, board))
			again, ok := impl.TurnBoard(columns, rows, turned)
			want(t, "two turns", again, ok, board)
			for _, player := range []int{1, 2} {
				won, ok := impl.HasWon(columns, rows, turned, 3-player)
				want(t, "HasWon of the turned board", won, ok, oracleHasWon(rows, columns, board, player))
			}
			backwards := slices.Clone(board)
			slices.Reverse(backwards)
			back, ok := impl.HalfTurn(rows, columns, board)
			want(t, "HalfTurn", back, ok, backwards)
		}
	}
}

func checkMoves(t *testing.T, rows, columns int, board []int) {
	t.Helper()
	for _, player := range []int{1, 2} {
		wantWinsMoving(t, rows, columns, board, player, oracleWinsMoving(rows, columns, board, player))
		wantMove(t, rows, columns, board, player, oracleWinningMove(rows, columns, board, player))
	}
}

func TestMoves(t *testing.T) {
	for _, g := range [][2]int{{1, 1}, {1, 3}, {3, 1}, {2, 2}, {2, 3}, {3, 2}, {7, 1}, {1, 7}} {
		allBoards(g[0]*g[1], 0, func(board []int) { checkMoves(t, g[0], g[1], board) })
	}
	for _, g := range [][2]int{{1, 9}, {9, 1}, {3, 3}, {2, 4}, {4, 2}, {3, 4}, {4, 3}, {2, 5}, {5, 4}, {5, 6}, {30, 1}, {2, 15}} {
		for _, board := range sampleBoards(g[0], g[1]) {
			if countZeros(board) <= 9 {
				checkMoves(t, g[0], g[1], board)
			}
		}
	}
}

func TestMovesByHand(t *testing.T) {
	empty := make([]int, 9)
	for _, player := range []int{1, 2} {
		wantWinsMoving(t, 3, 3, empty, player, true)
		wantMove(t, 1, 1, []int{0}, player, 0)
		wantMove(t, 1, 1, []int{player}, player, -1)
		wantMove(t, 1, 1, []int{3 - player}, player, -1)
		wantWinsMoving(t, 1, 1, []int{0}, player, true)
		wantWinsMoving(t, 1, 1, []int{player}, player, true)
		wantWinsMoving(t, 1, 1, []int{3 - player}, player, false)
	}
	wantMove(t, 3, 3, empty, 1, 2)
	wantMove(t, 3, 3, empty, 2, 1)
	// In one row the player 1 needs one place, the player 2 all of them.
	wantMove(t, 1, 9, empty, 1, 0)
	wantMove(t, 1, 9, empty, 2, -1)
	wantWinsMoving(t, 1, 9, empty, 1, true)
	wantWinsMoving(t, 1, 9, empty, 2, false)
	wantMove(t, 9, 1, empty, 1, -1)
	wantMove(t, 9, 1, empty, 2, 0)
	wantMove(t, 1, 3, []int{2, 0, 2}, 2, 1)
	wantMove(t, 1, 3, []int{2, 0, 2}, 1, 1)
	wantMove(t, 1, 3, []int{2, 2, 0}, 2, 2)
	// Somebody has won, and there are still places that are nobody's.
	wantMove(t, 2, 2, []int{1, 0, 1, 0}, 1, -1)
	wantMove(t, 2, 2, []int{1, 0, 1, 0}, 2, -1)
	wantWinsMoving(t, 2, 2, []int{1, 0, 1, 0}, 1, true)
	wantWinsMoving(t, 2, 2, []int{1, 0, 1, 0}, 2, false)
	// Nobody has won, but a player cannot win any more.
	wantMove(t, 2, 2, []int{2, 1, 0, 0}, 1, 2)
	wantMove(t, 2, 2, []int{2, 1, 0, 0}, 2, -1)
}

// Where places that are nobody's are too many, it does not matter that somebody has won.
func TestLimitOfMoves(t *testing.T) {
	for _, g := range [][2]int{{2, 5}, {5, 2}, {1, 10}, {10, 1}, {3, 4}, {5, 6}, {1, 30}, {30, 1}} {
		rows, columns := g[0], g[1]
		for _, owner := range []int{1, 2} {
			full := slices.Repeat([]int{owner}, rows*columns)
			for _, player := range []int{1, 2} {
				nine := withZeros(full, 9)
				wantWinsMoving(t, rows, columns, nine, player, oracleWinsMoving(rows, columns, nine, player))
				wantMove(t, rows, columns, nine, player, oracleWinningMove(rows, columns, nine, player))
				for _, many := range [][]int{withZeros(full, 10), make([]int, rows*columns)} {
					wins, ok := impl.WinsMoving(rows, columns, many, player)
					wantFailure(t, "WinsMoving", ok, wins)
					move, ok := impl.FirstWinningMove(rows, columns, many, player)
					wantFailure(t, "FirstWinningMove", ok, move)
				}
			}
		}
	}
	ten := []int{1, 0, 0, 0, 0, 0, 1, 0, 0, 0, 0, 0}
	wins, ok := impl.WinsMoving(2, 6, ten, 1)
	wantFailure(t, "WinsMoving of a board that is won", ok, wins)
	nine := []int{1, 0, 0, 0, 0, 0, 1, 0, 0, 0, 0, 2}
	wantWinsMoving(t, 2, 6, nine, 1, true)
	wantWinsMoving(t, 2, 6, nine, 2, false)
}

func TestCountWins(t *testing.T) {
	for _, example := range []struct{ rows, columns, one, two int }{
		{1, 1, 1, 1}, {1, 2, 3, 1}, {2, 1, 1, 3}, {1, 9, 511, 1}, {9, 1, 1, 511}, {2, 2, 8, 8}, {3, 3, 256, 256},
	} {
		for player, expected := range []int{example.one, example.two} {
			count, ok := impl.CountWins(example.rows, example.columns, player+1)
			want(t, "CountWins", count, ok, expected)
		}
	}
	for _, g := range allGrids() {
		rows, columns := g[0], g[1]
		if rows*columns > 9 {
			for _, player := range []int{1, 2} {
				count, ok := impl.CountWins(rows, columns, player)
				wantFailure(t, "CountWins", ok, count)
			}
			continue
		}
		wins := map[int]int{}
		allBoards(rows*columns, 1, func(board []int) { wins[oracleWinner(rows, columns, board)]++ })
		for _, player := range []int{1, 2} {
			count, ok := impl.CountWins(rows, columns, player)
			want(t, "CountWins", count, ok, wins[player])
			other, _ := impl.CountWins(columns, rows, 3-player)
			want(t, "CountWins of turned boards", other, ok, wins[player])
		}
	}
}

func TestBoardTexts(t *testing.T) {
	for text, expected := range map[string][]int{
		"0": {0}, "2": {2}, "12/21": {1, 2, 2, 1}, "012/210": {0, 1, 2, 2, 1, 0}, "01/22/10": {0, 1, 2, 2, 1, 0},
		"012210": {0, 1, 2, 2, 1, 0}, "0/1/2/2/1/0": {0, 1, 2, 2, 1, 0},
	} {
		rows, columns, _ := readBoard(t, text)
		got, ok := impl.BoardText(rows, columns, expected)
		want(t, "BoardText", got, ok, text)
	}
	for _, g := range allGrids() {
		rows, columns := g[0], g[1]
		for _, board := range sampleBoards(rows, columns) {
			text, ok := impl.BoardText(rows, columns, board)
			want(t, "BoardText", text, ok, oracleBoardText(rows, columns, board))
			r, c, read, ok := impl.ParseBoard(oracleBoardText(rows, columns, board))
			want(t, "ParseBoard", read, ok, board)
			want(t, "rows and columns of ParseBoard", []int{r, c}, ok, []int{rows, columns})
		}
	}
}

func wantNoBoard(t *testing.T, text string) {
	t.Helper()
	rows, columns, board, ok := impl.ParseBoard(text)
	wantFailure(t, "ParseBoard of "+text[:min(len(text), 40)], ok, rows, columns, board)
}

func TestParseBoardFails(t *testing.T) {
	for _, text := range []string{
		"", "/", "//", "3", "9", "-", "-1", "+1", "a", " ", "\n", "\x00", "\xff", ".", ":", "１", "1/", "/1", "1//1", "/1/1", "1/1/",
		"12/2", "1/21", "12/2/1", "1/22/1", "12/21/", "/12/21", "12//21", "12/211", "121/21", "12/23", "12/2a", "12/2 ", " 12/21",
		"12/21\n", "12:21", "12,21", "12\\21", "2:12/21", "12/2\xb1", "12/2/", "1/2/21", "12/-1", "12/2１", "122/1", "1/2/", "12/2/11/2",
		strings.Repeat("1", 31), strings.Repeat("1/", 30) + "1", strings.Repeat("1111/", 7) + "1111", strings.Repeat("/", 29),
		strings.Repeat("/", 30), strings.Repeat("1/", 30), strings.Repeat("0", 100000), strings.Repeat("/", 100000), strings.Repeat("0/", 100000) + "0",
		"1" + strings.Repeat("/", 100000), strings.Repeat("111111/", 5), "111111" + strings.Repeat("/", 4), "1/" + strings.Repeat("1", 100000),
	} {
		wantNoBoard(t, text)
	}
}

func TestParseBoardFailsNearTexts(t *testing.T) {
	for _, g := range [][2]int{{2, 2}, {2, 3}, {3, 2}, {5, 6}, {4, 7}} {
		text := oracleBoardText(g[0], g[1], sampleBoards(g[0], g[1])[8])
		for i := range text {
			for _, other := range []string{"", "3", "/", ":", "00", "//", "9", "x", "0/", "/0"} {
				changed := text[:i] + other + text[i+1:]
				if !isBoardText(changed) {
					wantNoBoard(t, changed)
				}
			}
		}
	}
}

// wantNothing checks that all functions on boards fail.
func wantNothing(t *testing.T, rows, columns int, board []int) {
	t.Helper()
	wantNotFull(t, rows, columns, board)
	turned, ok := impl.TurnBoard(rows, columns, board)
	wantFailure(t, "TurnBoard", ok, turned)
	turned, ok = impl.HalfTurn(rows, columns, board)
	wantFailure(t, "HalfTurn", ok, turned)
	text, ok := impl.BoardText(rows, columns, board)
	wantFailure(t, "BoardText", ok, text)
	for _, player := range []int{1, 2} {
		wantNothingForPlayer(t, rows, columns, board, player)
	}
}

func wantNothingForPlayer(t *testing.T, rows, columns int, board []int, player int) {
	t.Helper()
	won, ok := impl.HasWon(rows, columns, board, player)
	wantFailure(t, "HasWon", ok, won)
	need, ok := impl.NeedOf(rows, columns, board, player)
	wantFailure(t, "NeedOf", ok, need)
	wins, ok := impl.WinsMoving(rows, columns, board, player)
	wantFailure(t, "WinsMoving", ok, wins)
	move, ok := impl.FirstWinningMove(rows, columns, board, player)
	wantFailure(t, "FirstWinningMove", ok, move)
}

func TestBadGridsFail(t *testing.T) {
	for _, g := range badGrids {
		rows, columns := g[0], g[1]
		lists := [][]int{nil, {}, {0}, {1}, make([]int, 30), make([]int, 31), make([]int, 36)}
		if size := rows * columns; size > 0 && size < 1000 {
			lists = append(lists, make([]int, size), slices.Repeat([]int{1}, size))
		}
		for _, list := range lists {
			wantNothing(t, rows, columns, list)
		}
		for _, i := range []int{0, 1, -1, rows, columns} {
			near, ok := impl.HexNear(rows, columns, i)
			wantFailure(t, "HexNear", ok, near)
		}
		for _, player := range []int{1, 2} {
			count, ok := impl.CountWins(rows, columns, player)
			wantFailure(t, "CountWins", ok, count)
		}
	}
}

func TestBadBoardsFail(t *testing.T) {
	for _, g := range allGrids() {
		for _, list := range badBoards(g[0], g[1]) {
			wantNothing(t, g[0], g[1], list)
		}
	}
}

func TestBadPlayersFail(t *testing.T) {
	for _, player := range badPlayers {
		for _, g := range [][2]int{{1, 1}, {1, 3}, {3, 1}, {2, 2}, {3, 3}} {
			for owner := range 3 {
				wantNothingForPlayer(t, g[0], g[1], slices.Repeat([]int{owner}, g[0]*g[1]), player)
			}
			count, ok := impl.CountWins(g[0], g[1], player)
			wantFailure(t, "CountWins", ok, count)
		}
	}
}
