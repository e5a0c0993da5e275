package tests

// Promise 2: walks through doors end in full rooms, whose signs add up to the border's turns.

import (
	"math"
	"slices"
	"testing"

	"loop.example/g01160/impl"
)

func wantFull(t *testing.T, n int, labels []int, expected ...int) {
	t.Helper()
	full, ok := impl.FullCells(n, labels)
	want(t, "FullCells", full, ok, expected)
}

func wantWalk(t *testing.T, n int, labels []int, i, j int, inFull bool, expected ...int) {
	t.Helper()
	passed, ends, ok := impl.WalkFrom(n, labels, i, j)
	want(t, "WalkFrom", passed, ok, expected)
	want(t, "the end of WalkFrom", ends, ok, inFull)
}

func wantBorderDoors(t *testing.T, n int, labels []int, expected ...[]int) {
	t.Helper()
	doors, ok := impl.BorderDoors(n, labels)
	want(t, "BorderDoors", doors, ok, expected)
}

func wantNumber(t *testing.T, what string, f func(int, []int) (int, bool), n int, labels []int, expected int) {
	t.Helper()
	number, ok := f(n, labels)
	want(t, what, number, ok, expected)
}

func wantNoNumber(t *testing.T, what string, f func(int, []int) (int, bool), n int, labels []int) {
	t.Helper()
	number, ok := f(n, labels)
	wantFailure(t, what, ok, number)
}

func wantOfCell(t *testing.T, what string, f func(int, []int, int) (int, bool), n int, labels []int, cell, expected int) {
	t.Helper()
	number, ok := f(n, labels, cell)
	want(t, what, number, ok, expected)
}

func wantNoneOfCell(t *testing.T, what string, f func(int, []int, int) (int, bool), n int, labels []int, cell int) {
	t.Helper()
	number, ok := f(n, labels, cell)
	wantFailure(t, what, ok, number)
}

func TestExampleOfChapter2(t *testing.T) {
	n, labels := 2, []int{0, 0, 2, 1, 1, 2}
	for cell := range 4 {
		full, ok := impl.IsFull(n, labels, cell)
		want(t, "IsFull", full, ok, cell == 1)
	}
	wantFull(t, n, labels, 1)
	wantOfCell(t, "SignOfFull", impl.SignOfFull, n, labels, 1, 1)
	wantBorderDoors(t, n, labels, []int{1, 3})
	doors, ok := impl.DoorsOf(n, labels)
	want(t, "DoorsOf", doors, ok, [][]int{{1, 3}, {1, 4}})
	doors, ok = impl.DoorsOfCell(n, labels, 1)
	want(t, "DoorsOfCell", doors, ok, [][]int{{1, 4}})
	doors, ok = impl.DoorsOfCell(n, labels, 2)
	want(t, "DoorsOfCell", doors, ok, [][]int{{1, 3}, {1, 4}})
	wantWalk(t, n, labels, 1, 3, true, 2, 1)
	wantWalk(t, n, labels, 3, 1, true, 2, 1)
	exit, ok := impl.ExitOf(n, labels, 1, 3)
	wantFailure(t, "ExitOf", ok, exit)
	wantNumber(t, "FindFull", impl.FindFull, n, labels, 1)
	wantNoneOfCell(t, "PartnerOfFull", impl.PartnerOfFull, n, labels, 1)
	wantNumber(t, "DegreeOf", impl.DegreeOf, n, labels, 1)
	wantNumber(t, "TurnsOfBorder", impl.TurnsOfBorder, n, labels, 1)
	wantNumber(t, "ClosedRooms", impl.ClosedRooms, n, labels, 0)
	for _, points := range [][]int{{1, 4}, {4, 1}, {1, 3}, {3, 1}} {
		door, ok := impl.IsDoor(n, labels, points[0], points[1])
		want(t, "IsDoor", door, ok, true)
	}
	for _, points := range [][]int{{0, 1}, {1, 2}, {2, 4}, {4, 3}, {5, 2}} {
		door, ok := impl.IsDoor(n, labels, points[0], points[1])
		want(t, "IsDoor", door, ok, false)
	}
}

// In the only cell of side 1 the walk has one cell, however it ends.
func TestWalksOfOneCell(t *testing.T) {
	full := []int{0, 1, 2}
	wantWalk(t, 1, full, 0, 1, true, 0)
	wantWalk(t, 1, full, 1, 0, true, 0)
	exit, ok := impl.ExitOf(1, full, 0, 1)
	wantFailure(t, "ExitOf", ok, exit)
	wantNoneOfCell(t, "PartnerOfFull", impl.PartnerOfFull, 1, full, 0)
	wantNumber(t, "FindFull", impl.FindFull, 1, full, 0)

	leaving := []int{0, 1, 0}
	wantBorderDoors(t, 1, leaving, []int{0, 1}, []int{1, 2})
	wantWalk(t, 1, leaving, 0, 1, false, 0)
	exit, ok = impl.ExitOf(1, leaving, 1, 0)
	want(t, "ExitOf", exit, ok, []int{1, 2})
	exit, ok = impl.ExitOf(1, leaving, 1, 2)
	want(t, "ExitOf", exit, ok, []int{0, 1})
	wantNoNumber(t, "FindFull", impl.FindFull, 1, leaving)
}

// The step from the last point of the border to its first one begins with the last one.
func TestDoorThatClosesTheBorder(t *testing.T) {
	labels := []int{0, 1, 1}
	wantBorderDoors(t, 1, labels, []int{0, 1}, []int{2, 0})
	wantNumber(t, "TurnsOfBorder", impl.TurnsOfBorder, 1, labels, 0)
	exit, ok := impl.ExitOf(1, labels, 0, 1)
	want(t, "ExitOf", exit, ok, []int{2, 0})
	exit, ok = impl.ExitOf(1, labels, 0, 2)
	want(t, "ExitOf", exit, ok, []int{0, 1})
	labels = []int{1, 2, 0}
	wantBorderDoors(t, 1, labels, []int{2, 0})
	wantNumber(t, "TurnsOfBorder", impl.TurnsOfBorder, 1, labels, 1)
	labels = []int{0, 2, 1}
	wantBorderDoors(t, 1, labels, []int{2, 0})
	wantNumber(t, "TurnsOfBorder", impl.TurnsOfBorder, 1, labels, -1)
}

func TestSignsOfTheOnlyCell(t *testing.T) {
	for _, labels := range [][]int{{0, 1, 2}, {1, 2, 0}, {2, 0, 1}} {
		wantOfCell(t, "SignOfFull", impl.SignOfFull, 1, labels, 0, 1)
		wantNumber(t, "DegreeOf", impl.DegreeOf, 1, labels, 1)
	}
	for _, labels := range [][]int{{0, 2, 1}, {2, 1, 0}, {1, 0, 2}} {
		wantOfCell(t, "SignOfFull", impl.SignOfFull, 1, labels, 0, -1)
		wantNumber(t, "DegreeOf", impl.DegreeOf, 1, labels, -1)
	}
}

// The cell 1 2 4 of side 2 is no up cell, so the signs are the other way round.
func TestSignsOfACellThatIsNotUp(t *testing.T) {
	for _, marks := range [][]int{{0, 1, 2}, {1, 2, 0}, {2, 0, 1}} {
		labels := []int{2, marks[0], marks[1], 2, marks[2], 2}
		wantOfCell(t, "SignOfFull", impl.SignOfFull, 2, labels, 1, -1)
	}
	for _, marks := range [][]int{{0, 2, 1}, {2, 1, 0}, {1, 0, 2}} {
		labels := []int{2, marks[0], marks[1], 2, marks[2], 2}
		wantOfCell(t, "SignOfFull", impl.SignOfFull, 2, labels, 1, 1)
	}
}

// Both full cells are partners, so that no walk from the border finds one.
func TestPartners(t *testing.T) {
	labels := []int{2, 0, 2, 2, 1, 2}
	wantBorderDoors(t, 2, labels)
	wantFull(t, 2, labels, 1, 2)
	wantOfCell(t, "PartnerOfFull", impl.PartnerOfFull, 2, labels, 1, 2)
	wantOfCell(t, "PartnerOfFull", impl.PartnerOfFull, 2, labels, 2, 1)
	wantOfCell(t, "SignOfFull", impl.SignOfFull, 2, labels, 1, 1)
	wantOfCell(t, "SignOfFull", impl.SignOfFull, 2, labels, 2, -1)
	wantNoNumber(t, "FindFull", impl.FindFull, 2, labels)
	wantNumber(t, "DegreeOf", impl.DegreeOf, 2, labels, 0)
	wantNumber(t, "ClosedRooms", impl.ClosedRooms, 2, labels, 0)
	for _, cell := range []int{0, 3} {
		wantNoneOfCell(t, "PartnerOfFull", impl.PartnerOfFull, 2, labels, cell)
		wantNoneOfCell(t, "SignOfFull", impl.SignOfFull, 2, labels, cell)
	}
}

// Between both full cells there are rooms with two doors, which are not closed.
func TestPartnersWithRoomsBetween(t *testing.T) {
	n, labels, _ := impl.ParseLabels("4:2/22/202/2112/22222")
	wantFull(t, n, labels, 4, 6)
	wantOfCell(t, "PartnerOfFull", impl.PartnerOfFull, n, labels, 4, 6)
	wantOfCell(t, "PartnerOfFull", impl.PartnerOfFull, n, labels, 6, 4)
	wantNumber(t, "ClosedRooms", impl.ClosedRooms, n, labels, 0)
	wantNoNumber(t, "FindFull", impl.FindFull, n, labels)
}

func TestFindFullPassesWalksThatLeave(t *testing.T) {
	n, labels, _ := impl.ParseLabels("2:0/10/201")
	wantBorderDoors(t, n, labels, []int{0, 1}, []int{4, 5}, []int{5, 2})
	wantWalk(t, n, labels, 0, 1, true, 0, 1, 2)
	wantNumber(t, "FindFull", impl.FindFull, n, labels, 2)
	n, labels, _ = impl.ParseLabels("2:1/00/201")
	wantBorderDoors(t, n, labels, []int{0, 1}, []int{4, 5}, []int{5, 2}, []int{2, 0})
	wantWalk(t, n, labels, 0, 1, false, 0)
	wantWalk(t, n, labels, 4, 5, false, 3)
	wantNoNumber(t, "FindFull", impl.FindFull, n, labels)
	n, labels, _ = impl.ParseLabels("2:1/00/221")
	wantBorderDoors(t, n, labels, []int{0, 1}, []int{5, 2}, []int{2, 0})
	wantWalk(t, n, labels, 0, 1, false, 0)
	wantWalk(t, n, labels, 5, 2, true, 3)
	wantNumber(t, "FindFull", impl.FindFull, n, labels, 3)
}

func TestTurnsOfMoreThanOne(t *testing.T) {
	n, labels, _ := impl.ParseLabels("2:0/12/201")
	wantNumber(t, "TurnsOfBorder", impl.TurnsOfBorder, n, labels, 2)
	wantNumber(t, "DegreeOf", impl.DegreeOf, n, labels, 2)
	wantFull(t, n, labels, 0, 1, 2, 3)
	n, labels, _ = impl.ParseLabels("2:1/02/210")
	wantNumber(t, "TurnsOfBorder", impl.TurnsOfBorder, n, labels, -2)
	wantNumber(t, "DegreeOf", impl.DegreeOf, n, labels, -2)
}

// A point with another label than all around it has six rooms with two doors around it.
func TestClosedRoomsAroundAPoint(t *testing.T) {
	for _, text := range []string{"3:1/11/101/1111", "3:0/00/010/0000"} {
		n, labels, _ := impl.ParseLabels(text)
		wantNumber(t, "ClosedRooms", impl.ClosedRooms, n, labels, 6)
		wantBorderDoors(t, n, labels)
		wantFull(t, n, labels)
		wantNoNumber(t, "FindFull", impl.FindFull, n, labels)
	}
	n, labels, _ := impl.ParseLabels("3:1/11/101/1110")
	wantNumber(t, "ClosedRooms with a walk besides", impl.ClosedRooms, n, labels, 6)
	n, labels, _ = impl.ParseLabels("3:1/11/102/1111")
	wantNumber(t, "ClosedRooms with partners", impl.ClosedRooms, n, labels, 0)
}

func TestLabelsWithoutDoors(t *testing.T) {
	for n := 1; n <= impl.MaxSide; n++ {
		for _, few := range [][]int{{0, 0}, {1, 1}, {2, 2}, {0, 2}, {2, 1}} {
			labels := make([]int, len(oraclePoints(n)))
			for i := range labels {
				labels[i] = few[i%2]
			}
			doors, ok := impl.DoorsOf(n, labels)
			want(t, "DoorsOf", doors, ok, [][]int{})
			wantBorderDoors(t, n, labels)
			doors, ok = impl.DoorsOfCell(n, labels, n*n-1)
			want(t, "DoorsOfCell", doors, ok, [][]int{})
			wantFull(t, n, labels)
			passed, inFull, ok := impl.WalkFrom(n, labels, 0, 1)
			wantFailure(t, "WalkFrom", ok, passed, inFull)
			exit, ok := impl.ExitOf(n, labels, 0, 1)
			wantFailure(t, "ExitOf", ok, exit)
			wantNoNumber(t, "FindFull", impl.FindFull, n, labels)
			wantNumber(t, "DegreeOf", impl.DegreeOf, n, labels, 0)
			wantNumber(t, "TurnsOfBorder", impl.TurnsOfBorder, n, labels, 0)
			wantNumber(t, "ClosedRooms", impl.ClosedRooms, n, labels, 0)
		}
	}
}

// With rows of 0 and of 1 by turns the walks go from side to side.
func TestMaxSideInRows(t *testing.T) {
	n, labels, _ := impl.ParseLabels("8:0/11/000/1111/00000/111111/0000000/11111111/000000000")
	wantWalk(t, n, labels, 28, 36, false, 50, 49, 52, 51, 54, 53, 56, 55, 58, 57, 60, 59, 62, 61, 63)
	exit, ok := impl.ExitOf(n, labels, 28, 36)
	want(t, "ExitOf", exit, ok, []int{44, 35})
	wantWalk(t, n, labels, 44, 35, false, 63, 61, 62, 59, 60, 57, 58, 55, 56, 53, 54, 51, 52, 49, 50)
	exit, ok = impl.ExitOf(n, labels, 35, 44)
	want(t, "ExitOf", exit, ok, []int{28, 36})
	wantNumber(t, "TurnsOfBorder", impl.TurnsOfBorder, n, labels, 0)
	wantNumber(t, "ClosedRooms", impl.ClosedRooms, n, labels, 0)
}

// Between two rings around the middle all cells but those of three corners are closed rooms.
func TestMaxSideInRings(t *testing.T) {
	labels := doorLabels(8)[0]
	wantBorderDoors(t, 8, labels)
	wantNumber(t, "ClosedRooms", impl.ClosedRooms, 8, labels, (8*8-5*5-3)+(5*5-2*2-3))
	n, other, _ := impl.ParseLabels("8:0/00/010/0110/01010/010010/0100010/01111110/000000000")
	want(t, "rings", labels, n == 8, other)
}

func checkPairs(t *testing.T, n int, labels []int, what string) {
	t.Helper()
	points := oraclePoints(n)
	onBorder := map[[2]int]bool{}
	for _, door := range oracleBorderDoors(n, labels) {
		onBorder[[2]int{door[0], door[1]}] = true
		onBorder[[2]int{door[1], door[0]}] = true
	}
	for i := range points {
		for j := range points {
			door, ok := impl.IsDoor(n, labels, i, j)
			if oracleNear(points[i], points[j]) {
				want(t, "IsDoor of "+what, door, ok, oracleOpens(labels, i, j))
			} else {
				wantFailure(t, "IsDoor of "+what, ok, door)
			}
			passed, inFull, ok := impl.WalkFrom(n, labels, i, j)
			exit, leaves := impl.ExitOf(n, labels, i, j)
			if !onBorder[[2]int{i, j}] {
				wantFailure(t, "WalkFrom of "+what, ok, passed, inFull)
				wantFailure(t, "ExitOf of "+what, leaves, exit)
				continue
			}
			expected, expectedExit := oracleWalk(n, labels, -1, []int{i, j})
			want(t, "WalkFrom of "+what, passed, ok, expected)
			want(t, "the end of WalkFrom of "+what, inFull, ok, expectedExit == nil)
			if expectedExit == nil {
				wantFailure(t, "ExitOf of "+what, leaves, exit)
			} else {
				want(t, "ExitOf of "+what, exit, leaves, expectedExit)
			}
		}
	}
}

func checkRooms(t *testing.T, n int, labels []int, what string) {
	t.Helper()
	for cell := range n * n {
		doors, ok := impl.DoorsOfCell(n, labels, cell)
		want(t, "DoorsOfCell of "+what, doors, ok, oracleDoorsOfCell(n, labels, cell))
		full, ok := impl.IsFull(n, labels, cell)
		want(t, "IsFull of "+what, full, ok, oracleIsFull(n, labels, cell))
		if !oracleIsFull(n, labels, cell) {
			wantNoneOfCell(t, "SignOfFull of "+what, impl.SignOfFull, n, labels, cell)
			wantNoneOfCell(t, "PartnerOfFull of "+what, impl.PartnerOfFull, n, labels, cell)
			continue
		}
		wantOfCell(t, "SignOfFull of "+what, impl.SignOfFull, n, labels, cell, oracleSign(n, labels, cell))
		if partner := oraclePartner(n, labels, cell); partner < 0 {
			wantNoneOfCell(t, "PartnerOfFull of "+what, impl.PartnerOfFull, n, labels, cell)
		} else {
			wantOfCell(t, "PartnerOfFull of "+what, impl.PartnerOfFull, n, labels, cell, partner)
		}
	}
}

func checkWhole(t *testing.T, n int, labels []int, what string) {
	t.Helper()
	doors, ok := impl.DoorsOf(n, labels)
	want(t, "DoorsOf "+what, doors, ok, oracleDoors(n, labels))
	doors, ok = impl.BorderDoors(n, labels)
	want(t, "BorderDoors of "+what, doors, ok, oracleBorderDoors(n, labels))
	full, ok := impl.FullCells(n, labels)
	want(t, "FullCells of "+what, full, ok, oracleFullCells(n, labels))
	degree := 0
	for _, cell := range oracleFullCells(n, labels) {
		degree += oracleSign(n, labels, cell)
	}
	wantNumber(t, "DegreeOf "+what, impl.DegreeOf, n, labels, degree)
	wantNumber(t, "TurnsOfBorder of "+what, impl.TurnsOfBorder, n, labels, oracleTurns(n, labels))
	wantNumber(t, "ClosedRooms of "+what, impl.ClosedRooms, n, labels, oracleClosed(n, labels))
	if found := oracleFound(n, labels); found < 0 {
		wantNoNumber(t, "FindFull of "+what, impl.FindFull, n, labels)
	} else {
		wantNumber(t, "FindFull of "+what, impl.FindFull, n, labels, found)
	}
}

func checkChapter2(t *testing.T, n int, labels []int) {
	t.Helper()
	what := oracleText(n, labels)
	checkPairs(t, n, labels, what)
	checkRooms(t, n, labels, what)
	checkWhole(t, n, labels, what)
}

func TestDoorsOfAllSmallLabels(t *testing.T) {
	for n := 1; n <= 2; n++ {
		allLabels(n, func(labels []int) { checkChapter2(t, n, labels) })
	}
}

func TestDoorsOfManyLabels(t *testing.T) {
	for n := 3; n <= impl.MaxSide; n++ {
		for _, labels := range slices.Concat(sampleLabels(n), doorLabels(n)) {
			checkChapter2(t, n, labels)
		}
	}
}

// What the chapter tells of the numbers themselves, for labels that keep sides and for others.
func TestLawsOfFullCells(t *testing.T) {
	for n := 1; n <= impl.MaxSide; n++ {
		for _, labels := range slices.Concat(sampleLabels(n), doorLabels(n)) {
			checkLaws(t, n, labels)
		}
	}
	allLabels(3, func(labels []int) {
		if oracleBroken(3, labels) < 0 {
			checkLaws(t, 3, labels)
		}
	})
}

func checkLaws(t *testing.T, n int, labels []int) {
	t.Helper()
	full, _ := impl.FullCells(n, labels)
	turns, ok := impl.TurnsOfBorder(n, labels)
	wantNumber(t, "DegreeOf", impl.DegreeOf, n, labels, turns)
	if oracleBroken(n, labels) < 0 {
		want(t, "TurnsOfBorder", turns, ok, 1)
		want(t, "an odd number of full cells", len(full)%2, true, 1)
		found, ok := impl.FindFull(n, labels)
		want(t, "FindFull", slices.Contains(full, found), ok, true)
	}
	for _, cell := range full {
		partner, ok := impl.PartnerOfFull(n, labels, cell)
		if !ok {
			continue
		}
		wantOfCell(t, "PartnerOfFull", impl.PartnerOfFull, n, labels, partner, cell)
		sign, _ := impl.SignOfFull(n, labels, cell)
		wantOfCell(t, "SignOfFull", impl.SignOfFull, n, labels, partner, -sign)
	}
	turned, _ := impl.TurnLabels(n, labels)
	wantNumber(t, "DegreeOf turned labels", impl.DegreeOf, n, turned, turns)
}

func TestPointsThatAreNoNeighbours(t *testing.T) {
	labels := []int{0, 0, 2, 1, 1, 2}
	for _, points := range [][]int{{0, 3}, {3, 0}, {0, 4}, {2, 3}, {1, 5}, {3, 5}, {1, 1}, {0, 0}, {3, 3}} {
		door, ok := impl.IsDoor(2, labels, points[0], points[1])
		wantFailure(t, "IsDoor", ok, door)
		passed, inFull, ok := impl.WalkFrom(2, labels, points[0], points[1])
		wantFailure(t, "WalkFrom", ok, passed, inFull)
		exit, ok := impl.ExitOf(2, labels, points[0], points[1])
		wantFailure(t, "ExitOf", ok, exit)
	}
}

// Doors that cut off a corner, or lead from the border inside, are no doors of the border though their points may be on it.
func TestNeighboursThatAreNotNextOnTheBorder(t *testing.T) {
	n, labels, _ := impl.ParseLabels("3:2/01/212/2102")
	for _, points := range [][]int{{1, 2}, {2, 1}, {4, 1}, {1, 4}, {4, 8}, {8, 4}} {
		door, ok := impl.IsDoor(n, labels, points[0], points[1])
		want(t, "IsDoor", door, ok, true)
		passed, inFull, ok := impl.WalkFrom(n, labels, points[0], points[1])
		wantFailure(t, "WalkFrom", ok, passed, inFull)
		exit, ok := impl.ExitOf(n, labels, points[0], points[1])
		wantFailure(t, "ExitOf", ok, exit)
	}
	wantBorderDoors(t, n, labels, []int{7, 8})
}

func TestPointsAndCellsThatThereAreNot(t *testing.T) {
	for n := 1; n <= impl.MaxSide; n++ {
		labels := doorLabels(n)[3]
		for _, i := range badPoints(n) {
			for _, points := range [][]int{{i, 0}, {0, i}, {i, i}, {i, i + 1}, {i, i - 1}} {
				door, ok := impl.IsDoor(n, labels, points[0], points[1])
				wantFailure(t, "IsDoor", ok, door)
				passed, inFull, ok := impl.WalkFrom(n, labels, points[0], points[1])
				wantFailure(t, "WalkFrom", ok, passed, inFull)
				exit, ok := impl.ExitOf(n, labels, points[0], points[1])
				wantFailure(t, "ExitOf", ok, exit)
			}
		}
		for _, cell := range []int{-1, -2, n * n, n*n + 1, math.MaxInt, math.MinInt} {
			doors, ok := impl.DoorsOfCell(n, labels, cell)
			wantFailure(t, "DoorsOfCell", ok, doors)
			full, ok := impl.IsFull(n, labels, cell)
			wantFailure(t, "IsFull", ok, full)
			wantNoneOfCell(t, "PartnerOfFull", impl.PartnerOfFull, n, labels, cell)
			wantNoneOfCell(t, "SignOfFull", impl.SignOfFull, n, labels, cell)
		}
	}
}

// No function takes a side that there is not, or a list that is no labels for it.
func TestSidesAndListsThatAreNoLabels(t *testing.T) {
	for n := 1; n <= impl.MaxSide; n++ {
		for _, list := range badLists(n) {
			checkNoLabels(t, n, list)
		}
	}
	for _, n := range badSides {
		for _, list := range [][]int{nil, {}, {0}, {0, 1, 2}, doorLabels(2)[3], doorLabels(8)[3], make([]int, 55)} {
			checkNoLabels(t, n, list)
		}
	}
}

func checkNoLabels(t *testing.T, n int, list []int) {
	t.Helper()
	door, ok := impl.IsDoor(n, list, 0, 1)
	wantFailure(t, "IsDoor", ok, door)
	doors, ok := impl.DoorsOf(n, list)
	wantFailure(t, "DoorsOf", ok, doors)
	doors, ok = impl.BorderDoors(n, list)
	wantFailure(t, "BorderDoors", ok, doors)
	doors, ok = impl.DoorsOfCell(n, list, 0)
	wantFailure(t, "DoorsOfCell", ok, doors)
	is, ok := impl.IsFull(n, list, 0)
	wantFailure(t, "IsFull", ok, is)
	full, ok := impl.FullCells(n, list)
	wantFailure(t, "FullCells", ok, full)
	passed, inFull, ok := impl.WalkFrom(n, list, 0, 1)
	wantFailure(t, "WalkFrom", ok, passed, inFull)
	exit, ok := impl.ExitOf(n, list, 0, 1)
	wantFailure(t, "ExitOf", ok, exit)
	wantNoNumber(t, "FindFull", impl.FindFull, n, list)
	wantNoneOfCell(t, "PartnerOfFull", impl.PartnerOfFull, n, list, 0)
	wantNoneOfCell(t, "SignOfFull", impl.SignOfFull, n, list, 0)
	wantNoNumber(t, "DegreeOf", impl.DegreeOf, n, list)
	wantNoNumber(t, "TurnsOfBorder", impl.TurnsOfBorder, n, list)
	wantNoNumber(t, "ClosedRooms", impl.ClosedRooms, n, list)
}
