package tests

// The functions of chapter 2 for promise 11.

import "loop.example/g01160/impl"

func hasCell(a arguments) bool { return areLabelsOf(a) && isCellOf(a.n, a.i) }

func hasFullCell(a arguments) bool { return hasCell(a) && oracleIsFull(a.n, a.list, a.i) }

func hasBorderDoor(a arguments) bool {
	return areLabelsOf(a) && oracleBorderDoor(a.n, a.list, a.i, a.j) != nil
}

func functionsOfChapter2() []totalFunction {
	return []totalFunction{
		{"IsDoor", func(a arguments) []any { return pair(impl.IsDoor(a.n, a.list, a.i, a.j)) },
			func(a arguments) bool { return areLabelsOf(a) && areNeighboursOf(a.n, a.i, a.j) }},
		{"DoorsOf", func(a arguments) []any { return pair(impl.DoorsOf(a.n, a.list)) }, areLabelsOf},
		{"BorderDoors", func(a arguments) []any { return pair(impl.BorderDoors(a.n, a.list)) }, areLabelsOf},
		{"DoorsOfCell", func(a arguments) []any { return pair(impl.DoorsOfCell(a.n, a.list, a.i)) }, hasCell},
		{"IsFull", func(a arguments) []any { return pair(impl.IsFull(a.n, a.list, a.i)) }, hasCell},
		{"FullCells", func(a arguments) []any { return pair(impl.FullCells(a.n, a.list)) }, areLabelsOf},
		{"WalkFrom", func(a arguments) []any { return triple(impl.WalkFrom(a.n, a.list, a.i, a.j)) }, hasBorderDoor},
		{"ExitOf", func(a arguments) []any { return pair(impl.ExitOf(a.n, a.list, a.i, a.j)) },
			func(a arguments) bool {
				if !hasBorderDoor(a) {
					return false
				}
				_, exit := oracleWalk(a.n, a.list, -1, []int{a.i, a.j})
				return exit != nil
			}},
		{"FindFull", func(a arguments) []any { return pair(impl.FindFull(a.n, a.list)) },
			func(a arguments) bool { return areLabelsOf(a) && oracleFound(a.n, a.list) >= 0 }},
		{"PartnerOfFull", func(a arguments) []any { return pair(impl.PartnerOfFull(a.n, a.list, a.i)) },
			func(a arguments) bool { return hasFullCell(a) && oraclePartner(a.n, a.list, a.i) >= 0 }},
		{"SignOfFull", func(a arguments) []any { return pair(impl.SignOfFull(a.n, a.list, a.i)) }, hasFullCell},
		{"DegreeOf", func(a arguments) []any { return pair(impl.DegreeOf(a.n, a.list)) }, areLabelsOf},
		{"TurnsOfBorder", func(a arguments) []any { return pair(impl.TurnsOfBorder(a.n, a.list)) }, areLabelsOf},
		{"ClosedRooms", func(a arguments) []any { return pair(impl.ClosedRooms(a.n, a.list)) }, areLabelsOf},
	}
}
