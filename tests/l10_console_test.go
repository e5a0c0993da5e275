package tests

// Promise 10: scripts do what the calls do that they name.

import (
	"slices"
	"strconv"
	"strings"
	"testing"

	"loop.example/g01160/impl"
)

func deskWith(side int, labels []int, beads string) impl.Desk {
	return impl.Desk{Side: side, Labels: labels, Beads: beads}
}

func firstDesk() impl.Desk { return deskWith(2, []int{0, 0, 2, 1, 1, 2}, "aabb") }

func brief(text string) string { return strconv.Quote(text[:min(len(text), 60)]) }

// wantLine wants a reply, and the desk behind the line.
func wantLine(t *testing.T, d impl.Desk, line string, expected impl.Desk, reply string) {
	t.Helper()
	before := deskWith(d.Side, slices.Clone(d.Labels), d.Beads)
	after, got, ok := impl.DeskLine(d, line)
	want(t, "the reply of DeskLine to "+brief(line), got, ok, reply)
	want(t, "the desk of DeskLine behind "+brief(line), after, ok, expected)
	want(t, "the desk in front of "+brief(line), d, ok, before)
	if t.Failed() {
		t.Fatalf("the desk is %v, the line %s", d, brief(line))
	}
}

// wantSame is for lines that change nothing.
func wantSame(t *testing.T, d impl.Desk, line, reply string) {
	t.Helper()
	wantLine(t, d, line, d, reply)
}

func wantNoLine(t *testing.T, d impl.Desk, line string) {
	t.Helper()
	after, reply, ok := impl.DeskLine(d, line)
	wantFailure(t, "DeskLine of "+brief(line), ok, after, reply)
	if t.Failed() {
		t.Fatalf("the desk is %v, the line %s", d, brief(line))
	}
}

func wantScript(t *testing.T, s string, expected scriptFacts) {
	t.Helper()
	replies, ok := impl.RunScript(s)
	want(t, "RunScript", replies, ok, expected.replies)
	failed, ok := impl.FailedLines(s)
	want(t, "FailedLines", failed, ok, expected.failed)
	desk, ok := impl.DeskAfter(s)
	want(t, "DeskAfter", desk, ok, expected.desk)
	if t.Failed() {
		t.Fatalf("the script is %q", s)
	}
}

func wantNoScript(t *testing.T, s string) {
	t.Helper()
	replies, ok := impl.RunScript(s)
	wantFailure(t, "RunScript", ok, replies)
	failed, ok := impl.FailedLines(s)
	wantFailure(t, "FailedLines", ok, failed)
	desk, ok := impl.DeskAfter(s)
	wantFailure(t, "DeskAfter", ok, desk)
	if t.Failed() {
		t.Fatalf("the text is %s", brief(s))
	}
}

// wantAnswers has a line and its reply, by turns, and the desk behind all of them.
func wantAnswers(t *testing.T, desk impl.Desk, linesAndReplies ...string) {
	t.Helper()
	var lines []string
	expected := scriptFacts{desk: desk}
	for k := 0; k < len(linesAndReplies); k += 2 {
		lines = append(lines, linesAndReplies[k])
		expected.replies = append(expected.replies, linesAndReplies[k+1])
		if isFailure(linesAndReplies[k+1]) {
			expected.failed = append(expected.failed, k/2+1)
		}
	}
	wantScript(t, scriptOf(lines...), expected)
}

// answersOf is the reply for results of a call that the document names.
func answersOf(result any, ok bool) string {
	switch r := result.(type) {
	case int:
		if ok {
			return strconv.Itoa(r)
		}
	case []int:
		if ok {
			return commaList(r)
		}
	case string:
		if ok {
			return orDash(r)
		}
	}
	return "no"
}

func TestLimitsOfChapter10(t *testing.T) {
	if impl.MaxScript != 3000 || impl.MaxLines != 50 {
		t.Error("limits", impl.MaxScript, impl.MaxLines)
	}
}

func TestExampleOfChapter10(t *testing.T) {
	wantScript(t, "full\nfind\ndegree\nboard 12/21\ncuts\nsplit\nbroken\nfly\n", scriptFacts{
		replies: []string{"1", "1", "1", "2", "2", "1,3", "no", "what"}, failed: []int{7, 8}, desk: firstDesk()})
}

func TestFirstDesk(t *testing.T) {
	want(t, "FirstDesk", impl.FirstDesk(), impl.IsDesk(impl.FirstDesk()), firstDesk())
	text, ok := impl.LabelsText(impl.FirstDesk().Side, impl.FirstDesk().Labels)
	want(t, "the labels of FirstDesk", text, ok, "2:0/02/112")
	wantScript(t, "show\nstring\n", scriptFacts{replies: []string{"2:0/02/112", "aabb"}, desk: firstDesk()})
}

func TestEffectsOfLines(t *testing.T) {
	wantAnswers(t, deskWith(2, []int{0, 1, 0, 1, 2, 2}, "aabb"), "mirror", "2:0/10/122", "show", "2:0/10/122", "string", "aabb")
	wantAnswers(t, deskWith(2, []int{0, 0, 1, 1, 2, 0}, "aabb"), "labels 2:0/12/202", "2:0/12/202", "turn", "2:0/01/120", "show", "2:0/01/120")
	wantAnswers(t, deskWith(2, []int{1, 0, 2, 1, 1, 0}, "aabb"), "set 0 1", "2:1/02/112", "set 5 0", "2:1/02/110", "show", "2:1/02/110")
	wantAnswers(t, deskWith(1, []int{0, 1, 2}, "aabb"), "labels 1:0/12", "1:0/12", "set 3 0", "no", "turn", "1:0/12", "mirror", "1:0/12", "full", "0")
	wantAnswers(t, deskWith(2, []int{0, 0, 2, 1, 1, 2}, "cba"), "beads abc", "abc", "reverse", "cba", "string", "cba", "show", "2:0/02/112")
	wantAnswers(t, deskWith(2, []int{0, 0, 2, 1, 1, 2}, ""), "beads -", "-", "string", "-", "reverse", "-", "show", "2:0/02/112")
	wantAnswers(t, deskWith(2, []int{0, 0, 2, 1, 1, 2}, "d"), "beads aaaabbbbccccdddd", "aaaabbbbccccdddd", "beads -", "-", "beads d", "d", "string", "d")
	wantAnswers(t, deskWith(3, []int{0, 0, 2, 1, 1, 2, 1, 1, 2, 2}, "aabb"), "labels 3:0/02/112/1122", "3:0/02/112/1122", "set 9 2", "3:0/02/112/1122", "set 10 2", "no", "labels 3:0/02/112/112", "what")
	wantAnswers(t, firstDesk(), "labels 3:0/00/000/0000", "3:0/00/000/0000", "labels 2:0/02/112", "2:0/02/112")
}

func TestQuestions(t *testing.T) {
	wantAnswers(t, deskWith(1, []int{1, 0, 2}, "aabb"), "labels 1:1/02", "1:1/02", "broken", "0", "full", "0", "find", "0", "degree", "-1")
	wantAnswers(t, deskWith(1, []int{0, 0, 0}, "aabb"), "labels 1:0/00", "1:0/00", "broken", "1", "full", "-", "find", "no", "degree", "0")
	wantAnswers(t, deskWith(2, []int{0, 1, 2, 2, 0, 1}, "aabb"), "labels 2:0/12/201", "2:0/12/201", "full", "0,1,2,3", "degree", "2", "broken", "3", "find", "0")
	wantAnswers(t, deskWith(2, []int{1, 0, 2, 2, 1, 0}, "aabb"), "labels 2:1/02/210", "2:1/02/210", "full", "0,1,2,3", "degree", "-2", "broken", "0", "find", "0")
	wantAnswers(t, firstDesk(), "board 12/11", "1", "board 12/21", "2", "board 12/01", "no", "board 0", "no", "board 1", "1", "board 2", "2", "board 1/2", "2", "board 12", "1")
	wantAnswers(t, firstDesk(), "need 00/00", "2", "need 10/02", "1", "need 11/11", "0", "need 22/22", "no", "need 2", "no", "need 1", "0", "need 0", "1", "need 000000000000000000000000000000", "1", "need 0/0/0", "3")
	wantAnswers(t, deskWith(2, firstDesk().Labels, ""), "beads -", "-", "cuts", "0", "split", "-", "half", "no", "three", "0")
	wantAnswers(t, deskWith(2, firstDesk().Labels, "abc"), "beads abc", "abc", "cuts", "no", "split", "no", "half", "no", "three", "no")
	wantAnswers(t, deskWith(2, firstDesk().Labels, "abab"), "beads abab", "abab", "cuts", "1", "split", "2", "half", "0", "three", "no")
	wantAnswers(t, deskWith(2, firstDesk().Labels, "aaabbb"), "beads aaabbb", "aaabbb", "cuts", "no", "split", "no", "half", "no", "three", "4")
	wantAnswers(t, deskWith(2, firstDesk().Labels, "aabbccdd"), "beads aabbccdd", "aabbccdd", "cuts", "4", "split", "1,3,5,7", "half", "no", "three", "no")
	wantAnswers(t, firstDesk(), "cuts", "2", "split", "1,3", "half", "1", "three", "no")
	wantAnswers(t, deskWith(2, firstDesk().Labels, "aaaabbbbccccdddd"), "beads aaaabbbbccccdddd", "aaaabbbbccccdddd", "split", "2,6,10,14")
}

// Each line of one word does what the call does that it names.
func TestPlainLinesDoWhatCallsDo(t *testing.T) {
	for _, d := range sampleDesks() {
		turned, ok := impl.TurnLabels(d.Side, d.Labels)
		text, _ := impl.LabelsText(d.Side, turned)
		wantLine(t, d, "turn", deskWith(d.Side, turned, d.Beads), answersOf(text, ok))
		mirrored, ok := impl.MirrorLabels(d.Side, d.Labels)
		text, _ = impl.LabelsText(d.Side, mirrored)
		wantLine(t, d, "mirror", deskWith(d.Side, mirrored, d.Beads), answersOf(text, ok))
		backwards, ok := impl.ReverseBeads(d.Beads)
		wantLine(t, d, "reverse", deskWith(d.Side, d.Labels, backwards), answersOf(backwards, ok))
		wantSame(t, d, "show", answersOf(impl.LabelsText(d.Side, d.Labels)))
		wantSame(t, d, "string", answersOf(d.Beads, impl.IsNecklace(d.Beads)))
		wantSame(t, d, "broken", answersOf(impl.FirstBroken(d.Side, d.Labels)))
		wantSame(t, d, "full", answersOf(impl.FullCells(d.Side, d.Labels)))
		wantSame(t, d, "find", answersOf(impl.FindFull(d.Side, d.Labels)))
		wantSame(t, d, "degree", answersOf(impl.DegreeOf(d.Side, d.Labels)))
		wantSame(t, d, "cuts", answersOf(impl.FewestCuts(d.Beads)))
		wantSame(t, d, "split", answersOf(impl.FirstSplit(d.Beads)))
		wantSame(t, d, "half", answersOf(impl.HalfWindow(d.Beads)))
		wantSame(t, d, "three", answersOf(impl.FewestForThree(d.Beads)))
	}
}

// Each line with a text does what the call does that it names, with what the text is of.
func TestLinesWithTextsDoWhatCallsDo(t *testing.T) {
	desks := []impl.Desk{firstDesk(), deskWith(1, []int{2, 2, 2}, ""), deskWith(8, sampleLabels(8)[3], "dcba")}
	for _, d := range desks {
		for n := 1; n <= 8; n++ {
			for _, labels := range deskLabels(n) {
				text, ok := impl.LabelsText(n, labels)
				wantLine(t, d, "labels "+text, deskWith(n, labels, d.Beads), answersOf(text, ok))
			}
		}
		for _, beads := range deskBeads() {
			wantLine(t, d, "beads "+orDash(beads), deskWith(d.Side, d.Labels, beads), answersOf(beads, true))
		}
		for _, text := range deskBoards() {
			rows, columns, board, ok := impl.ParseBoard(text)
			want(t, "ParseBoard", ok, true, true)
			wantSame(t, d, "board "+text, answersOf(impl.WinnerOf(rows, columns, board)))
			wantSame(t, d, "need "+text, answersOf(impl.NeedOf(rows, columns, board, 1)))
		}
	}
}

func TestSetLines(t *testing.T) {
	for n := 1; n <= 8; n++ {
		labels := sampleLabels(n)[5]
		d := deskWith(n, labels, "abcd")
		for i := range len(labels) + 3 {
			for k := range 5 {
				line := "set " + strconv.Itoa(i) + " " + strconv.Itoa(k)
				if i >= len(labels) || k > 2 {
					wantSame(t, d, line, "no")
					continue
				}
				others := slices.Clone(labels)
				others[i] = k
				wantLine(t, d, line, deskWith(n, others, "abcd"), oracleText(n, others))
			}
		}
	}
}

func TestNumbersInLines(t *testing.T) {
	d := deskWith(8, slices.Repeat([]int{0}, 45), "")
	for number := range 2000 {
		text := strconv.Itoa(number)
		if number >= 45 {
			wantSame(t, d, "set "+text+" 0", "no")
		}
		if number >= 3 {
			wantSame(t, d, "set 0 "+text, "no")
		}
		wantSame(t, d, "set 0"+text+" 0", "what")
		wantSame(t, d, "set 0 0"+text, "what")
		wantSame(t, d, "set +"+text+" 0", "what")
		wantSame(t, d, "set 0 -"+text, "what")
	}
	for _, number := range []int{9999, 10000, 65536, 99999, 100000, 123456, 262144, 999990, 999998, 999999} {
		text := strconv.Itoa(number)
		wantSame(t, d, "set "+text+" 0", "no")
		wantSame(t, d, "set 0 "+text, "no")
		wantSame(t, d, "set "+text+" "+text, "no")
		wantSame(t, d, "set "+text+" 3", "no")
	}
	for _, number := range []int{1000000, 1000001, 1000044, 9999999, 10000000, 1 << 32, 1<<32 + 1, 1 << 62} {
		text := strconv.Itoa(number)
		wantSame(t, d, "set "+text+" 0", "what")
		wantSame(t, d, "set 0 "+text, "what")
		wantSame(t, d, "set "+text+" 999999", "what")
		wantSame(t, d, "set 999999 "+text, "what")
	}
}

// A word that is no number is told what even where the other one is no point or no label.
func TestWordsThatAreNoNumbers(t *testing.T) {
	for _, d := range []impl.Desk{firstDesk(), deskWith(1, []int{0, 1, 2}, "")} {
		for _, word := range badWords {
			for _, other := range append(badWords, "0", "1", "2", "3", "6", "45", "999999") {
				wantSame(t, d, "set "+word+" "+other, "what")
				wantSame(t, d, "set "+other+" "+word, "what")
			}
		}
	}
}

func TestLinesThatNobodyUnderstands(t *testing.T) {
	desks := []impl.Desk{firstDesk(), deskWith(1, []int{1, 1, 1}, ""), deskWith(8, sampleLabels(8)[4], "aaaabbbbccccdddd")}
	for _, line := range badLines() {
		for _, d := range desks {
			wantSame(t, d, line, "what")
		}
		if len(line) < 3000 {
			wantAnswers(t, firstDesk(), line, "what")
		}
	}
}

// One other byte at whichever place, one more or one less, makes a line another one.
func TestLinesNearOthers(t *testing.T) {
	d := firstDesk()
	check := func(line string) {
		if isLineText(line) {
			after, reply := oracleLine(d, line)
			wantLine(t, d, line, after, reply)
		} else {
			wantNoLine(t, d, line)
		}
	}
	for _, line := range lineSamples() {
		for i := range len(line) + 1 {
			for number := range 256 {
				letter := string([]byte{byte(number)})
				check(line[:i] + letter + line[i:])
				if i < len(line) {
					check(line[:i] + letter + line[i+1:])
				}
			}
			check(line[:i])
			check(line[i:])
		}
	}
}

func TestManyLinesOnManyDesks(t *testing.T) {
	next := chance(1000)
	for _, d := range sampleDesks() {
		for _, line := range manyLines(next) {
			after, reply := oracleLine(d, line)
			wantLine(t, d, line, after, reply)
			want(t, "whether the desk behind the line is one", impl.IsDesk(after), true, true)
		}
	}
}

// A script does what its lines do one after the other.
func TestScripts(t *testing.T) {
	next := chance(1001)
	for k := range 400 {
		lines := chanceLines(next, k%51)
		wantScript(t, scriptOf(lines...), oracleScript(lines))
		desk := impl.FirstDesk()
		var replies []string
		for _, line := range lines {
			after, reply, ok := impl.DeskLine(desk, line)
			want(t, "DeskLine", ok, true, true)
			desk, replies = after, append(replies, reply)
		}
		wantScript(t, scriptOf(lines...), scriptFacts{replies: replies, failed: oracleScript(lines).failed, desk: desk})
	}
}

func TestEmptyScript(t *testing.T) {
	wantScript(t, "", scriptFacts{desk: firstDesk()})
}

func TestEmptyLines(t *testing.T) {
	wantScript(t, "\n", scriptFacts{replies: []string{"what"}, failed: []int{1}, desk: firstDesk()})
	wantScript(t, "\n\nfull\n\n", scriptFacts{replies: []string{"what", "what", "1", "what"}, failed: []int{1, 2, 4}, desk: firstDesk()})
	wantScript(t, " \n  \n", scriptFacts{replies: []string{"what", "what"}, failed: []int{1, 2}, desk: firstDesk()})
	wantSame(t, firstDesk(), "", "what")
}

func TestEmptyWords(t *testing.T) {
	wantAnswers(t, firstDesk(), " full", "what", "full ", "what", "set  1 2", "what", "set 1  2", "what", "set 1 2 ", "what", " set 1 2", "what", "set 1 ", "what", "set  2", "what", "set  ", "what",
		"beads ", "what", "beads  aabb", "what", "board ", "what", "need ", "what", "labels ", "what", "string", "aabb", "show", "2:0/02/112")
}

func TestScriptsOfMaxLines(t *testing.T) {
	for _, line := range []string{"full", "", "turn", "set 0 0", "broken", "three"} {
		lines := slices.Repeat([]string{line}, 50)
		wantScript(t, scriptOf(lines...), oracleScript(lines))
		wantNoScript(t, scriptOf(append(lines, line)...))
		wantNoScript(t, scriptOf(lines...)+"full")
		wantNoScript(t, scriptOf(lines[:49]...)+"full")
		wantScript(t, scriptOf(lines[:49]...), oracleScript(lines[:49]))
	}
	lines := append(slices.Repeat([]string{"mirror"}, 49), "beads abc")
	wantScript(t, scriptOf(lines...), oracleScript(lines))
}

func TestScriptsOfMaxScript(t *testing.T) {
	for count := 1; count <= 50; count++ {
		lines := append([]string{"beads abba"}, slices.Repeat([]string{"cuts"}, count-1)...)
		left := 3000 - len(scriptOf(lines...))
		lines[0] = strings.Repeat("x", left) + lines[0]
		s := scriptOf(lines...)
		want(t, "the size of the script", len(s), true, 3000)
		wantScript(t, s, oracleScript(lines))
		wantNoScript(t, "x"+s)
		wantNoScript(t, s+"\n")
		wantNoScript(t, s[:2999])
		wantScript(t, s[1:], oracleScript(lines))
	}
	lines := slices.Repeat([]string{strings.Repeat("é", 29) + "x"}, 50)
	wantScript(t, scriptOf(lines...), oracleScript(lines))
	wantNoScript(t, scriptOf(lines...)+"\n")
}

func TestTextsThatAreNoScripts(t *testing.T) {
	for _, s := range badScripts() {
		wantNoScript(t, s)
	}
	next := chance(1002)
	for k := range 50 {
		s := scriptOf(chanceLines(next, 1+k)...)
		wantNoScript(t, s[:len(s)-1]+"x")
		wantNoScript(t, s+"show")
		wantNoScript(t, s+strings.Repeat("x", 3000-len(s))+"\n")
		wantNoScript(t, s+strings.Repeat("\n", 50))
	}
}

func TestLinesOfDeskLine(t *testing.T) {
	d := firstDesk()
	for _, line := range []string{strings.Repeat("x", 3000), strings.Repeat(" ", 3000), "full" + strings.Repeat(" ", 2996), "set 1 " + strings.Repeat("1", 2994), "beads " + strings.Repeat("a", 2994), "board " + strings.Repeat("0", 2994), "labels 8:" + strings.Repeat("0", 2991), strings.Repeat("\xff", 3000)} {
		want(t, "the size of the line", len(line), true, 3000)
		wantSame(t, d, line, "what")
		wantNoLine(t, d, line+"x")
		wantNoLine(t, d, line+" ")
		wantNoLine(t, d, line+line)
		wantNoLine(t, d, line[:2999]+"\n")
		wantSame(t, d, line[:2999], "what")
	}
	for _, line := range append(lineSamples(), "", " ", "fly") {
		for i := range len(line) + 1 {
			wantNoLine(t, d, line[:i]+"\n"+line[i:])
		}
		wantNoLine(t, d, line+"\n\n")
		wantNoLine(t, d, line+"\r\n")
		wantNoLine(t, d, line+"\n"+line)
	}
}

func TestDesks(t *testing.T) {
	for _, d := range sampleDesks() {
		want(t, "IsDesk", impl.IsDesk(d), true, true)
	}
	for _, beads := range deskBeads() {
		want(t, "IsDesk", impl.IsDesk(deskWith(1, []int{2, 0, 1}, beads)), true, true)
	}
	for _, d := range badDesks() {
		if impl.IsDesk(d) {
			t.Fatalf("%v is no desk", d)
		}
		for _, line := range append(lineSamples(), "", "fly", "full ", "set 1 x", "labels 9", "full\n", strings.Repeat("x", 3001)) {
			wantNoLine(t, d, line)
		}
	}
}

// Turns and mirrors of a desk lead back to it, and labels that were told are read back.
func TestLinesThatLeadBack(t *testing.T) {
	for _, d := range sampleDesks() {
		text := oracleText(d.Side, d.Labels)
		lines := []string{"labels " + text, "beads " + orDash(d.Beads), "turn", "turn", "turn", "show", "mirror", "mirror", "show", "reverse", "reverse", "string"}
		expected := oracleScript(lines)
		want(t, "the desk that lines lead back to", expected.desk, true, d)
		want(t, "the reply to show", expected.replies[5], true, text)
		want(t, "the reply to show", expected.replies[8], true, text)
		wantScript(t, scriptOf(lines...), expected)
	}
}

// A line that is refused leaves nothing behind, and the lines behind it do what they would do without it.
func TestRefusedLinesChangeNothing(t *testing.T) {
	refused := []string{"set 6 0", "set 0 3", "set 999999 0", "set 0 999999", "set x 0", "set 0 x", "labels 9:0", "labels 3:0/00/000/000", "beads e", "beads aaaaaaaaaaaaaaaaa", "board 3", "board 0", "need 2", "broken", "three", "fly", "turn ", " reverse", "MIRROR"}
	for _, line := range refused {
		_, reply := oracleLine(firstDesk(), line)
		wantSame(t, firstDesk(), line, reply)
		want(t, "whether the line is refused", isFailure(reply), true, true)
		wantAnswers(t, deskWith(2, []int{0, 1, 0, 1, 2, 2}, "bbaa"), line, reply, "mirror", "2:0/10/122", "reverse", "bbaa", "show", "2:0/10/122", "string", "bbaa")
	}
}

func TestTextsOfNothing(t *testing.T) {
	d := deskWith(1, []int{0, 0, 0}, "")
	wantSame(t, d, "full", "-")
	wantSame(t, d, "split", "-")
	wantSame(t, d, "string", "-")
	wantSame(t, d, "reverse", "-")
	wantSame(t, d, "beads -", "-")
	wantSame(t, d, "cuts", "0")
	wantSame(t, d, "three", "0")
	wantSame(t, d, "half", "no")
}
