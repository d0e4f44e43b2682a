package bench_test

import (
	"fmt"
	"slices"
	"strings"
	"testing"
	"time"

	"tidewait/api"
	"tidewait/bench"
	"tidewait/verdict"
)

func rightRatios() []int { return row(1, 2, 3, maxRatio-1, maxRatio) }

func wrongRatios() []int {
	return row(0, maxRatio+1, -1, -2, -maxRatio, maxRatio+2, least, greatest, least+1, 1<<32+1, 1<<8+2)
}

func checkTell(t *testing.T, s string, ratio int, want ...string) {
	t.Helper()
	if got, why := bench.Tell(s, ratio); !slices.Equal(got, want) || why != api.OK {
		t.Errorf("Tell of %.60q and %v is %q and %v, not %q", s, ratio, got, why, want)
	}
}

// checkNoLines sees that this error is told, and nothing else.
func checkNoLines(t *testing.T, s string, ratio int, want api.Errno) {
	t.Helper()
	if got, why := bench.Tell(s, ratio); len(got) > 0 || why != want {
		t.Errorf("Tell of %.60q and %v is %q and %v, not nothing but %v", s, ratio, got, why, want)
	}
}

// checkJudged holds Tell against what verdict.Judge tells of both flows.
func checkJudged(t *testing.T, r api.Rules, s string, ratio int) {
	t.Helper()
	var want []string
	for who := range 2 {
		judged, why := verdict.Judge(r, who, ratio)
		if why != api.OK {
			checkNoLines(t, s, ratio, why)
			return
		}
		line := fmt.Sprintf("%d bounded %d", who, judged.Most)
		if judged.Kind == api.Starves {
			line = fmt.Sprintf("%d starves", who)
		}
		want = append(want, line)
	}
	checkTell(t, s, ratio, want...)
}

// A text that has no rules is told ahead of all that may be wrong of the ratio.
func TestTellOfWrongTexts(t *testing.T) {
	for _, s := range wrongTexts() {
		for _, ratio := range append(rightRatios(), wrongRatios()...) {
			checkNoLines(t, s, ratio, api.ErrForm)
		}
	}
	for _, word := range wrongWords() {
		checkNoLines(t, word+" copa 1 0 0", 1, api.ErrForm)
		checkNoLines(t, "copa "+word+" 1 0 0", 0, api.ErrForm)
	}
	for _, word := range append(wrongSpellings(), wrongNumberWords()...) {
		checkNoLines(t, "copa copa "+word+" 0 0", 1, api.ErrForm)
		checkNoLines(t, "copa copa 1 "+word+" 0", maxRatio+1, api.ErrForm)
		checkNoLines(t, "copa copa 1 0 "+word, 2, api.ErrForm)
	}
}

// fullTexts are of rules that have more states than MaxStates.
func fullTexts() []string {
	return []string{
		"vegas vegas 1 0 2", "vegas vegas 6 16 3", "vegas copa 6 16 1", "vegas ledbat 3 4 1", "copa vegas 2 2 1", "copa copa 6 16 3", "copa copa 4 9 1",
		"copa ledbat 12 13 1", "copa ledbat 3 8 2", "ledbat vegas 6 16 2", "ledbat copa 3 1 3", "ledbat ledbat 1 3 2", "ledbat ledbat 12 16 3",
	}
}

func TestTellOfFullTexts(t *testing.T) {
	for _, s := range fullTexts() {
		for _, ratio := range rightRatios() {
			checkNoLines(t, s, ratio, api.ErrFull)
		}
	}
}

// The ratio comes ahead of what there is to be found.
func TestTellAtWrongRatios(t *testing.T) {
	for _, ratio := range wrongRatios() {
		for _, x := range texts() {
			checkNoLines(t, x.text, ratio, api.ErrRange)
		}
		for _, s := range fullTexts() {
			checkNoLines(t, s, ratio, api.ErrRange)
		}
	}
}

// told is what comes of each kind: both bounded, by numbers of one digit and of two, one of both starving, and both.
func told() []struct {
	text          string
	ratio         int
	first, second string
} {
	return []struct {
		text          string
		ratio         int
		first, second string
	}{
		// Both are bounded.
		{"vegas vegas 2 4 0", 2, "0 bounded 2", "1 bounded 0"},
		{"copa ledbat 4 0 0", 2, "0 bounded 0", "1 bounded 0"},
		{"vegas vegas 2 4 0", 1, "0 bounded 2", "1 bounded 0"},
		{"vegas vegas 2 4 0", maxRatio, "0 bounded 2", "1 bounded 0"},
		{"ledbat vegas 2 4 1", 1, "0 bounded 2", "1 bounded 2"},
		{"vegas vegas 2 8 1", 2, "0 bounded 8", "1 bounded 0"},
		{"copa vegas 2 10 0", 2, "0 bounded 10", "1 bounded 0"},
		{"copa vegas 2 13 2", 2, "0 bounded 18", "1 bounded 0"},
		{"vegas copa 10 8 0", 1, "0 bounded 0", "1 bounded 11"},
		{"ledbat vegas 5 16 0", 2, "0 bounded 6", "1 bounded 20"},
		{"copa vegas 8 16 0", 1, "0 bounded 21", "1 bounded 10"},
		{"copa ledbat 7 14 0", 1, "0 bounded 34", "1 bounded 18"},
		// The first one starves.
		{"vegas vegas 1 0 0", 1, "0 starves", "1 bounded 0"},
		{"vegas vegas 1 2 1", 2, "0 starves", "1 bounded 1"},
		{"copa copa 1 8 3", maxRatio, "0 starves", "1 bounded 1"},
		{"vegas copa 9 9 0", 1, "0 starves", "1 bounded 10"},
		{"ledbat vegas 7 5 0", 1, "0 starves", "1 bounded 10"},
		// The second one does.
		{"copa vegas 4 4 0", 1, "0 bounded 2", "1 starves"},
		{"ledbat copa 3 12 1", 1, "0 bounded 9", "1 starves"},
		{"ledbat vegas 5 15 0", 1, "0 bounded 12", "1 starves"},
		{"copa ledbat 12 16 0", 1, "0 bounded 55", "1 starves"},
		// Both do, each one by what may be late.
		{"vegas vegas 5 0 1", 1, "0 starves", "1 starves"},
		{"vegas vegas 7 0 1", 2, "0 starves", "1 starves"},
		{"vegas copa 5 10 1", 1, "0 starves", "1 starves"},
		{"copa copa 4 8 1", 1, "0 starves", "1 starves"},
	}
}

func TestTell(t *testing.T) {
	known := byText()
	for _, x := range told() {
		checkTell(t, x.text, x.ratio, x.first, x.second)
		for _, ratio := range rightRatios() {
			checkJudged(t, known[x.text], x.text, ratio)
		}
	}
}

// What starves at one ratio may be bounded at the next one.
func TestTellAtAllRatios(t *testing.T) {
	known := byText()
	for _, s := range []string{"vegas vegas 7 0 1", "copa ledbat 12 16 0", "ledbat vegas 5 15 0"} {
		answers := map[string]bool{}
		for ratio := 1; ratio <= maxRatio; ratio++ {
			checkJudged(t, known[s], s, ratio)
			lines, _ := bench.Tell(s, ratio)
			answers[strings.Join(lines, "\n")] = true
		}
		if len(answers) < 2 {
			t.Errorf("Tell of %q is %v at all ratios", s, answers)
		}
	}
}

// Rules without jitter have few states, so that all of them are asked at each ratio; the others at one ratio each.
func TestTellOfAllRules(t *testing.T) {
	ratios := rightRatios()
	number := 0
	for r, text := range allRules {
		number++
		if r.Jitter > 0 {
			checkJudged(t, r, text, ratios[number%len(ratios)])
			continue
		}
		for _, ratio := range ratios {
			checkJudged(t, r, text, ratio)
		}
	}
}

// spoil changes what was answered, and the spare room behind it.
func spoil(lines []string) {
	for i := range lines[:cap(lines)] {
		lines[:cap(lines)][i] = "7 starves"
	}
}

func TestTheSameAtEachCall(t *testing.T) {
	full := fullTexts()
	for i, x := range told() {
		first, why := bench.Tell(x.text, x.ratio)
		second, _ := bench.Tell(x.text, x.ratio)
		if !slices.Equal(first, second) || why != api.OK {
			t.Errorf("Tell of %q is %q and %v, and then %q", x.text, first, why, second)
		}
		r, _ := bench.Parse(x.text)
		spoil(first)
		if second[0] != x.first || second[1] != x.second {
			t.Errorf("Tell of %q is %q, and behind changes of another answer %q", x.text, []string{x.first, x.second}, second)
		}
		// Neither what was answered nor what is asked between hangs on anything here.
		again := r
		r.Kinds[0], r.Rate, r.Jitter = 0, least, greatest
		bench.Tell(full[i%len(full)], x.ratio)
		bench.Tell("", 0)
		bench.Parse("copa ledbat 3 8")
		bench.Print(r)
		checkTell(t, x.text, x.ratio, x.first, x.second)
		checkParse(t, x.text, again, api.OK)
		checkPrint(t, again, x.text, api.OK)
	}
}

// Of a text that is a piece of a longer one nothing is looked at but the piece.
func TestParseOfAPieceOfALongerText(t *testing.T) {
	for _, x := range texts() {
		longer := "vegas " + x.text + " 3"
		got, why := bench.Parse(longer[len("vegas ") : len(longer)-len(" 3")])
		if got != x.r || why != api.OK {
			t.Errorf("Parse of %q out of %q is %v and %v", x.text, longer, got, why)
		}
	}
}

// longTexts are far longer than any text that has rules.
func longTexts() []string {
	const long = 1 << 24
	return []string{
		strings.Repeat(" ", long), strings.Repeat("x", long), strings.Repeat("7", long), strings.Repeat("copa ", long/5), strings.Repeat("3 ", long/2), strings.Repeat("\xff", long),
		"copa ledbat " + strings.Repeat("0", long) + "3 8 2", "copa ledbat 3 8 " + strings.Repeat("2", long), "copa ledbat 3 8 2" + strings.Repeat(" ", long), strings.Repeat("copa", long/4) + " ledbat 3 8 2",
	}
}

// TestAllEndSoon gives far more time than is needed, but not enough to go through all states of a duel that has too many.
func TestAllEndSoon(t *testing.T) {
	ended := make(chan struct{})
	go func() {
		defer close(ended)
		for _, s := range longTexts() {
			checkParse(t, s, api.Rules{}, api.ErrForm)
			checkNoLines(t, s, 1, api.ErrForm)
		}
		for _, s := range append(fullTexts(), "copa vegas 2 16 2", "vegas vegas 1 3 3", "vegas vegas 4 10 1") {
			for _, ratio := range append(rightRatios(), wrongRatios()...) {
				bench.Tell(s, ratio)
			}
		}
		for _, r := range append(wrongKinds(), wrongNumbers()...) {
			bench.Print(r)
		}
	}()
	select {
	case <-ended:
	case <-time.After(30 * time.Second):
		t.Fatal("not all is told within 30 seconds")
	}
}
