package bench_test

import (
	"fmt"
	"math"
	"strings"
	"testing"

	"tidewait/api"
	"tidewait/bench"
	"tidewait/duel"
)

const (
	least    = math.MinInt
	greatest = math.MaxInt
	fastest  = api.MaxWindow
	roomiest = api.MaxBuffer
	latest   = api.MaxJitter
	maxRatio = 100

	v = api.Vegas
	c = api.Copa
	l = api.Ledbat
)

type pair = [2]int

func row(l ...int) []int { return l }

func rulesOf(kinds pair, rate, buffer, jitter int) api.Rules {
	return api.Rules{Kinds: kinds, Rate: rate, Buffer: buffer, Jitter: jitter}
}

// allKinds is each pair of kinds that there is.
func allKinds() []pair {
	return []pair{{v, v}, {v, c}, {v, l}, {c, v}, {c, c}, {c, l}, {l, v}, {l, c}, {l, l}}
}

// allRules is all that may be printed, and the text of each.
func allRules(yield func(api.Rules, string) bool) {
	names := map[int]string{v: "vegas", c: "copa", l: "ledbat"}
	for _, kinds := range allKinds() {
		for rate := 1; rate <= fastest; rate++ {
			for buffer := 0; buffer <= roomiest; buffer++ {
				for jitter := 0; jitter <= latest; jitter++ {
					text := fmt.Sprintf("%s %s %d %d %d", names[kinds[0]], names[kinds[1]], rate, buffer, jitter)
					if !yield(rulesOf(kinds, rate, buffer, jitter), text) {
						return
					}
				}
			}
		}
	}
}

// byText is all rules that may be printed, by their texts.
func byText() map[string]api.Rules {
	out := map[string]api.Rules{}
	for r, text := range allRules {
		out[text] = r
	}
	return out
}

func checkPrint(t *testing.T, r api.Rules, want string, errno api.Errno) {
	t.Helper()
	if got, why := bench.Print(r); got != want || why != errno {
		t.Errorf("Print of %v is %q and %v, not %q and %v", r, got, why, want, errno)
	}
}

func checkParse(t *testing.T, s string, want api.Rules, errno api.Errno) {
	t.Helper()
	if got, why := bench.Parse(s); got != want || why != errno {
		t.Errorf("Parse of %.60q is %v and %v, not %v and %v", s, got, why, want, errno)
	}
}

// wrongKinds have a kind that there is not, alone and beside numbers out of their bounds.
func wrongKinds() []api.Rules {
	out := []api.Rules{{}}
	for _, kinds := range allKinds() {
		for _, none := range row(0, l+1, -1, -v, 100, least, greatest, 1<<32+v, 1<<8+c) {
			for _, wrong := range []pair{{none, kinds[1]}, {kinds[0], none}, {none, none}} {
				out = append(out, rulesOf(wrong, 3, 8, 2), rulesOf(wrong, 0, 8, 2), rulesOf(wrong, 3, -1, latest+1), rulesOf(wrong, greatest, least, greatest))
			}
		}
	}
	return out
}

// wrongNumbers have numbers next to their bounds, and far out of them, each one alone and all at once.
func wrongNumbers() []api.Rules {
	var out []api.Rules
	for _, kinds := range allKinds() {
		for _, rate := range row(0, fastest+1, -1, -3, least, greatest, 1<<32+3, 1<<8+3) {
			out = append(out, rulesOf(kinds, rate, 8, 2), rulesOf(kinds, rate, 0, 0), rulesOf(kinds, rate, -1, latest+1))
		}
		for _, buffer := range row(-1, roomiest+1, -8, least, greatest, 1<<32, 1<<8+8) {
			out = append(out, rulesOf(kinds, 3, buffer, 2), rulesOf(kinds, 1, buffer, 0), rulesOf(kinds, fastest, buffer, latest))
		}
		for _, jitter := range row(-1, latest+1, -2, least, greatest, 1<<32, 1<<8+2) {
			out = append(out, rulesOf(kinds, 3, 8, jitter), rulesOf(kinds, 1, 0, jitter), rulesOf(kinds, fastest, roomiest, jitter))
		}
	}
	return out
}

func TestPrintOfWrongRules(t *testing.T) {
	for _, r := range wrongKinds() {
		checkPrint(t, r, "", api.ErrKind)
	}
	for _, r := range wrongNumbers() {
		checkPrint(t, r, "", api.ErrRange)
	}
	for _, r := range append(wrongKinds(), wrongNumbers()...) {
		checkPrint(t, r, "", duel.Wrong(r))
	}
}

// texts is each pair of kinds, each number at both its bounds, and numbers of one and of two digits.
func texts() []struct {
	r    api.Rules
	text string
} {
	return []struct {
		r    api.Rules
		text string
	}{
		{rulesOf(pair{c, l}, 3, 8, 2), "copa ledbat 3 8 2"},
		{rulesOf(pair{v, v}, 1, 0, 0), "vegas vegas 1 0 0"},
		{rulesOf(pair{v, c}, 12, 16, 3), "vegas copa 12 16 3"},
		{rulesOf(pair{v, l}, 1, 16, 0), "vegas ledbat 1 16 0"},
		{rulesOf(pair{c, v}, 12, 0, 3), "copa vegas 12 0 3"},
		{rulesOf(pair{c, c}, 1, 0, 3), "copa copa 1 0 3"},
		{rulesOf(pair{c, l}, 12, 16, 0), "copa ledbat 12 16 0"},
		{rulesOf(pair{l, v}, 1, 16, 3), "ledbat vegas 1 16 3"},
		{rulesOf(pair{l, c}, 12, 0, 0), "ledbat copa 12 0 0"},
		{rulesOf(pair{l, l}, 12, 16, 3), "ledbat ledbat 12 16 3"},
		{rulesOf(pair{v, v}, 9, 9, 1), "vegas vegas 9 9 1"},
		{rulesOf(pair{c, v}, 10, 10, 1), "copa vegas 10 10 1"},
		{rulesOf(pair{l, v}, 11, 11, 2), "ledbat vegas 11 11 2"},
		{rulesOf(pair{v, l}, 2, 1, 0), "vegas ledbat 2 1 0"},
		{rulesOf(pair{l, l}, 7, 15, 2), "ledbat ledbat 7 15 2"},
	}
}

func TestTexts(t *testing.T) {
	for _, x := range texts() {
		checkPrint(t, x.r, x.text, api.OK)
		checkParse(t, x.text, x.r, api.OK)
	}
}

func TestAllRules(t *testing.T) {
	number := 0
	for r, text := range allRules {
		number++
		checkPrint(t, r, text, api.OK)
		checkParse(t, text, r, api.OK)
	}
	if number != 9*fastest*(roomiest+1)*(latest+1) {
		t.Errorf("there are %v rules", number)
	}
	if len(byText()) != number {
		t.Errorf("%v rules have %v texts", number, len(byText()))
	}
}

// wrongTexts are no Print of any rules.
func wrongTexts() []string {
	out := []string{
		"", " ", "    ", "     ", "\x00", "vegas", "3", "0", "-",
		// Fewer words than five, and more.
		"copa ledbat", "copa ledbat 3", "copa ledbat 3 8", "ledbat 3 8 2", "copa 3 8 2", "3 8 2", "copa ledbat 3 8 2 0", "copa ledbat 3 8 2 2", "vegas copa ledbat 3 8 2", "copa ledbat 3 8 2 copa ledbat 3 8 2",
		// No blank, two blanks, and a blank ahead or behind.
		"copaledbat382", "copaledbat 3 8 2", "copa ledbat3 8 2", "copa ledbat 38 2", "copa ledbat 3 82", "copa  ledbat 3 8 2", "copa ledbat  3 8 2", "copa ledbat 3  8 2", "copa ledbat 3 8  2", "copa  ledbat  3  8  2", " copa ledbat 3 8 2", "copa ledbat 3 8 2 ", " copa ledbat 3 8 2 ", "  copa ledbat 3 8 2", "copa ledbat 3 8 2  ", "copa ledbat 3 8 ", " copa ledbat 3 8", "copa ledbat  8 2", "copa  3 8 2", " ledbat 3 8 2",
		// Words in another order.
		"3 8 2 copa ledbat", "copa 3 ledbat 8 2", "copa ledbat 8 3 copa", "3 ledbat copa 8 2", "copa 3 8 2 ledbat",
		// What is not seen, or looks the same.
		"\ufeffcopa ledbat 3 8 2", "copa ledbat 3 8 2\x00", "copa\u200b ledbat 3 8 2", "с" + "opa ledbat 3 8 2", "vega\u017f copa 3 8 2", "ｃｏｐａ ledbat 3 8 2", "copa ledbat ３ 8 2", "copa ledbat \u0663 8 2", "copa ledbat 3 \u096e 2", "copa ledbat 3 8 ²",
		// Bytes that are no letters at all.
		"\xff", "\xff\xfe\xfd", "\xff \xff \xff \xff \xff", "copa ledbat 3 8 \xff", "\xc3 ledbat 3 8 2", "copa\xff ledbat 3 8 2", "copa ledbat 3\xff 8 2", "copa ledbat 3 8 2\x80", "\x00 \x00 \x00 \x00 \x00", "copa ledbat \x03 \x08 \x02", "\x02 \x03 3 8 2", "copa\xa0ledbat\xa03\xa08\xa02",
		"copa,ledbat,3,8,2", "{[2 3] 3 8 2}", "2 3 3 8 2", "copa ledbat rate buffer jitter", `"copa ledbat 3 8 2"`,
	}
	for _, space := range []string{"\t", "\n", "\r", "\v", "\f", "\r\n", "\u0085", "\u00a0", "\u2003", "\u3000"} {
		out = append(out, space+"copa ledbat 3 8 2", "copa ledbat 3 8 2"+space, "copa"+space+"ledbat 3 8 2", "copa ledbat"+space+"3 8 2", "copa ledbat 3"+space+"8 2", "copa ledbat 3 8"+space+"2", "copa "+space+"ledbat 3 8 2", strings.ReplaceAll("copa ledbat 3 8 2", " ", space))
	}
	return out
}

// wrongWords are none of a kind's.
func wrongWords() []string {
	return []string{
		"", "Vegas", "VEGAS", "vegaS", "Copa", "COPA", "cOpa", "Ledbat", "LEDBAT", "ledBat",
		"reno", "cubic", "bbr", "none", "tcp", "vega", "vegass", "cop", "copaa", "ledba", "ledbatt", "egas", "opa", "edbat", "vegascopa", "copa-", "-copa", "c opa", "v", "c", "l",
		"0", "1", "2", "3", "4", "-1", "\x00", "\x01", "\xff", "\x00copa", "copa\x00", "\xffledbat", "“copa”",
	}
}

// wrongSpellings are of the number 3, but not its Print, or of none.
func wrongSpellings() []string {
	return []string{
		"", "+3", "-3", "--3", "+-3", "03", "003", "+03", "0003", strings.Repeat("0", 40) + "3", "00", "000", "-0", "+0", "-00", "01", "012",
		"3.", "3.0", ".3", "3,0", "3_0", "0_3", "_3", "3_", "1_2", "3e0", "3E0", "1e1", "0x3", "0X3", "0b1", "0o3", "x3", "3x", "1x2", "1-2", "1+2", "1:2", "1/2", "1\x002", "1\xff2", "1'2", "3-", "3+", "3\x00", "\x003", "\xff3", "3\xff",
		"x", "-", "+", "_", ".", "three", "III", "vegas", "copa", "nil", "NaN", "Inf", "inf", "true", "３", "１２", "\u0663", "²",
	}
}

// wrongNumberWords are numbers below and above what there may be of any, also such as are longer than any int, and come to small ones where they go round.
func wrongNumberWords() []string {
	out := []string{
		"-1", "-2", "-12", "-16", "17", "18", "20", "22", "30", "99", "100", "101", "111", "116", "120", "160", "255", "256", "257", "259", "65536", "65539", "4294967295", "4294967296", "4294967297", "4294967299",
		"9223372036854775807", "-9223372036854775808", "9223372036854775808", "-9223372036854775809", "18446744073709551615", "18446744073709551616", "18446744073709551617", "18446744073709551618", "18446744073709551619", "-18446744073709551613", "36893488147419103235",
		"340282366920938463463374607431768211456", "340282366920938463463374607431768211459",
	}
	for _, digit := range []string{"1", "3", "9"} {
		out = append(out, strings.Repeat(digit, 30), strings.Repeat(digit, 1000), "1"+strings.Repeat("0", 30)+digit)
	}
	return out
}

func TestParseOfWrongTexts(t *testing.T) {
	for _, s := range wrongTexts() {
		checkParse(t, s, api.Rules{}, api.ErrForm)
	}
}

func TestParseOfWrongKinds(t *testing.T) {
	for _, word := range wrongWords() {
		for _, other := range append(wrongWords(), "vegas", "copa", "ledbat") {
			for _, numbers := range []string{"3 8 2", "1 0 0", "12 16 3", "13 16 3"} {
				checkParse(t, word+" "+other+" "+numbers, api.Rules{}, api.ErrForm)
				checkParse(t, other+" "+word+" "+numbers, api.Rules{}, api.ErrForm)
			}
		}
	}
}

func TestParseOfWrongNumbers(t *testing.T) {
	for _, word := range append(wrongSpellings(), wrongNumberWords()...) {
		for _, other := range []string{"1", "3", word} {
			checkParse(t, "copa ledbat "+word+" "+other+" "+other, api.Rules{}, api.ErrForm)
			checkParse(t, "copa ledbat "+other+" "+word+" "+other, api.Rules{}, api.ErrForm)
			checkParse(t, "copa ledbat "+other+" "+other+" "+word, api.Rules{}, api.ErrForm)
		}
	}
}

// Each of the three has bounds of its own.
func TestParseAtTheBounds(t *testing.T) {
	known := byText()
	for n := -30; n <= 130; n++ {
		for _, form := range []string{"vegas copa %d 0 0", "ledbat vegas %d 16 3", "vegas copa 1 %d 0", "ledbat vegas 12 %d 3", "vegas copa 1 0 %d", "ledbat vegas 12 16 %d"} {
			checkKnown(t, known, fmt.Sprintf(form, n))
		}
		for m := -3; m <= 20; m++ {
			checkKnown(t, known, fmt.Sprintf("copa copa %d %d 2", n, m))
			checkKnown(t, known, fmt.Sprintf("copa copa 2 %d %d", n, m))
			checkKnown(t, known, fmt.Sprintf("copa copa %d 2 %d", n, m))
		}
	}
	for _, s := range []string{"copa copa 0 8 2", "copa copa 13 8 2", "copa copa 3 -1 2", "copa copa 3 17 2", "copa copa 3 8 -1", "copa copa 3 8 4"} {
		checkParse(t, s, api.Rules{}, api.ErrForm)
	}
}

// checkKnown sees that a text has its rules if it is one of those that are known, and none else.
func checkKnown(t *testing.T, known map[string]api.Rules, s string) {
	t.Helper()
	if r, ok := known[s]; ok {
		checkParse(t, s, r, api.OK)
	} else {
		checkParse(t, s, api.Rules{}, api.ErrForm)
	}
}

// changed is all texts in which one byte is taken out, or one of these is laid in, or takes the place of another.
func changed(s string, bytes []byte) func(yield func(string) bool) {
	return func(yield func(string) bool) {
		for at := range len(s) + 1 {
			if at < len(s) && !yield(s[:at]+s[at+1:]) {
				return
			}
			for _, b := range bytes {
				in := string([]byte{b})
				if !yield(s[:at]+in+s[at:]) || at < len(s) && !yield(s[:at]+in+s[at+1:]) {
					return
				}
			}
		}
	}
}

func TestParseWithOneByteChanged(t *testing.T) {
	known := byText()
	var every []byte
	for b := range 256 {
		every = append(every, byte(b))
	}
	for _, x := range texts() {
		for s := range changed(x.text, every) {
			checkKnown(t, known, s)
		}
	}
	for _, text := range allRules {
		for s := range changed(text, []byte(" 019-+\t\x00\xff")) {
			checkKnown(t, known, s)
		}
	}
}

// All that begins as a text does, or ends so, and is no text itself.
func TestParseOfPieces(t *testing.T) {
	known := byText()
	for _, text := range allRules {
		for at := range len(text) + 1 {
			checkKnown(t, known, text[:at])
			checkKnown(t, known, text[at:])
		}
		checkKnown(t, known, text+text)
		checkKnown(t, known, text+" "+text)
		checkKnown(t, known, strings.ToUpper(text))
	}
}
