package words_test

import (
	"math"
	"math/big"
	"math/rand/v2"
	"slices"
	"strings"
	"testing"
	"unicode/utf8"
	"unsafe"

	"treadwheel/api"
	"treadwheel/words"
)

// The document's kinds of digits, written out one by one.
var digitsOfKinds = [][]rune{
	{0x30, 0x31, 0x32, 0x33, 0x34, 0x35, 0x36, 0x37, 0x38, 0x39},
	{0x660, 0x661, 0x662, 0x663, 0x664, 0x665, 0x666, 0x667, 0x668, 0x669},
	{0xFF10, 0xFF11, 0xFF12, 0xFF13, 0xFF14, 0xFF15, 0xFF16, 0xFF17, 0xFF18, 0xFF19},
}

const hardSpace = "\u00A0"

var blanks = []string{" ", "\t", hardSpace}

// brokenBytes are bytes that begin no rune: a byte that goes on with none, one
// that is cut off, runes that are written too long, halves of pairs, what is
// above the greatest rune, bytes that UTF-8 has nowhere.
var brokenBytes = []string{
	"\x80", "\xA0", "\xBF", "\xC2", "\xE2\x82", "\xF0\x9F\x98", "\xC0\xA0", "\xC1\xBF",
	"\xE0\x80\xA0", "\xED\xA0\x80", "\xED\xBF\xBF", "\xF4\x90\x80\x80", "\xF8", "\xFE", "\xFF",
	"\xEF\xBF", "\xEF", "\xBF\xBD", "\xC2 \xA0",
}

// plainDigits writes a decimal text in another kind's digits.
func plainDigits(decimal string, kind int) string {
	var b strings.Builder
	for _, c := range []byte(decimal) {
		b.WriteRune(digitsOfKinds[kind][c-'0'])
	}
	return b.String()
}

// plainLines takes the document's words on bytes, with the library's split.
func plainLines(s string) []string {
	pieces := strings.Split(s, "\n")
	if pieces[len(pieces)-1] == "" {
		pieces = pieces[:len(pieces)-1]
	}
	for i, p := range pieces {
		if p != "" && p[len(p)-1] == 13 {
			pieces[i] = p[:len(p)-1]
		}
	}
	return pieces
}

// plainWords takes the document's words on runes decoded one by one.
func plainWords(line string) ([]string, api.Errno) {
	var found []string
	word := ""
	for line != "" && line[0] != '#' {
		r, n := utf8.DecodeRuneInString(line)
		if r == 0xFFFD && n == 1 || r < 32 && r != 9 || r == 127 {
			return nil, api.ErrWord
		}
		if r == 32 || r == 9 || r == 160 {
			if word != "" {
				found = append(found, word)
			}
			word = ""
		} else {
			word += line[:n]
		}
		line = line[n:]
	}
	if word != "" {
		found = append(found, word)
	}
	return found, api.OK
}

// plainNumber takes the document's words on a big number.
func plainNumber(word string) (int64, api.Errno) {
	kinds := map[int]int{}
	decimal := ""
	for _, r := range word {
		kind := slices.IndexFunc(digitsOfKinds, func(l []rune) bool { return slices.Contains(l, r) })
		if kind < 0 {
			return 0, api.ErrWord
		}
		kinds[kind]++
		decimal += string(rune('0' + slices.Index(digitsOfKinds[kind], r)))
	}
	if len(kinds) != 1 || decimal[0] == '0' && len(decimal) > 1 {
		return 0, api.ErrWord
	}
	n, _ := new(big.Int).SetString(decimal, 10)
	if n.Cmp(new(big.Int).Lsh(big.NewInt(1), 62)) > 0 {
		return 0, api.ErrOver
	}
	return n.Int64(), api.OK
}

func mustBeLines(t *testing.T, s string, want ...string) {
	t.Helper()
	if got := words.Lines(s); !slices.Equal(got, want) {
		t.Errorf("Lines(%q): %q, not %q", s, got, want)
	}
}

func mustBeWords(t *testing.T, line string, want ...string) {
	t.Helper()
	got, errno := words.Words(line)
	if errno != api.OK || !slices.Equal(got, want) {
		t.Errorf("Words(%q): %q, %d, not %q", line, got, errno, want)
	}
}

func mustBeNoWords(t *testing.T, line string) {
	t.Helper()
	got, errno := words.Words(line)
	if errno != api.ErrWord || len(got) != 0 {
		t.Errorf("Words(%q): %q, %d, not ErrWord", line, got, errno)
	}
}

func mustBeNumber(t *testing.T, word string, want int64, wantErrno api.Errno) {
	t.Helper()
	got, errno := words.Number(word)
	if got != want || errno != wantErrno {
		t.Errorf("Number(%q): %d, %d, not %d, %d", word, got, errno, want, wantErrno)
	}
}

func mustPrint(t *testing.T, n int64, kind int, want string) {
	t.Helper()
	if got := words.Print(n, kind); got != want {
		t.Errorf("Print(%d, %d): %q, not %q", n, kind, got, want)
	}
}

// mustBeApart: is none of the answers a piece of what was handed in, or of
// another answer? (Of texts only their addresses tell.)
func mustBeApart(t *testing.T, given string, answers []string) {
	t.Helper()
	all := append([]string{given}, answers...)
	for i, a := range all {
		for _, b := range all[i+1:] {
			if a == "" || b == "" {
				continue
			}
			beginA, beginB := uintptr(unsafe.Pointer(unsafe.StringData(a))), uintptr(unsafe.Pointer(unsafe.StringData(b)))
			if beginA < beginB+uintptr(len(b)) && beginB < beginA+uintptr(len(a)) {
				t.Errorf("%q and %q share memory", a, b)
			}
		}
	}
}

// randomText is put together of some of the pieces.
func randomText(rnd *rand.Rand, pieces []string) string {
	var b strings.Builder
	for range rnd.IntN(12) {
		b.WriteString(pieces[rnd.IntN(len(pieces))])
	}
	return b.String()
}

// P3.1

func TestLinesOfTheExample(t *testing.T) {
	mustBeLines(t, "a\r\n\nb", "a", "", "b")
}

func TestLinesOfNothing(t *testing.T) {
	mustBeLines(t, "")
}

func TestLinesWithAndWithoutAnEnd(t *testing.T) {
	mustBeLines(t, "a", "a")
	mustBeLines(t, "a\n", "a")
	mustBeLines(t, "a\nb", "a", "b")
	mustBeLines(t, "a\nb\n", "a", "b")
	mustBeLines(t, " ", " ")
	mustBeLines(t, "a\n ", "a", " ")
}

func TestLinesOfEnds(t *testing.T) {
	mustBeLines(t, "\n", "")
	mustBeLines(t, "\n\n", "", "")
	mustBeLines(t, "\n\n\n", "", "", "")
	mustBeLines(t, "\na", "", "a")
	mustBeLines(t, "a\n\n", "a", "")
	mustBeLines(t, "a\n\n\nb", "a", "", "", "b")
}

func TestLinesWithBytes13(t *testing.T) {
	mustBeLines(t, "\r", "")
	mustBeLines(t, "\r\r", "\r")
	mustBeLines(t, "\r\n", "")
	mustBeLines(t, "\r\r\n", "\r")
	mustBeLines(t, "\r\n\r", "", "")
	mustBeLines(t, "\n\r", "", "")
	mustBeLines(t, "\n\r\n", "", "")
	mustBeLines(t, "a\r", "a")
	mustBeLines(t, "a\r\r", "a\r")
	mustBeLines(t, "a\r\n", "a")
	mustBeLines(t, "a\r\r\n", "a\r")
	mustBeLines(t, "a\rb\nc", "a\rb", "c")
	mustBeLines(t, "\ra\n\rb", "\ra", "\rb")
	mustBeLines(t, "a\r \r\nb", "a\r ", "b")
}

func TestLinesOfAnyCharacters(t *testing.T) {
	mustBeLines(t, "# a\x00\x0b\x0c\x7f\u0085\u2028\n\u2029", "# a\x00\x0b\x0c\x7f\u0085\u2028", "\u2029")
	mustBeLines(t, "\u010A\n\u0A0A\u0D0D", "\u010A", "\u0A0A\u0D0D")
	for _, b := range brokenBytes {
		mustBeLines(t, b+"\n"+b+"\r\n"+b, b, b, b)
	}
}

func TestLinesOfRandomTexts(t *testing.T) {
	rnd := rand.New(rand.NewPCG(3, 1))
	pieces := append([]string{"\n", "\n", "\r", "\r", "\r\n", "a", " ", "#", "\uFFFD", "\U0001F600"}, brokenBytes...)
	for range 20000 {
		s := randomText(rnd, pieces)
		mustBeLines(t, s, plainLines(s)...)
	}
}

func TestLinesAreNewMemory(t *testing.T) {
	s := strings.Repeat("ab\ncd\r\n\n\r", 5) + "ef"
	lines := words.Lines(s)
	mustBeApart(t, s, append(lines, words.Lines(s)...))
	for i := range lines[:cap(lines)] {
		lines[:cap(lines)][i] = "x"
	}
	mustBeLines(t, s, plainLines(s)...)
	mustBeApart(t, "a line alone", words.Lines("a line alone"))
}

// P3.2

func TestWordsOfTheExample(t *testing.T) {
	mustBeWords(t, " a\u00A0b # c", "a", "b")
	mustBeWords(t, " a "+hardSpace+" b # c", "a", "b")
}

func TestWordsOfNothing(t *testing.T) {
	mustBeWords(t, "")
	for _, a := range blanks {
		mustBeWords(t, a)
		for _, b := range blanks {
			mustBeWords(t, a+b)
			mustBeWords(t, a+b+"#a")
		}
	}
}

func TestWordsAndEachBlank(t *testing.T) {
	for _, a := range blanks {
		mustBeWords(t, a+"x", "x")
		mustBeWords(t, "x"+a, "x")
		mustBeWords(t, "x"+a+"yz", "x", "yz")
		for _, b := range blanks {
			mustBeWords(t, a+b+"x", "x")
			mustBeWords(t, "x"+a+b, "x")
			mustBeWords(t, "x"+a+b+"yz", "x", "yz")
			mustBeWords(t, a+"x"+b+"yz"+a, "x", "yz")
		}
	}
}

func TestWordsOfOtherGaps(t *testing.T) {
	for _, gap := range []string{"\u0080", "\u0085", "\u009F", "\u00A1", "\u00AD", "\u1680", "\u2003", "\u2028", "\u202F", "\u3000", "\uFEFF"} {
		mustBeWords(t, "a"+gap+"b", "a"+gap+"b")
		mustBeWords(t, gap, gap)
		mustBeWords(t, "a "+gap+" b", "a", gap, "b")
	}
}

func TestWordsAndRemarks(t *testing.T) {
	mustBeWords(t, "#")
	mustBeWords(t, "# a b")
	mustBeWords(t, "#a#b")
	mustBeWords(t, "a#b", "a")
	mustBeWords(t, "a#b c", "a")
	mustBeWords(t, "a # b # c", "a")
	mustBeWords(t, "a b#", "a", "b")
	for _, b := range blanks {
		mustBeWords(t, b+"#a")
		mustBeWords(t, "a"+b+"#b", "a")
		mustBeWords(t, "a"+b+"b#"+b+"c", "a", "b")
	}
	mustBeWords(t, "a\uFF03b", "a\uFF03b")
}

func TestWordsAndBrokenCharacters(t *testing.T) {
	for _, b := range brokenBytes {
		mustBeNoWords(t, b)
		mustBeNoWords(t, "a"+b)
		mustBeNoWords(t, b+"a")
		mustBeNoWords(t, "a "+b+" c")
		mustBeNoWords(t, b+"#")
		mustBeNoWords(t, "a b"+b+"# c")
		mustBeNoWords(t, "\uFFFD"+b)
		mustBeNoWords(t, b+"\uFFFD")
		mustBeWords(t, "#"+b)
		mustBeWords(t, "a #"+b, "a")
		mustBeWords(t, "a# c "+b+" # d", "a")
	}
}

func TestWordsAndTheRuneFFFD(t *testing.T) {
	mustBeWords(t, "\uFFFD", "\uFFFD")
	mustBeWords(t, "\xEF\xBF\xBD", "\uFFFD")
	mustBeWords(t, "a\uFFFD \uFFFDb \uFFFD\uFFFD", "a\uFFFD", "\uFFFDb", "\uFFFD\uFFFD")
	mustBeWords(t, "\uFFFD#\xFF", "\uFFFD")
}

func TestWordsAndLowCharacters(t *testing.T) {
	var low []rune
	for r := range rune(0x20) {
		low = append(low, r)
	}
	for _, r := range append(low, 0x7F) {
		c := string(r)
		mustBeWords(t, "a #"+c, "a")
		mustBeWords(t, "a#"+c+"b", "a")
		mustBeWords(t, "#"+c)
		if r == 9 {
			mustBeWords(t, c)
			mustBeWords(t, "a"+c+"b", "a", "b")
			mustBeWords(t, "a"+c+"#", "a")
			continue
		}
		mustBeNoWords(t, c)
		mustBeNoWords(t, "a"+c+"b")
		mustBeNoWords(t, "a "+c)
		mustBeNoWords(t, c+"#")
		mustBeNoWords(t, "a b "+c+"# c")
	}
	for _, r := range []rune{0x21, 0x7E, 0x80, 0x9F, 0xA1, 0x10FFFF} {
		mustBeWords(t, "a "+string(r), "a", string(r))
	}
}

func TestWordsOfRandomLines(t *testing.T) {
	rnd := rand.New(rand.NewPCG(3, 2))
	pieces := append([]string{"a", "bc", "\u00E4", "\uFFFD", "\U0001F600", "\u0661", " ", "\t", hardSpace, " "}, "#")
	bad := append(slices.Clone(brokenBytes), "\x00", "\n", "\r", "\x1F", "\x7F")
	good := 0
	for range 30000 {
		line := randomText(rnd, pieces)
		if rnd.IntN(3) == 0 {
			line += bad[rnd.IntN(len(bad))] + randomText(rnd, pieces)
		}
		want, wantErrno := plainWords(line)
		got, errno := words.Words(line)
		if errno != wantErrno || !slices.Equal(got, want) {
			t.Fatalf("Words(%q): %q, %d, not %q, %d", line, got, errno, want, wantErrno)
		}
		if errno == api.OK {
			good++
		}
	}
	if good < 10000 || good > 29000 {
		t.Errorf("%d lines of 30000 are good: too few of a kind", good)
	}
}

func TestWordsAreNewMemory(t *testing.T) {
	line := "ab cd\tef" + hardSpace + "gh # ij"
	first, _ := words.Words(line)
	second, _ := words.Words(line)
	mustBeApart(t, line, append(slices.Clone(first), second...))
	for i := range first[:cap(first)] {
		first[:cap(first)][i] = "x"
	}
	mustBeWords(t, line, second...)
	alone, _ := words.Words("alone")
	mustBeApart(t, "alone", alone)
}

// P3.3

func TestDigitOfEachKind(t *testing.T) {
	for _, digits := range digitsOfKinds {
		for value, r := range digits {
			if got := words.Digit(r); got != value {
				t.Errorf("Digit(%X): %d, not %d", r, got, value)
			}
		}
	}
}

func TestDigitJustBeside(t *testing.T) {
	for _, r := range []rune{0x2F, 0x3A, 0x65F, 0x66A, 0xFF0F, 0xFF1A} {
		if got := words.Digit(r); got != -1 {
			t.Errorf("Digit(%X): %d", r, got)
		}
	}
}

func TestDigitOfNoRune(t *testing.T) {
	for _, r := range []rune{-1, -0x30, math.MinInt32, math.MinInt32 + 0x30, math.MinInt32 + 0xFF10, 0, 0x10FFFF, 0x110000, math.MaxInt32, 0xD800, 0xFFFD} {
		if got := words.Digit(r); got != -1 {
			t.Errorf("Digit(%X): %d", r, got)
		}
	}
}

func TestDigitOfAllRunes(t *testing.T) {
	found := 0
	for r := rune(-70000); r <= 0x110000; r++ {
		if words.Digit(r) != -1 {
			found++
		}
	}
	if found != 30 {
		t.Errorf("%d digits", found)
	}
}

// P3.4

func TestNumberOfTheExamples(t *testing.T) {
	mustBeNumber(t, "12", 12, api.OK)
	mustBeNumber(t, "\u0661\u0662", 12, api.OK)
	mustBeNumber(t, "\u06612", 0, api.ErrWord)
	mustBeNumber(t, "01", 0, api.ErrWord)
	mustBeNumber(t, "", 0, api.ErrWord)
	mustBeNumber(t, "4611686018427387905", 0, api.ErrOver)
}

func TestNumberOfEachKind(t *testing.T) {
	for kind := range digitsOfKinds {
		for _, decimal := range []string{"00", "01", "007", "00000000000000000000000", "04611686018427387905"} {
			mustBeNumber(t, plainDigits(decimal, kind), 0, api.ErrWord)
		}
		for decimal, want := range map[string]int64{
			"0": 0, "1": 1, "9": 9, "10": 10, "100": 100, "1234567890": 1234567890,
			"4611686018427387899": 1<<62 - 5, "4611686018427387903": 1<<62 - 1, "4611686018427387904": 1 << 62,
			"999999999999999999": 999999999999999999, "1000000000000000000": 1000000000000000000,
		} {
			mustBeNumber(t, plainDigits(decimal, kind), want, api.OK)
		}
		for _, decimal := range []string{
			"4611686018427387905", "4611686018427387909", "4611686018427387910", "4611686018427387999", "4700000000000000000", "5000000000000000000",
			"9223372036854775807", "9223372036854775808", "9999999999999999999", "10000000000000000000",
			"18446744073709551615", "18446744073709551616", "18446744073709551617", "46116860184273879040",
			"184467440737095516160", "340282366920938463463374607431768211456", "1" + strings.Repeat("0", 5000),
		} {
			mustBeNumber(t, plainDigits(decimal, kind), 0, api.ErrOver)
		}
	}
}

func TestNumberOfTwoKinds(t *testing.T) {
	for a := range digitsOfKinds {
		for b := range digitsOfKinds {
			if a == b {
				continue
			}
			for _, d := range []string{"0", "1"} {
				mustBeNumber(t, plainDigits("1", a)+plainDigits(d, b), 0, api.ErrWord)
				mustBeNumber(t, plainDigits(d, a)+plainDigits("0", b), 0, api.ErrWord)
				mustBeNumber(t, plainDigits("12", a)+plainDigits(d, b)+plainDigits("3", a), 0, api.ErrWord)
			}
		}
	}
}

func TestNumberOfOtherWords(t *testing.T) {
	for _, word := range []string{
		"a", "-", "-1", "-0", "+1", " 1", "1 ", "1 2", "1_0", "0x1", "1.0", "1a", "a1", "12a34", "1#", "#", "\n", "1\n", "\x00",
		"\u066B", "\u066A", "\u06F1", "\u0967", "\uFF1A", "\U0001D7CF", "\u00B2", "\uFFFD", "1\uFFFD",
	} {
		mustBeNumber(t, word, 0, api.ErrWord)
	}
	for _, b := range brokenBytes {
		mustBeNumber(t, b, 0, api.ErrWord)
		mustBeNumber(t, "1"+b, 0, api.ErrWord)
		mustBeNumber(t, b+"1", 0, api.ErrWord)
		mustBeNumber(t, "1"+b+"2", 0, api.ErrWord)
	}
	for _, cut := range []string{"\xD9", "\xEF\xBC"} { // digits of kinds 1 and 2, without their last bytes
		mustBeNumber(t, cut, 0, api.ErrWord)
		mustBeNumber(t, plainDigits("1", 1)+cut, 0, api.ErrWord)
	}
}

func TestNumberJustBesideTheDigits(t *testing.T) {
	for kind, digits := range digitsOfKinds {
		for _, beside := range []string{string(digits[0] - 1), string(digits[9] + 1)} {
			mustBeNumber(t, beside, 0, api.ErrWord)
			mustBeNumber(t, plainDigits("1", kind)+beside, 0, api.ErrWord)
			mustBeNumber(t, beside+plainDigits("1", kind), 0, api.ErrWord)
		}
	}
}

func TestNumberIsAWordAheadOfAll(t *testing.T) {
	great := "99999999999999999999999999"
	for _, tail := range []string{"a", "\u0660", "\xFF", " "} {
		mustBeNumber(t, great+tail, 0, api.ErrWord)
	}
	mustBeNumber(t, "0"+great, 0, api.ErrWord)
	mustBeNumber(t, great, 0, api.ErrOver)
}

func TestNumberOfRandomWords(t *testing.T) {
	rnd := rand.New(rand.NewPCG(3, 4))
	seen := map[api.Errno]int{}
	for range 30000 {
		word := randomWord(rnd)
		want, wantErrno := plainNumber(word)
		mustBeNumber(t, word, want, wantErrno)
		seen[wantErrno]++
	}
	for _, errno := range []api.Errno{api.OK, api.ErrWord, api.ErrOver} {
		if seen[errno] < 1000 {
			t.Errorf("only %d words of error %d", seen[errno], errno)
		}
	}
}

// randomWord is mostly a row of digits of one kind.
func randomWord(rnd *rand.Rand) string {
	kind := rnd.IntN(3)
	var b strings.Builder
	for range rnd.IntN(24) {
		k := kind
		if rnd.IntN(40) == 0 {
			k = rnd.IntN(3)
		}
		b.WriteRune(digitsOfKinds[k][rnd.IntN(10)])
		if rnd.IntN(60) == 0 {
			b.WriteString([]string{"a", "\xFF", "\uFFFD", " "}[rnd.IntN(4)])
		}
	}
	return b.String()
}

// P3.5

func TestPrintOfEachKind(t *testing.T) {
	for kind := range digitsOfKinds {
		for decimal, n := range map[string]int64{
			"0": 0, "1": 1, "9": 9, "10": 10, "1234567890": 1234567890,
			"4611686018427387904": 1 << 62, "4611686018427387905": 1<<62 + 1, "9223372036854775807": math.MaxInt64,
		} {
			mustPrint(t, n, kind, plainDigits(decimal, kind))
		}
	}
	mustPrint(t, 120, 0, "120")
	mustPrint(t, 120, 1, "\u0661\u0662\u0660")
	mustPrint(t, 120, 2, "\uFF11\uFF12\uFF10")
}

func TestPrintOfNoKind(t *testing.T) {
	for _, kind := range []int{-1, -2, 3, 4, 48, math.MinInt, math.MaxInt, math.MinInt32, math.MaxInt32, 1 << 32} {
		for _, n := range []int64{0, 7, math.MaxInt64, -1} {
			mustPrint(t, n, kind, "")
		}
	}
}

func TestPrintBelowNought(t *testing.T) {
	for kind := range digitsOfKinds {
		for _, n := range []int64{-1, -9, -10, -math.MaxInt64, math.MinInt64} {
			mustPrint(t, n, kind, "")
		}
	}
}

// P3.6

func TestPrintedIsReadAsItWas(t *testing.T) {
	rnd := rand.New(rand.NewPCG(3, 6))
	numbers := []int64{0, 1, 9, 10, 11, 99, 100, 1<<62 - 1, 1 << 62}
	for shift := range 62 {
		numbers = append(numbers, 1<<shift, rnd.Int64()>>(shift+1))
	}
	for _, n := range numbers {
		for kind := range 3 {
			mustBeNumber(t, words.Print(n, kind), n, api.OK)
		}
	}
	for kind := range 3 {
		mustBeNumber(t, words.Print(1<<62+1, kind), 0, api.ErrOver)
		mustBeNumber(t, words.Print(math.MaxInt64, kind), 0, api.ErrOver)
	}
}

func TestReadIsPrintedAsTheSameWord(t *testing.T) {
	rnd := rand.New(rand.NewPCG(3, 7))
	read := 0
	for range 30000 {
		word := randomWord(rnd)
		n, errno := words.Number(word)
		if errno != api.OK {
			continue
		}
		read++
		first, _ := utf8.DecodeRuneInString(word)
		kind := slices.IndexFunc(digitsOfKinds, func(l []rune) bool { return slices.Contains(l, first) })
		mustPrint(t, n, kind, word)
	}
	if read < 1000 {
		t.Errorf("only %d words were read", read)
	}
}

func TestWordsOfALineAreItsWordsAgain(t *testing.T) {
	rnd := rand.New(rand.NewPCG(3, 8))
	pieces := []string{"a", "bc", "\u00E4", "\uFFFD", "\U0001F600", "\u0085", " ", "\t", hardSpace, " ", "#"}
	for range 10000 {
		line := randomText(rnd, pieces)
		found, errno := words.Words(line)
		if errno != api.OK {
			t.Fatalf("Words(%q): %d", line, errno)
		}
		for _, blank := range blanks {
			mustBeWords(t, strings.Join(found, blank), found...)
		}
	}
}

func TestLinesAreTheSameLinesAgain(t *testing.T) {
	rnd := rand.New(rand.NewPCG(3, 9))
	pieces := append([]string{"\n", "\n", "\r\n", "\r", "a", "\rb", " ", "\uFFFD"}, brokenBytes...)
	held := 0
	for range 10000 {
		lines := words.Lines(randomText(rnd, pieces))
		if slices.ContainsFunc(lines, func(l string) bool { return strings.HasSuffix(l, "\r") }) {
			continue
		}
		held++
		var text strings.Builder
		for _, l := range lines {
			text.WriteString(l + "\n")
		}
		mustBeLines(t, text.String(), lines...)
	}
	if held < 1000 {
		t.Errorf("only %d texts", held)
	}
}
