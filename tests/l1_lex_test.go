package tests

import (
	"math/rand"
	"slices"
	"strconv"
	"strings"
	"testing"
	"unsafe"

	"loop.example/smithy/impl"
)

func TestLexLimits(t *testing.T) {
	if impl.LexMaxText != 4000 || impl.LexMaxTokens != 1500 || impl.LexMaxName != 8 {
		t.Error(impl.LexMaxText, impl.LexMaxTokens, impl.LexMaxName)
	}
}

func checkCut(t *testing.T, text string, want []string) {
	t.Helper()
	got, ok := impl.LexCut(text)
	if !ok || !slices.Equal(got, want) {
		t.Errorf("LexCut(%.80q) = %.80q, %v; want %.80q", text, got, ok, want)
	}
}

func checkUncut(t *testing.T, text string) {
	t.Helper()
	if got, ok := impl.LexCut(text); ok || len(got) != 0 {
		t.Errorf("LexCut(%.80q) of %d bytes = %.80q, %v; want nothing and false", text, len(text), got, ok)
	}
}

func TestLexCut(t *testing.T) {
	for _, c := range []struct {
		text string
		want []string
	}{
		{"", nil},
		{" ", nil},
		{"\n \n\n  ", nil},
		{"a", []string{"a"}},
		{"  a\nb  ", []string{"a", "b"}},
		{"a\nb c\n", []string{"a", "b", "c"}},
		{"()", []string{"(", ")"}},
		{"((", []string{"(", "("}},
		{"))", []string{")", ")"}},
		{")(", []string{")", "("}},
		{"(()())", []string{"(", "(", ")", "(", ")", ")"}},
		{"a(b)c", []string{"a", "(", "b", ")", "c"}},
		{"(a)(b)", []string{"(", "a", ")", "(", "b", ")"}},
		{"( a )\n( b )", []string{"(", "a", ")", "(", "b", ")"}},
		{"[a]{b}<c>", []string{"[a]{b}<c>"}},
		{"lib.sum,-12;\"'`\\", []string{"lib.sum,-12;\"'`\\"}},
		{"(+ x -12)", []string{"(", "+", "x", "-12", ")"}},
		{"(pub f ((x int)) bool (<= x 3))", []string{"(", "pub", "f", "(", "(", "x", "int", ")", ")", "bool", "(", "<=", "x", "3", ")", ")"}},
	} {
		checkCut(t, c.text, c.want)
	}
}

// Each of the 256 bytes, wherever it stands.
func TestLexCutBytes(t *testing.T) {
	for b := range 256 {
		s := string([]byte{byte(b)})
		switch {
		case b == ' ' || b == '\n':
			checkCut(t, s, nil)
			checkCut(t, "a"+s+"b", []string{"a", "b"})
		case b == '(' || b == ')':
			checkCut(t, s, []string{s})
			checkCut(t, "a"+s+"b", []string{"a", s, "b"})
		case b >= 33 && b <= 126:
			checkCut(t, s, []string{s})
			checkCut(t, "a"+s+"b", []string{"a" + s + "b"})
		default:
			for _, text := range []string{s, "a" + s + "b", s + "ab", "ab" + s, "(" + s + ")", " " + s + " ", strings.Repeat("a ", 1400) + s} {
				checkUncut(t, text)
			}
		}
	}
	for _, text := range []string{"é", "a\u00a0b", "日本", "(\u2028)", "a\xffb", "\xc3(", "\xe2\x82", "\xc0\xa0", "\ufeffa", "\r\n", "a\tb"} {
		checkUncut(t, text)
	}
}

func TestLexCutLength(t *testing.T) {
	for _, n := range []int{3999, 4000} {
		checkCut(t, strings.Repeat("a", n), []string{strings.Repeat("a", n)})
		checkCut(t, strings.Repeat(" ", n), nil)
		checkCut(t, strings.Repeat("\n", n), nil)
		checkCut(t, strings.Repeat(" ", n-1)+")", []string{")"})
	}
	checkUncut(t, strings.Repeat("a", 4001))
	checkUncut(t, strings.Repeat(" ", 4001))
	checkUncut(t, "a"+strings.Repeat("\n", 4000))
	checkUncut(t, strings.Repeat("a", 1000000))
}

func TestLexCutCount(t *testing.T) {
	for _, c := range []struct{ word, text string }{
		{"(", "("},
		{")", ")"},
		{"(", " ("},
		{"a", "a "},
		{"a", "\na"},
	} {
		for _, n := range []int{1499, 1500} {
			checkCut(t, strings.Repeat(c.text, n), slices.Repeat([]string{c.word}, n))
		}
		checkUncut(t, strings.Repeat(c.text, 1501))
	}
	full := strings.Repeat("(", 1500)
	checkCut(t, full+strings.Repeat(" \n", 1250), slices.Repeat([]string{"("}, 1500))
	checkUncut(t, full+"a")
	checkUncut(t, full+" a ")
	checkUncut(t, full+")")
	checkUncut(t, strings.Repeat("(", 1499)+"a(")
	checkUncut(t, strings.Repeat("(", 1499)+"a)")
}

func TestLexJoin(t *testing.T) {
	for _, c := range []struct {
		words []string
		want  string
	}{
		{nil, ""},
		{[]string{}, ""},
		{[]string{"a"}, "a"},
		{[]string{"a", "b"}, "a b"},
		{[]string{"(", ")"}, "()"},
		{[]string{"(", "("}, "(("},
		{[]string{")", ")"}, "))"},
		{[]string{")", "("}, ") ("},
		{[]string{"a", "("}, "a ("},
		{[]string{"a", ")"}, "a)"},
		{[]string{"(", "a"}, "(a"},
		{[]string{")", "a"}, ") a"},
		{[]string{"(", "a", "b", ")", "(", "c", ")"}, "(a b) (c)"},
		{[]string{""}, ""},
		{[]string{"", ""}, " "},
		{[]string{"(", "", ")"}, "()"},
		{[]string{"((", "a", "))"}, "(( a ))"},
		{[]string{" ", "\n", "\x00\xff"}, "  \n \x00\xff"},
	} {
		if got := impl.LexJoin(c.words); got != c.want {
			t.Errorf("LexJoin(%q) = %q; want %q", c.words, got, c.want)
		}
	}
	// What joins has no bound of its own.
	if got := impl.LexJoin(slices.Repeat([]string{"a"}, 5000)); got != strings.Repeat("a ", 4999)+"a" {
		t.Error(len(got))
	}
}

// everyText calls with each text of at most size bytes of these.
func everyText(bytes string, size int, call func(string)) {
	var grow func(text string)
	grow = func(text string) {
		call(text)
		if len(text) == size {
			return
		}
		for i := range len(bytes) {
			grow(text + bytes[i:i+1])
		}
	}
	grow("")
}

// plainCut cuts by another way than the program.
func plainCut(text string) []string {
	spread := strings.NewReplacer("(", " ( ", ")", " ) ").Replace(text)
	return strings.FieldsFunc(spread, func(r rune) bool { return r == ' ' || r == '\n' })
}

// P1: what is cut of a text is so again; every small text.
func TestLexCutAgain(t *testing.T) {
	everyText("() \na.", 6, func(text string) {
		words, ok := impl.LexCut(text)
		if !ok || !slices.Equal(words, plainCut(text)) {
			t.Fatalf("%q: %q %v", text, words, ok)
		}
		again, ok := impl.LexCut(impl.LexJoin(words))
		if !ok || !slices.Equal(again, words) {
			t.Fatalf("%q: %q %q %v", text, words, again, ok)
		}
	})
}

// P1: words are cut again from what joins them; every short list of a few words.
func TestLexJoinCut(t *testing.T) {
	pool := []string{"(", ")", "a", "-12", "lib.sum", "<="}
	var grow func(words []string)
	grow = func(words []string) {
		checkCut(t, impl.LexJoin(words), words)
		if len(words) == 5 {
			return
		}
		for _, w := range pool {
			grow(append(slices.Clone(words), w))
		}
	}
	grow(nil)
}

// randomWord is a bracket, or a run of bytes that may stand.
func randomWord(r *rand.Rand) string {
	if n := r.Intn(4); n < 2 {
		return "()"[n : n+1]
	}
	word := make([]byte, 1+r.Intn(6))
	for i := range word {
		word[i] = byte(33 + r.Intn(94))
		if word[i] == '(' || word[i] == ')' {
			word[i] = '.'
		}
	}
	return string(word)
}

// P1 with long lists, short of the bounds and past them.
func TestLexJoinCutLong(t *testing.T) {
	r := rand.New(rand.NewSource(1))
	cut, uncut := 0, 0
	for range 400 {
		words := make([]string, r.Intn(1700))
		for i := range words {
			words[i] = randomWord(r)
		}
		text := impl.LexJoin(words)
		if len(text) > 4000 || len(words) > 1500 {
			uncut++
			checkUncut(t, text)
		} else {
			cut++
			checkCut(t, text, words)
		}
	}
	if cut < 50 || uncut < 50 {
		t.Error("too few of a kind", cut, uncut)
	}
}

// P1 at its edges: what joins is just not too long, or just too long; words are just not too many, or just too many.
func TestLexJoinCutEdges(t *testing.T) {
	words := slices.Repeat([]string{"(", ")"}, 750)
	checkCut(t, impl.LexJoin(words), words)
	checkUncut(t, impl.LexJoin(append(words, ")")))
	words = append(slices.Repeat([]string{"abc"}, 999), "abcd")
	if text := impl.LexJoin(words); len(text) != 4000 {
		t.Error(len(text))
	}
	checkCut(t, impl.LexJoin(words), words)
	words[0] = "abcd"
	checkUncut(t, impl.LexJoin(words))
	// A text whose words join to a longer one than it is.
	text := strings.Repeat(")(", 700) + strings.Repeat("a", 2600)
	cut, ok := impl.LexCut(text)
	if !ok || len(cut) != 1401 {
		t.Fatal(len(cut), ok)
	}
	checkUncut(t, impl.LexJoin(cut))
}

const ownWords = "use fun pub main int bool row if let true false and or not at len put join print"

func TestLexName(t *testing.T) {
	for _, word := range strings.Fields("a z f lib sum abcdefgh zzzzzzzz uses us funs mains ints boolean rows iff lets truth falsey andor xor note att lens puts joins printer string") {
		if !impl.LexName(word) {
			t.Errorf("%q is a name", word)
		}
	}
	for _, word := range append(strings.Fields(ownWords), "", "abcdefghi", strings.Repeat("a", 100000), "A", "aB", "a1", "1", "a_b", "a-b", "a.b", ".", "(", ")", " ", "a ", " a", "a\n", "a\x00", "`", "{", "a`", "a{", "é", "aé", "ａ", "\xff", "a\xff", "+", "<=") {
		if impl.LexName(word) {
			t.Errorf("%q is no name", word)
		}
	}
}

// Each word of one byte and of two with a letter ahead.
func TestLexNameBytes(t *testing.T) {
	for b := range 256 {
		want := b >= 'a' && b <= 'z'
		for _, ahead := range []string{"", "q"} {
			word := ahead + string([]byte{byte(b)})
			if got := impl.LexName(word); got != want {
				t.Errorf("LexName(%q) = %v", word, got)
			}
		}
	}
}

func checkDot(t *testing.T, word, ahead, behind string, ok bool) {
	t.Helper()
	a, b, o := impl.LexDot(word)
	if a != ahead || b != behind || o != ok {
		t.Errorf("LexDot(%q) = %q, %q, %v; want %q, %q, %v", word, a, b, o, ahead, behind, ok)
	}
}

// P2: two words with a point between are told apart just if both are names.
func TestLexDotPairs(t *testing.T) {
	names := strings.Fields("a z lib sum abcdefgh uses")
	others := append(strings.Fields(ownWords), "", "abcdefghi", "A", "a1", "12", "-", "a.b", ".", "..", "a.", ".a", "(", " ", "a ", "é", "\xff", "\x00")
	all := slices.Concat(names, others)
	for i, a := range all {
		for j, b := range all {
			if i < len(names) && j < len(names) {
				checkDot(t, a+"."+b, a, b, true)
			} else {
				checkDot(t, a+"."+b, "", "", false)
			}
		}
	}
}

func TestLexDotWrong(t *testing.T) {
	for _, word := range []string{"", "a", "lib", "row", "12", ".", "..", "...", "a.", ".a", "a..b", "a.b.c", "a.b.", ".a.b", "a,b", "a:b", "a b", "a . b", "a .b", "a. b", "lib.sum\n", "lib。sum", strings.Repeat("a.", 50000)} {
		checkDot(t, word, "", "", false)
	}
}

// LexDot holds against LexName: every small word.
func TestLexDotEvery(t *testing.T) {
	everyText("ab.A1", 6, func(word string) {
		place := strings.Index(word, ".")
		if place < 0 || !impl.LexName(word[:place]) || !impl.LexName(word[place+1:]) {
			checkDot(t, word, "", "", false)
		} else {
			checkDot(t, word, word[:place], word[place+1:], true)
		}
	})
}

func checkNum(t *testing.T, word string, want int) {
	t.Helper()
	if got, ok := impl.LexNum(word); !ok || got != want {
		t.Errorf("LexNum(%q) = %d, %v; want %d", word, got, ok, want)
	}
}

func checkNoNum(t *testing.T, word string) {
	t.Helper()
	if got, ok := impl.LexNum(word); ok || got != 0 {
		t.Errorf("LexNum(%.40q) = %d, %v; want 0 and false", word, got, ok)
	}
}

// P2: a number is read from how it is written.
func TestLexNumWritten(t *testing.T) {
	for n := -20000; n <= 20000; n++ {
		checkNum(t, strconv.Itoa(n), n)
	}
	for n := 1; n < 100000000000000000; n *= 10 {
		for _, m := range []int{n - 1, n, n + 1, 9 * n} {
			checkNum(t, strconv.Itoa(m), m)
			checkNum(t, strconv.Itoa(-m), -m)
		}
	}
	r := rand.New(rand.NewSource(2))
	for range 10000 {
		n := r.Intn(100000000000000000)
		checkNum(t, strconv.Itoa(n), n)
		checkNum(t, strconv.Itoa(-n), -n)
	}
	checkNum(t, "99999999999999999", 99999999999999999)
	checkNum(t, "-99999999999999999", -99999999999999999)
}

func TestLexNumWrong(t *testing.T) {
	for _, word := range []string{
		"", "-", "--", "--1", "-0", "+0", "+1", "-+1", "00", "01", "-00", "-01", "-012", "007", "0000000000000000",
		"100000000000000000", "-100000000000000000", "000000000000000001", "00000000000000001", "-00000000000000001",
		"9223372036854775807", "-9223372036854775808", "18446744073709551616", strings.Repeat("9", 100000),
		"1-", "1-1", "1.0", "1.", ".1", "1e3", "0x1", "0b1", "1_0", "1,0", " 1", "1 ", "- 1", "1\n", "1\x00", "a", "1a", "true",
		"/", ":", "1/", "1:", "(", "\xff", "1\xff", "²", "٣", "１", "−1",
	} {
		checkNoNum(t, word)
	}
}

// P2: a number is read just from how it is written; every small word.
func TestLexNumEvery(t *testing.T) {
	everyText("0123-+.a", 5, func(word string) {
		if n, err := strconv.Atoi(word); err == nil && strconv.Itoa(n) == word {
			checkNum(t, word, n)
		} else {
			checkNoNum(t, word)
		}
	})
}

// overlap says whether two texts have a byte of memory in common.
func overlap(a, b string) bool {
	if a == "" || b == "" {
		return false
	}
	p, q := uintptr(unsafe.Pointer(unsafe.StringData(a))), uintptr(unsafe.Pointer(unsafe.StringData(b)))
	return p < q+uintptr(len(b)) && q < p+uintptr(len(a))
}

func TestLexCutNew(t *testing.T) {
	text := strings.Clone("(fun f ((x int)) (+ x -12)) tail")
	first, _ := impl.LexCut(text)
	for _, word := range first {
		if overlap(word, text) {
			t.Errorf("%q shares the text's memory", word)
		}
	}
	second, _ := impl.LexCut(text)
	want := slices.Clone(second)
	whole := first[:cap(first)]
	for i := range whole {
		whole[i] = "turned"
	}
	if !slices.Equal(second, want) {
		t.Error("two answers share memory")
	}
	spare := second[len(second):cap(second)]
	for i, word := range spare {
		if word != "" {
			t.Error("spare room was written", i, word)
		}
	}
	checkCut(t, text, want)
}

func TestLexJoinNew(t *testing.T) {
	one := []string{strings.Clone("lib.sum")}
	if text := impl.LexJoin(one); text != "lib.sum" || overlap(text, one[0]) {
		t.Error("what joins one word shares its memory", text)
	}
	room := []string{"(", "a", ")", "behind", "behind"}
	kept := slices.Clone(room)
	if text := impl.LexJoin(room[:3]); text != "(a)" {
		t.Error(text)
	}
	if !slices.Equal(room, kept) {
		t.Error("an argument was written into", room)
	}
}

func TestLexDotNew(t *testing.T) {
	word := strings.Clone("lib.sum")
	a, b, ok := impl.LexDot(word)
	if !ok || overlap(a, word) || overlap(b, word) {
		t.Error("what is told apart shares the word's memory", ok)
	}
}
