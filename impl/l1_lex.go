package impl

import (
	"iter"
	"strings"
)

// Bounds of texts.
const (
	LexMaxText   = 4000
	LexMaxTokens = 1500
	LexMaxName   = 8
)

// lexMaxDigits keeps every number that is read well within 64 bits.
const lexMaxDigits = 17

// LexCut cuts a text to its words.
func LexCut(text string) ([]string, bool) {
	if len(text) > LexMaxText || !lexClean(text) {
		return nil, false
	}
	var words []string
	for word := range lexWords(text) {
		if len(words) == LexMaxTokens {
			return nil, false
		}
		// A word that is a piece of the text would share its memory.
		words = append(words, strings.Clone(word))
	}
	return words, true
}

// lexClean says whether each byte of a text may stand. A byte of 128 or more
// begins a rune that may not, whether or not it is rightly encoded.
func lexClean(text string) bool {
	for _, r := range text {
		if !lexBlank(r) && (r < '!' || r > '~') {
			return false
		}
	}
	return true
}

// lexWords yields the words of a clean text, each as a piece of the text.
func lexWords(text string) iter.Seq[string] {
	return func(yield func(string) bool) {
		start := 0
		for place, r := range text {
			if !lexBlank(r) && !lexBracket(r) {
				continue
			}
			if start < place && !yield(text[start:place]) {
				return
			}
			// Blanks and brackets are one byte each.
			next := place + 1
			if lexBracket(r) && !yield(text[place:next]) {
				return
			}
			start = next
		}
		if start < len(text) {
			yield(text[start:])
		}
	}
}

func lexBlank(r rune) bool { return r == ' ' || r == '\n' }

func lexBracket(r rune) bool { return r == '(' || r == ')' }

// LexJoin writes words.
func LexJoin(words []string) string {
	var text strings.Builder
	for place, word := range words {
		if place > 0 && words[place-1] != "(" && word != ")" {
			text.WriteByte(' ')
		}
		text.WriteString(word)
	}
	return text.String()
}

// LexName says whether a word is a name.
func LexName(word string) bool {
	if len(word) < 1 || len(word) > LexMaxName || lexOwn(word) {
		return false
	}
	for _, r := range word {
		if r < 'a' || r > 'z' {
			return false
		}
	}
	return true
}

// lexOwn says whether a word is one of the language's own.
func lexOwn(word string) bool {
	switch word {
	case "use", "fun", "pub", "main", "int", "bool", "row", "if", "let", "true",
		"false", "and", "or", "not", "at", "len", "put", "join", "print":
		return true
	}
	return false
}

// LexDot is the two names of a word with a point.
func LexDot(word string) (string, string, bool) {
	ahead, behind, found := strings.Cut(word, ".")
	if !found || !LexName(ahead) || !LexName(behind) {
		return "", "", false
	}
	return strings.Clone(ahead), strings.Clone(behind), true
}

// LexNum is the number of a word.
func LexNum(word string) (int, bool) {
	digits, below := strings.CutPrefix(word, "-")
	if !lexDecimals(digits) || below && digits == "0" {
		return 0, false
	}
	number := 0
	for _, r := range digits {
		number = number*10 + int(r-'0')
	}
	if below {
		number = -number
	}
	return number, true
}

// lexDecimals says whether these are digits as a number is written with them.
func lexDecimals(digits string) bool {
	if len(digits) < 1 || len(digits) > lexMaxDigits {
		return false
	}
	if len(digits) > 1 && digits[0] == '0' {
		return false
	}
	for _, r := range digits {
		if r < '0' || r > '9' {
			return false
		}
	}
	return true
}
