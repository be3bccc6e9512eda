package policy

import (
	"strings"

	"evictor/api"
)

// The most digits that a number has.
const maxDigits = 3

type tokenKind int

const (
	noToken tokenKind = iota // bytes of which none can be made
	endToken
	nameToken
	numberToken
	fixedToken // a keyword or a sign
)

// token has no text if it is none, or the end: so it is never taken for a keyword or a sign.
type token struct {
	kind tokenKind
	text string
	at   int
}

// tokenAt answers the first token that stands at a place or behind the blanks there.
func tokenAt(src string, at int) token {
	for at < len(src) && isBlank(src[at]) {
		at++
	}
	if at == len(src) {
		return token{kind: endToken, at: at}
	}
	switch first := src[at]; {
	case isLetter(first):
		return wordToken(leading(src[at:], isLetter), at)
	case isDigit(first):
		return digitsToken(leading(src[at:], isDigit), at)
	case isSign(first):
		return token{kind: fixedToken, text: src[at : at+1], at: at}
	}
	return token{kind: noToken, at: at}
}

// leading answers the longest beginning of a text whose bytes are all of one kind.
func leading(src string, is func(byte) bool) string {
	n := 0
	for n < len(src) && is(src[n]) {
		n++
	}
	return src[:n]
}

func wordToken(word string, at int) token {
	switch {
	case len(word) > api.MaxName:
		return token{kind: noToken, at: at}
	case isKeyword(word):
		return token{kind: fixedToken, text: word, at: at}
	}
	return token{kind: nameToken, text: word, at: at}
}

func digitsToken(digits string, at int) token {
	if len(digits) > maxDigits {
		return token{kind: noToken, at: at}
	}
	return token{kind: numberToken, text: digits, at: at}
}

func isBlank(b byte) bool { return b == ' ' || b == '\n' }

func isLetter(b byte) bool { return 'a' <= b && b <= 'z' }

func isDigit(b byte) bool { return '0' <= b && b <= '9' }

func isSign(b byte) bool { return strings.IndexByte(";{}<", b) >= 0 }

func isKeyword(word string) bool {
	switch word {
	case "queue", "ghost", "var", "freq", "on", "miss",
		"put", "tail", "evict", "shift", "drop", "inc", "dec", "bump", "cool",
		"if", "else", "repeat", "while",
		"not", "full", "empty", "warm", "len":
		return true
	}
	return false
}
