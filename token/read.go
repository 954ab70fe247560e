package token

import (
	"strconv"
	"strings"

	"turnery/api"
)

// gap is the length of the blanks and comments with which rest begins; open: behind them a comment begins that does not end.
func gap(rest string) (n int, open bool) {
	for n < len(rest) {
		length := 1
		if !isBlank(rest[n]) {
			length, open = comment(rest[n:])
		}
		if length == 0 {
			return n, open
		}
		n += length
	}
	return n, false
}

func isBlank(c byte) bool { return c == ' ' || c == '\t' || c == '\n' }

// comment is the length of the comment with which rest begins: 0, if there is none or if it is open.
func comment(rest string) (length int, open bool) {
	if strings.HasPrefix(rest, "//") {
		return prefix(rest, func(c byte) bool { return c != '\n' }), false
	}
	if !strings.HasPrefix(rest, "/*") {
		return 0, false
	}
	// The star that opens the comment does not close it, too: /*/ is open.
	end := strings.Index(rest[2:], "*/")
	if end < 0 {
		return 0, true
	}
	return end + 4, false
}

// prefix is how many bytes at the start of text are so.
func prefix(text string, so func(c byte) bool) int {
	n := 0
	for n < len(text) && so(text[n]) {
		n++
	}
	return n
}

// first reads the token with which rest begins, as if it stood at 0, or tells what is wrong with it.
func first(rest string) (t api.Token, code int) {
	if rest == "" {
		return api.Token{}, api.ErrText
	}
	switch c := rest[0]; {
	case isDigit(c):
		return number(rest[:prefix(rest, isWord)])
	case isWord(c):
		return word(rest[:prefix(rest, isWord)])
	case c == '\'':
		return character(rest)
	}
	return sign(rest)
}

func isDigit(c byte) bool { return '0' <= c && c <= '9' }

func isWord(c byte) bool {
	return isDigit(c) || 'a' <= c && c <= 'z' || 'A' <= c && c <= 'Z' || c == '_'
}

func isHex(c byte) bool {
	return isDigit(c) || 'a' <= c && c <= 'f' || 'A' <= c && c <= 'F'
}

func word(text string) (t api.Token, code int) {
	switch {
	case isKey(text):
		return api.Token{Kind: api.TokKey, Text: text}, api.OK
	case len(text) > api.MaxName:
		return api.Token{}, api.ErrName
	}
	return api.Token{Kind: api.TokName, Text: text}, api.OK
}

func isKey(text string) bool {
	switch text {
	case "int", "void", "if", "else", "while", "do", "for", "switch", "case", "default", "break", "continue", "return":
		return true
	}
	return false
}

func number(text string) (t api.Token, code int) {
	digits, base, so := text, 10, isDigit
	if len(text) > 1 && text[0] == '0' {
		if text[1] != 'x' && text[1] != 'X' {
			return api.Token{}, api.ErrText
		}
		digits, base, so = text[2:], 16, isHex
	}
	// All digits come first: ParseInt finds a number too large ahead of a wrong digit behind.
	if digits == "" || prefix(digits, so) < len(digits) {
		return api.Token{}, api.ErrText
	}
	n, err := strconv.ParseInt(digits, base, 64)
	if err != nil {
		return api.Token{}, api.ErrRange
	}
	return api.Token{Kind: api.TokNum, Text: text, N: int(n)}, api.OK
}

func character(rest string) (t api.Token, code int) {
	length, n := 3, 0
	switch {
	case len(rest) < length:
		return api.Token{}, api.ErrText
	case rest[1] == '\\':
		length = 4
		n = escape(rest[2])
	case isPlain(rest[1]):
		n = int(rest[1])
	default:
		return api.Token{}, api.ErrText
	}
	if n < 0 || len(rest) < length || rest[length-1] != '\'' {
		return api.Token{}, api.ErrText
	}
	return api.Token{Kind: api.TokNum, Text: rest[:length], N: n}, api.OK
}

// isPlain: may a byte stand for itself between quotes?
func isPlain(c byte) bool { return ' ' <= c && c <= '~' && c != '\'' && c != '\\' }

// escape is the number that a byte behind a backslash stands for; -1: none.
func escape(c byte) int {
	switch c {
	case 'n':
		return '\n'
	case '0':
		return 0
	case '\\', '\'':
		return int(c)
	}
	return -1
}

func sign(rest string) (t api.Token, code int) {
	// The longest signs have three bytes.
	for n := min(3, len(rest)); n > 0; n-- {
		if isSign(rest[:n]) {
			return api.Token{Kind: api.TokSign, Text: rest[:n]}, api.OK
		}
	}
	return api.Token{}, api.ErrText
}

func isSign(text string) bool {
	switch text {
	case "<<=", ">>=",
		"<<", ">>", "<=", ">=", "==", "!=", "&&", "||",
		"+=", "-=", "*=", "/=", "%=", "&=", "^=", "|=", "++", "--",
		"+", "-", "*", "/", "%", "&", "|", "^", "~", "!", "<", ">", "=",
		"?", ":", ";", ",", "(", ")", "[", "]", "{", "}":
		return true
	}
	return false
}
