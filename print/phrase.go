package print

import (
	"strconv"

	"turnery/api"
)

// phrase puts the tokens of a part of the text behind those ahead of it.
type phrase func(ahead []api.Token) []api.Token

func word(t api.Token) phrase {
	return func(ahead []api.Token) []api.Token { return append(ahead, t) }
}

func key(text string) phrase { return word(api.Token{Kind: api.TokKey, Text: text}) }

func sign(text string) phrase { return word(api.Token{Kind: api.TokSign, Text: text}) }

func name(text string) phrase { return word(api.Token{Kind: api.TokName, Text: text}) }

func number(n int) phrase { return word(api.Token{Kind: api.TokNum, Text: strconv.Itoa(n), N: n}) }

// inTurn is the phrase of parts one behind the other.
func inTurn(parts ...phrase) phrase {
	return func(list []api.Token) []api.Token {
		for _, part := range parts {
			list = part(list)
		}
		return list
	}
}

// listed is inTurn with a comma between each two parts.
func listed(parts []phrase) phrase {
	comma := sign(",")
	return func(list []api.Token) []api.Token {
		for i, part := range parts {
			if i > 0 {
				list = comma(list)
			}
			list = part(list)
		}
		return list
	}
}

func inParentheses(inner phrase) phrase { return inTurn(sign("("), inner, sign(")")) }

func inBraces(inner phrase) phrase { return inTurn(sign("{"), inner, sign("}")) }
