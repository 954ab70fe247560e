package parse

import (
	"turnery/api"
	"turnery/token"
)

// cursor goes through the tokens of a text from left to right.
type cursor struct {
	list []api.Token // those that are not taken yet
	end  int         // the length of the text
}

// read is the step that cuts the text into tokens.
func (c *cursor) read(text string) step {
	return func() error {
		list, f := token.Scan(text)
		if f.Code != api.OK {
			return mistake{f}
		}
		c.list, c.end = list, len(text)
		return nil
	}
}

// peek is the next token; at the end of the text one of no kind, which stands where a token would be missing.
func (c *cursor) peek() api.Token {
	if c.ended() {
		return api.Token{At: c.end}
	}
	return c.list[0]
}

// sees compares texts alone: no name is a key or a sign, and a number between quotes has its quotes.
func (c *cursor) sees(text string) bool { return c.peek().Text == text }

// take goes past the next token.
func (c *cursor) take() api.Token {
	t := c.peek()
	if !c.ended() {
		c.list = c.list[1:]
	}
	return t
}

// took goes past the next token if this is its text.
func (c *cursor) took(text string) bool {
	if !c.sees(text) {
		return false
	}
	c.take()
	return true
}

// word is the step that goes past a token that must stand here.
func (c *cursor) word(text string) step {
	return func() error {
		if !c.took(text) {
			return c.wrong()
		}
		return nil
	}
}

// kind goes past a token of a kind that must stand here.
func (c *cursor) kind(kind int) (api.Token, error) {
	if c.peek().Kind != kind {
		return api.Token{}, c.wrong()
	}
	return c.take(), nil
}

func (c *cursor) ended() bool { return len(c.list) == 0 }

// done is the step that finds the end of the text.
func (c *cursor) done() error {
	if !c.ended() {
		return c.wrong()
	}
	return nil
}

// wrong: the next token cannot stand here.
func (c *cursor) wrong() error {
	return mistake{api.Fault{Code: api.ErrText, At: c.peek().At}}
}
