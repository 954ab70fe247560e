package place

import "turnery/api"

// counter counts what is in a unit.
type counter struct{ globals, funcs, words int }

// count takes in one more global or function, and tells what is too many of it, or of all so far.
func (c *counter) count(n api.Node) int {
	if n.Kind == api.TopFunc {
		c.funcs++
	} else {
		c.globals++
		c.words += words(n)
	}
	switch {
	case n.Kind == api.TopFunc && params(n) > api.MaxParams:
		return api.ErrMany
	case c.globals > api.MaxGlobals || c.funcs > api.MaxFuncs || c.words > api.MaxWords:
		return api.ErrMuch
	}
	return api.OK
}

// params is how many parameters a function has; its last kid is its body.
func params(n api.Node) int { return len(n.Kids) - 1 }
