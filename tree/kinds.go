package tree

import (
	"math"

	"turnery/api"
)

func isKind(kind int) bool {
	return api.TopUnit <= kind && kind <= api.TopParam || api.DoBlock <= kind && kind <= api.DoNothing || isExpr(kind)
}

func isExpr(kind int) bool { return api.IsNum <= kind && kind <= api.IsStep }

func isAction(kind int) bool {
	return api.DoBlock <= kind && kind <= api.DoSwitch || api.DoBreak <= kind && kind <= api.DoNothing
}

// sizes is how few and how many kids a node of a kind may have.
func sizes(kind int) (few, many int) {
	switch kind {
	case api.TopUnit, api.DoBlock, api.IsCall:
		return 0, math.MaxInt
	case api.TopFunc, api.DoSwitch:
		return 1, math.MaxInt
	case api.TopVar:
		return 0, api.MaxWords
	case api.DoVar, api.DoReturn:
		return 0, 1
	case api.DoExpr, api.DoCase, api.IsOne, api.IsStep:
		return 1, 1
	case api.DoIf:
		return 2, 3
	case api.DoWhile, api.DoUntil, api.IsIndex, api.IsTwo, api.IsBoth, api.IsSet:
		return 2, 2
	case api.IsPick:
		return 3, 3
	case api.DoFor:
		return 4, 4
	}
	return 0, 0
}

// takes tells whether a node may have a kid of the kind at the place among its kids.
func takes(n api.Node, place, kid int) bool {
	first, last := place == 0, place == len(n.Kids)-1
	switch n.Kind {
	case api.TopUnit:
		return kid == api.TopVar || kid == api.TopFunc
	case api.TopFunc:
		if !last {
			return kid == api.TopParam
		}
		return kid == api.DoBlock
	case api.DoBlock:
		return isAction(kid)
	case api.DoIf, api.DoWhile:
		if !first {
			return kid == api.DoBlock
		}
	case api.DoUntil:
		if first {
			return kid == api.DoBlock
		}
	case api.DoFor:
		return takesFor(place, kid)
	case api.DoSwitch:
		if !first {
			return isAction(kid) || kid == api.DoCase || kid == api.DoElse
		}
	}
	return isExpr(kid)
}

// takesFor is takes for the four kids of a for.
func takesFor(place, kid int) bool {
	switch place {
	case 0:
		return kid == api.DoVar || kid == api.DoExpr || kid == api.DoNothing
	case 1:
		return isExpr(kid) || kid == api.DoNothing
	case 2:
		return kid == api.DoExpr || kid == api.DoNothing
	}
	return kid == api.DoBlock
}

func isNamed(kind int) bool {
	switch kind {
	case api.TopVar, api.TopFunc, api.TopParam, api.DoVar, api.IsName, api.IsCall:
		return true
	}
	return false
}

// isName takes the words of the language, too: which of them may be names is no matter of trees.
func isName(text string) bool {
	if text == "" || len(text) > api.MaxName || isDigit(text[0]) {
		return false
	}
	for i := range len(text) {
		if c := text[i]; !isDigit(c) && !isLetter(c) && c != '_' {
			return false
		}
	}
	return true
}

func isDigit(c byte) bool { return '0' <= c && c <= '9' }

func isLetter(c byte) bool { return 'a' <= c && c <= 'z' || 'A' <= c && c <= 'Z' }

// isSign tells whether a node of a kind that has no name may have the text.
func isSign(kind int, text string) bool {
	switch kind {
	case api.IsOne:
		return isOneSign(text)
	case api.IsTwo:
		return isTwoSign(text)
	case api.IsBoth:
		return text == "&&" || text == "||"
	case api.IsSet:
		return isSetSign(text)
	case api.IsStep:
		return text == "++" || text == "--"
	}
	return text == ""
}

func isOneSign(text string) bool {
	switch text {
	case "-", "!", "~", "*", "&":
		return true
	}
	return false
}

func isTwoSign(text string) bool {
	switch text {
	case "+", "-", "*", "/", "%", "&", "|", "^", "<<", ">>", "==", "!=", "<", "<=", ">", ">=":
		return true
	}
	return false
}

func isSetSign(text string) bool {
	switch text {
	case "=", "+=", "-=", "*=", "/=", "%=", "&=", "|=", "^=", "<<=", ">>=":
		return true
	}
	return false
}

// hasNumbers tells whether N and Size are what the kind, and the number of kids of a global, allow.
func hasNumbers(n api.Node) bool {
	if n.Kind == api.TopVar && n.N == api.TypeArray {
		return 1 <= n.Size && n.Size <= api.MaxWords && len(n.Kids) <= n.Size
	}
	if n.Size != 0 {
		return false
	}
	switch n.Kind {
	case api.TopVar:
		return isOneWord(n.N) && len(n.Kids) <= 1
	case api.TopFunc:
		return n.N == api.TypeVoid || isOneWord(n.N)
	case api.TopParam, api.DoVar:
		return isOneWord(n.N)
	case api.IsNum:
		return n.N >= 0
	case api.IsStep:
		return n.N == 0 || n.N == 1
	}
	return n.N == 0
}

// isOneWord tells whether what is of the type fits into a word.
func isOneWord(typ int) bool { return typ == api.TypeInt || typ == api.TypePtr }
