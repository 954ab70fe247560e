package consts

import "turnery/api"

// values has the value of each constant expression, by its node. Each node stands behind its kids.
func values(nodes []api.Node) map[int]int {
	known := map[int]int{}
	signs := twoSigns()
	for k, n := range nodes {
		if kids, ok := kidValues(n, known); ok {
			if value, ok := evaluate(n, kids, signs); ok {
				known[k] = value
			}
		}
	}
	return known
}

// kidValues has the values of a node's kids, if they are all known.
func kidValues(n api.Node, known map[int]int) ([]int, bool) {
	var list []int
	for _, kid := range n.Kids {
		value, ok := known[kid]
		if !ok {
			return nil, false
		}
		list = append(list, value)
	}
	return list, true
}

// evaluate is the value of a node whose kids have these values, if it is constant, too.
func evaluate(n api.Node, kids []int, signs map[string]func(a, b int) int) (value int, ok bool) {
	switch n.Kind {
	case api.IsNum:
		return n.N, true
	case api.IsOne:
		return one(n.Text, kids[0])
	case api.IsTwo, api.IsBoth:
		if kids[1] == 0 && (n.Text == "/" || n.Text == "%") {
			return 0, false
		}
		return signs[n.Text](kids[0], kids[1]), true
	case api.IsPick:
		if kids[0] != 0 {
			return kids[1], true
		}
		return kids[2], true
	}
	return 0, false
}

// one is what a sign ahead of a number comes to; false: the sign is about places.
func one(sign string, a int) (value int, ok bool) {
	switch sign {
	case "-":
		return -a, true
	case "~":
		return ^a, true
	case "!":
		return truth(a == 0), true
	}
	return 0, false
}

// twoSigns has what each sign between two numbers does. Go's numbers wrap around as those of the language do, also where the smallest one is divided by -1.
func twoSigns() map[string]func(a, b int) int {
	return map[string]func(a, b int) int{
		"+":  func(a, b int) int { return a + b },
		"-":  func(a, b int) int { return a - b },
		"*":  func(a, b int) int { return a * b },
		"/":  func(a, b int) int { return a / b },
		"%":  func(a, b int) int { return a % b },
		"&":  func(a, b int) int { return a & b },
		"|":  func(a, b int) int { return a | b },
		"^":  func(a, b int) int { return a ^ b },
		"<<": func(a, b int) int { return a << (b & 63) },
		">>": func(a, b int) int { return a >> (b & 63) },
		"==": func(a, b int) int { return truth(a == b) },
		"!=": func(a, b int) int { return truth(a != b) },
		"<":  func(a, b int) int { return truth(a < b) },
		"<=": func(a, b int) int { return truth(a <= b) },
		">":  func(a, b int) int { return truth(a > b) },
		">=": func(a, b int) int { return truth(a >= b) },
		"&&": func(a, b int) int { return truth(a != 0 && b != 0) },
		"||": func(a, b int) int { return truth(a != 0 || b != 0) },
	}
}

func truth(is bool) int {
	if is {
		return 1
	}
	return 0
}
