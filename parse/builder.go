package parse

import (
	"turnery/api"
	"turnery/tree"
)

// builder puts nodes one behind the other, each behind its kids.
type builder struct {
	nodes []api.Node
	loose []int // those that are kids of none yet
}

// mark is a place between the loose nodes: those added from now on are behind it.
func (b *builder) mark() int { return len(b.loose) }

// add makes the loose nodes behind the mark the kids of n, which is loose itself then.
func (b *builder) add(n api.Node, mark int) {
	// The kids must not be a part of loose, not even an empty one.
	n.Kids = append([]int(nil), b.loose[mark:]...)
	b.loose = append(b.loose[:mark], len(b.nodes))
	b.nodes = append(b.nodes, n)
}

// build adds n behind what the steps add: its kids.
func (b *builder) build(n api.Node, steps ...step) error {
	return b.extend(b.mark(), n, steps...)
}

// extend is build for a node to which loose nodes behind the mark belong, too.
func (b *builder) extend(mark int, n api.Node, steps ...step) error {
	if err := inTurn(steps...); err != nil {
		return err
	}
	b.add(n, mark)
	return nil
}

// fits is the step that finds a tree too large.
func (b *builder) fits() error {
	// The grammar lets through only trees that are in their form: nothing but their size can be wrong.
	if f := tree.Check(api.Tree{Nodes: b.nodes}); f.Code != api.OK {
		return mistake{api.Fault{Code: api.ErrMuch}}
	}
	return nil
}

// result of steps that ended with err.
func (b *builder) result(err error) (api.Tree, api.Fault) {
	if f := faultOf(err); f.Code != api.OK {
		return api.Tree{}, f
	}
	return api.Tree{Nodes: b.nodes}, api.Fault{}
}
