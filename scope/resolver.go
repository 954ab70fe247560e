package scope

import "turnery/api"

// resolver goes through a unit in the order of its text.
type resolver struct {
	nodes []api.Node
	unit  *scope
	found []int // what the nodes stand for, so far
}

// visit resolves node k and all below it; k is in that scope.
func (r *resolver) visit(k int, in *scope) api.Fault {
	if r.nodes[k].Kind == api.DoVar {
		// A local is not visible in its own initial expression.
		return inTurn(k, in, r.kids, r.own)
	}
	return inTurn(k, in, r.own, r.kids)
}

// inTurn takes steps about node k up to the first one that finds a fault.
func inTurn(k int, in *scope, steps ...func(int, *scope) api.Fault) api.Fault {
	for _, step := range steps {
		if f := step(k, in); f.Code != api.OK {
			return f
		}
	}
	return api.Fault{}
}

// kids visits those of node k.
func (r *resolver) kids(k int, in *scope) api.Fault {
	n := r.nodes[k]
	if opens(n.Kind) {
		in = inside(in)
	}
	for _, kid := range n.Kids {
		if f := r.visit(kid, in); f.Code != api.OK {
			return f
		}
	}
	return api.Fault{}
}

// opens tells whether the kids of a node of the kind are in a scope of their own.
func opens(kind int) bool {
	switch kind {
	case api.TopFunc, api.DoBlock, api.DoFor, api.DoSwitch:
		return true
	}
	return false
}

// own resolves node k by itself.
func (r *resolver) own(k int, in *scope) api.Fault {
	switch r.nodes[k].Kind {
	case api.TopVar, api.TopFunc:
		r.found[k] = k
	case api.TopParam, api.DoVar:
		return r.local(k, in)
	case api.IsName:
		return r.name(k, in)
	case api.IsCall:
		return r.call(k)
	}
	return api.Fault{}
}

func (r *resolver) local(k int, in *scope) api.Fault {
	if !in.declare(r.nodes[k].Text, k) {
		return api.Fault{Code: api.ErrTwice, At: k}
	}
	r.found[k] = k
	return api.Fault{}
}

func (r *resolver) name(k int, in *scope) api.Fault {
	by, ok := in.find(r.nodes[k].Text)
	if !ok || r.nodes[by].Kind == api.TopFunc {
		return api.Fault{Code: api.ErrNone, At: k}
	}
	r.found[k] = by
	return api.Fault{}
}

// call looks among the functions alone: a local of the same name does not hide one.
func (r *resolver) call(k int) api.Fault {
	name := r.nodes[k].Text
	if isPredefined(name) {
		return api.Fault{}
	}
	by, ok := r.unit.names[name]
	if !ok || r.nodes[by].Kind != api.TopFunc {
		return api.Fault{Code: api.ErrNone, At: k}
	}
	r.found[k] = by
	return api.Fault{}
}
