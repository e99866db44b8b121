package bigstep

import (
	"slices"

	"hallmoot/api"
)

// Names returns the names in scope at a node, outermost first.
func Names(p api.Prog, node int) []string {
	var found []string
	walk(p, func(k int, names []string) {
		if k == node {
			found = slices.Clone(names)
		}
	})
	return found
}

// walk visits every node of a declaration's expression with the names in its scope. It visits no node twice, so that it ends for nodes that are no trees, too.
func walk(p api.Prog, visit func(k int, names []string)) {
	done := make([]bool, len(p.Nodes))
	var descend func(k int, names []string)
	descend = func(k int, names []string) {
		if k < 0 || k >= len(p.Nodes) || done[k] {
			return
		}
		done[k] = true
		visit(k, names)
		for i, child := range p.Nodes[k].Of {
			descend(child, extend(names, bound(p.Nodes[k], i)...))
		}
	}
	var globals []string
	for _, d := range p.Decls {
		if hasBody(d) {
			descend(d.Body, globals)
		}
		if isGlobal(d) {
			globals = extend(globals, d.Name)
		}
	}
}

// extend returns a list with more elements. It leaves the list as it is, because others may extend it, too.
func extend[T any](list []T, more ...T) []T {
	return append(slices.Clip(list), more...)
}

// bound returns the names that a node binds in a child.
func bound(n api.Node, child int) []string {
	switch {
	case n.Kind == api.ERec && child == 0:
		return []string{n.Name, n.Name2}
	case n.Kind == api.EFun && child == 0,
		(n.Kind == api.ELet || n.Kind == api.ERec || n.Kind == api.ETry) && child == 1,
		n.Kind == api.EMatch && child == 2:
		return []string{n.Name}
	}
	return nil
}

func hasBody(d api.Decl) bool {
	return d.Kind == api.DCheck || d.Kind == api.DLet || d.Kind == api.DThread
}

// isGlobal reports whether a declaration declares a variable.
func isGlobal(d api.Decl) bool {
	return d.Kind == api.DRef || d.Kind == api.DArray || d.Kind == api.DLet
}

// resolve returns for each variable the position of its value in the environment, and -1 for all other nodes.
func resolve(p api.Prog) []int {
	slots := make([]int, len(p.Nodes))
	for k := range slots {
		slots[k] = -1
	}
	walk(p, func(k int, names []string) {
		if p.Nodes[k].Kind != api.EVar {
			return
		}
		for i, name := range names {
			if name == p.Nodes[k].Name {
				slots[k] = i
			}
		}
	})
	return slots
}

// Locs returns the initial values of all locations, and whether they are open.
func Locs(p api.Prog) ([]int, []bool, api.Errno) {
	var first []int
	var open []bool
	for _, d := range p.Decls {
		size := 0
		switch d.Kind {
		case api.DRef:
			size = 1
		case api.DArray:
			size = d.N
		}
		if size > api.MaxLoc-len(first) {
			return nil, nil, api.ErrFull
		}
		for range size {
			first = append(first, 0)
			open = append(open, d.Open)
		}
		if d.Kind == api.DRef {
			first[len(first)-1] = d.N
		}
	}
	return first, open, api.OK
}
