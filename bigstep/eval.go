package bigstep

import (
	"slices"

	"hallmoot/api"
	"hallmoot/value"
)

// ending is the way in which an evaluation ends; its kind is RVal for a value.
type ending struct {
	kind int
	n    int
}

// machine is the state of an evaluation.
type machine struct {
	prog    api.Prog
	slots   []int       // the positions of the variables' values in the environment
	open    []bool      // of each location
	globals []api.Value // of the references, arrays and lets

	fuel   int
	locs   []int       // the memory of the current block
	undo   []api.Value // the compensations registered in the block
	wrote  bool        // a location that is not open was set in the block
	inside bool        // an outermost block is being evaluated
	at     [][]int     // the memories with which the blocks begin
	blocks []api.Block
	print  []int
}

// alone returns a machine for an evaluation of its own, without blocks.
func (m *machine) alone(locs []int, fuel int) *machine {
	return &machine{prog: m.prog, slots: m.slots, open: m.open, globals: m.globals, locs: slices.Clone(locs), fuel: fuel, inside: true}
}

// attempt calls a function and returns its value, or how else it ended.
func attempt(f func() api.Value) (v api.Value, end ending) {
	defer func() {
		if r := recover(); r != nil {
			v = api.Value{}
			end = ending{kind: api.RWrong}
			if e, ok := r.(ending); ok {
				end = e
			}
		}
	}()
	return f(), ending{}
}

// leave ends an evaluation otherwise than with a value.
func leave(kind, n int) { panic(ending{kind, n}) }

// evaluate evaluates a whole expression.
func (m *machine) evaluate(k int, env []api.Value) (api.Value, ending) {
	return attempt(func() api.Value { return m.eval(k, env) })
}

// holds reports whether all invariants hold on a memory.
func (m *machine) holds(locs []int, fuel int) bool {
	visible := 0
	for _, d := range m.prog.Decls {
		if d.Kind == api.DCheck {
			v, end := m.alone(locs, fuel).evaluate(d.Body, m.globals[:visible])
			if end.kind != api.RVal || v.N != 1 {
				return false
			}
		}
		if isGlobal(d) {
			visible++
		}
	}
	return true
}

// eval evaluates a node in an environment.
func (m *machine) eval(k int, env []api.Value) api.Value {
	if m.fuel == 0 {
		leave(api.RFuel, 0)
	}
	m.fuel--
	node := m.prog.Nodes[k]
	child := func(i int, more ...api.Value) api.Value {
		return m.eval(node.Of[i], extend(env, more...))
	}
	closure := api.Value{Kind: api.VFun, N: k, Of: env}
	switch node.Kind {
	case api.ENum:
		return api.Value{Kind: api.VInt, N: node.N}
	case api.EBool:
		return api.Value{Kind: api.VBool, N: node.N}
	case api.EUnit:
		return api.Value{Kind: api.VUnit}
	case api.ENone:
		return api.Value{Kind: api.VNone}
	case api.EVar:
		return env[m.slots[k]]
	case api.EFun:
		return closure
	case api.ERec:
		return child(1, closure)
	case api.ELet:
		return child(1, child(0))
	case api.EApp:
		f := child(0)
		return m.apply(f, child(1))
	case api.EIf:
		if child(0).N == 1 {
			return child(1)
		}
		return child(2)
	case api.ESeq:
		child(0)
		return child(1)
	case api.EMatch:
		option := child(0)
		if option.Kind == api.VNone {
			return child(1)
		}
		return child(2, option.Of[0])
	}
	return m.evalMore(node, child)
}

// evalMore evaluates the nodes that build data, access the memory or have to do with blocks.
func (m *machine) evalMore(node api.Node, child func(int, ...api.Value) api.Value) api.Value {
	switch node.Kind {
	case api.EPair:
		first := child(0)
		return api.Value{Kind: api.VPair, Of: []api.Value{first, child(1)}}
	case api.EFst:
		return child(0).Of[0]
	case api.ESnd:
		return child(0).Of[1]
	case api.ESome:
		return api.Value{Kind: api.VSome, Of: []api.Value{child(0)}}
	case api.EBin:
		return operate(node.N, child)
	case api.EGet:
		loc := child(0).N
		return api.Value{Kind: api.VInt, N: m.locs[loc]}
	case api.ESet:
		m.set(child)
	case api.EIndex:
		return element(child)
	case api.ERaise:
		leave(api.RExn, child(0).N)
	case api.EPrint:
		n := child(0).N
		m.print = append(m.print, n)
	case api.ERetry:
		leave(api.RRetry, 0)
	case api.ETry:
		return handle(child)
	case api.EOrElse:
		return m.orElse(child)
	case api.EOpen:
		return m.openBlock(child)
	case api.EAtomic:
		if m.inside {
			return m.nested(child)
		}
		return m.block(child)
	default:
		leave(api.RWrong, 0)
	}
	return api.Value{Kind: api.VUnit}
}

func operate(op int, child func(int, ...api.Value) api.Value) api.Value {
	left := child(0)
	v, err := value.Bin(op, left, child(1))
	if err != api.OK {
		leave(api.RWrong, 0)
	}
	return v
}

func (m *machine) set(child func(int, ...api.Value) api.Value) {
	loc := child(0).N
	n := child(1).N
	m.locs[loc] = n
	if !m.open[loc] {
		m.wrote = true
	}
}

func element(child func(int, ...api.Value) api.Value) api.Value {
	array := child(0)
	v, ok := value.Index(array, child(1).N)
	if !ok {
		leave(api.RExn, api.ExnIndex)
	}
	return v
}

// apply applies a function: it evaluates its body in the captured environment.
func (m *machine) apply(f, argument api.Value) api.Value {
	node := m.prog.Nodes[f.N]
	if node.Kind == api.ERec {
		return m.eval(node.Of[0], extend(f.Of, f, argument))
	}
	return m.eval(node.Of[0], extend(f.Of, argument))
}

func handle(child func(int, ...api.Value) api.Value) api.Value {
	v, end := attempt(func() api.Value { return child(0) })
	switch end.kind {
	case api.RVal:
		return v
	case api.RExn:
		return child(1, api.Value{Kind: api.VInt, N: end.n})
	}
	panic(end)
}
