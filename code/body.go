package code

import "hallmoot/api"

// body is the code of a function under construction.
type body struct {
	*compiler
	ins    []api.Ins
	locals map[api.Cap]int // the local variables, by their binders
	count  int             // the number of local variables
}

func (c *compiler) newBody() *body {
	return &body{compiler: c, locals: map[api.Cap]int{}}
}

// bind makes a binder the next local variable.
func (b *body) bind(binder api.Cap) {
	b.locals[binder] = b.count
	b.count++
}

func (b *body) emit(i api.Ins) { b.ins = append(b.ins, i) }

// jump emits an instruction with a target and returns the function that sets the target to where the code has got to.
func (b *body) jump(op int) func() {
	at := len(b.ins)
	b.emit(api.Ins{Op: op})
	return func() { b.ins[at].A = len(b.ins) }
}

// scope compiles a child in which one more variable is bound, and unbinds it.
func (b *body) scope(k, child int) {
	b.bind(api.Cap{Node: k})
	b.node(child)
	b.count--
	b.emit(api.Ins{Op: api.IUnbind, A: 1})
}

// node emits the instructions of a node.
func (b *body) node(k int) {
	n := b.prog.Nodes[k]
	switch n.Kind {
	case api.EVar:
		b.variable(b.closed.Name[k])
	case api.EFun:
		b.function(k)
	case api.ERec:
		b.function(k)
		b.emit(api.Ins{Op: api.IBind})
		b.scope(k, n.Of[1])
	case api.ELet:
		b.node(n.Of[0])
		b.emit(api.Ins{Op: api.IBind})
		b.scope(k, n.Of[1])
	case api.ESeq:
		b.node(n.Of[0])
		b.emit(api.Ins{Op: api.IDrop})
		b.node(n.Of[1])
	case api.EIf, api.EMatch, api.ETry, api.EOrElse:
		b.branches(k, n)
	case api.EAtomic:
		b.emit(api.Ins{Op: api.IAtomic})
		b.node(n.Of[0])
		b.emit(api.Ins{Op: api.IEnd})
	case api.EOpen:
		b.node(n.Of[1])
		b.emit(api.Ins{Op: api.IOpen, A: b.locks[n.Name]})
		b.node(n.Of[0])
		b.emit(api.Ins{Op: api.IEndOpen})
	default:
		for _, child := range n.Of {
			b.node(child)
		}
		b.emit(simple(n))
	}
}

// variable emits the instructions that push the value of a variable.
func (b *body) variable(binder api.Cap) {
	if binder.Node >= 0 {
		b.emit(api.Ins{Op: api.ILocal, A: b.locals[binder]})
		return
	}
	if fun, ok := b.funOfLet[binder.Part]; ok {
		b.emit(api.Ins{Op: api.IFun, A: fun})
		b.emit(api.Ins{Op: api.IPush, Val: api.Value{Kind: api.VUnit}})
		b.emit(api.Ins{Op: api.ICall})
		return
	}
	b.emit(api.Ins{Op: api.IPush, Val: b.shared[binder.Part]})
}

// function emits the instruction that makes the closure of a function.
func (b *body) function(k int) {
	var captured []int
	for _, binder := range b.closed.Own[k] {
		captured = append(captured, b.locals[binder])
	}
	b.emit(api.Ins{Op: api.IFun, A: b.funOfNode[k], L: captured})
}

// branches emits the instructions of a node that does not run all of its children.
func (b *body) branches(k int, n api.Node) {
	switch n.Kind {
	case api.EIf:
		b.node(n.Of[0])
		otherwise := b.jump(api.IFalse)
		b.node(n.Of[1])
		end := b.jump(api.IJump)
		otherwise()
		b.node(n.Of[2])
		end()
	case api.EMatch:
		b.node(n.Of[0])
		none := b.jump(api.INone)
		b.scope(k, n.Of[2])
		end := b.jump(api.IJump)
		none()
		b.node(n.Of[1])
		end()
	case api.ETry:
		handler := b.jump(api.ITry)
		b.node(n.Of[0])
		end := b.jump(api.IEndTry)
		handler()
		b.scope(k, n.Of[1])
		end()
	case api.EOrElse:
		right := b.jump(api.IOrElse)
		b.node(n.Of[0])
		end := b.jump(api.IEndLeft)
		right()
		b.node(n.Of[1])
		end()
	}
}

// simple returns the instruction that follows those of a node's children.
func simple(n api.Node) api.Ins {
	switch n.Kind {
	case api.ENum:
		return api.Ins{Op: api.IPush, Val: api.Value{Kind: api.VInt, N: n.N}}
	case api.EBool:
		return api.Ins{Op: api.IPush, Val: api.Value{Kind: api.VBool, N: n.N}}
	case api.EUnit:
		return api.Ins{Op: api.IPush, Val: api.Value{Kind: api.VUnit}}
	case api.ENone:
		return api.Ins{Op: api.IPush, Val: api.Value{Kind: api.VNone}}
	case api.EBin:
		return api.Ins{Op: api.IBin, A: n.N}
	}
	instructions := map[int]int{
		api.EApp: api.ICall, api.EPair: api.IPair, api.EFst: api.IFst, api.ESnd: api.ISnd, api.ESome: api.ISome,
		api.EIndex: api.IIndex, api.EGet: api.IGet, api.ESet: api.ISet, api.ERaise: api.IRaise, api.EPrint: api.IPrint, api.ERetry: api.IRetry,
	}
	return api.Ins{Op: instructions[n.Kind]}
}
