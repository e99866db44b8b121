package vm

import (
	"slices"

	"hallmoot/api"
	"hallmoot/value"
)

// machine executes a frame of its own.
type machine struct {
	code    api.Code
	frame   api.Frame
	request api.Request
}

// instruction is the meaning of an opcode: how many values it pops, of which kinds (0 for any), and what it does with them. The values are in the order in which they were pushed.
type instruction struct {
	pops   int
	kinds  [2]int
	effect func(m *machine, i api.Ins, v [2]api.Value)
}

// instructions returns the meanings of all opcodes.
func instructions() [api.ICheck + 1]instruction {
	none := [2]int{}
	one := func(kind int) [2]int { return [2]int{kind} }
	return [...]instruction{
		api.IPush:    {0, none, func(m *machine, i api.Ins, v [2]api.Value) { m.push(i.Val) }},
		api.ILocal:   {0, none, func(m *machine, i api.Ins, v [2]api.Value) { m.push(m.local(i.A)) }},
		api.IBind:    {1, none, func(m *machine, i api.Ins, v [2]api.Value) { m.bind(v[0]) }},
		api.IUnbind:  {0, none, func(m *machine, i api.Ins, v [2]api.Value) { m.unbind(i.A) }},
		api.IFun:     {0, none, func(m *machine, i api.Ins, v [2]api.Value) { m.closure(i) }},
		api.ICall:    {2, one(api.VFun), func(m *machine, i api.Ins, v [2]api.Value) { m.call(v[0], v[1]) }},
		api.IReturn:  {1, none, func(m *machine, i api.Ins, v [2]api.Value) { m.leave(v[0]) }},
		api.IJump:    {0, none, func(m *machine, i api.Ins, v [2]api.Value) { m.jump(i.A) }},
		api.IFalse:   {1, one(api.VBool), func(m *machine, i api.Ins, v [2]api.Value) { m.branch(v[0].N != 1, i.A) }},
		api.IDrop:    {1, none, func(m *machine, i api.Ins, v [2]api.Value) {}},
		api.IPair:    {2, none, func(m *machine, i api.Ins, v [2]api.Value) { m.push(data(api.VPair, v[0], v[1])) }},
		api.IFst:     {1, one(api.VPair), func(m *machine, i api.Ins, v [2]api.Value) { m.push(part(v[0], 0, 2)) }},
		api.ISnd:     {1, one(api.VPair), func(m *machine, i api.Ins, v [2]api.Value) { m.push(part(v[0], 1, 2)) }},
		api.ISome:    {1, none, func(m *machine, i api.Ins, v [2]api.Value) { m.push(data(api.VSome, v[0])) }},
		api.INone:    {1, none, func(m *machine, i api.Ins, v [2]api.Value) { m.match(v[0], i.A) }},
		api.IBin:     {2, none, func(m *machine, i api.Ins, v [2]api.Value) { m.operate(i.A, v[0], v[1]) }},
		api.IGet:     {1, one(api.VRef), func(m *machine, i api.Ins, v [2]api.Value) { m.ask(api.QGet, m.location(v[0]), i.A) }},
		api.ISet:     {2, [2]int{api.VRef, api.VInt}, func(m *machine, i api.Ins, v [2]api.Value) { m.ask(api.QSet, m.location(v[0]), v[1].N) }},
		api.IIndex:   {2, [2]int{api.VArray, api.VInt}, func(m *machine, i api.Ins, v [2]api.Value) { m.index(v[0], v[1].N) }},
		api.IRaise:   {1, one(api.VInt), func(m *machine, i api.Ins, v [2]api.Value) { m.frame = Raise(m.frame, v[0].N) }},
		api.ITry:     {0, none, func(m *machine, i api.Ins, v [2]api.Value) { m.guard(i) }},
		api.IEndTry:  {0, none, func(m *machine, i api.Ins, v [2]api.Value) { m.end(api.ITry); m.jump(i.A) }},
		api.IAtomic:  {0, none, func(m *machine, i api.Ins, v [2]api.Value) { m.mark(api.IAtomic); m.ask(api.QAtomic, 0, 0) }},
		api.IEnd:     {0, none, func(m *machine, i api.Ins, v [2]api.Value) { m.end(api.IAtomic); m.ask(api.QEnd, 0, 0) }},
		api.IOrElse:  {0, none, func(m *machine, i api.Ins, v [2]api.Value) { m.guard(i); m.ask(api.QLeft, 0, 0) }},
		api.IEndLeft: {0, none, func(m *machine, i api.Ins, v [2]api.Value) { m.end(api.IOrElse); m.jump(i.A); m.ask(api.QEndL, 0, 0) }},
		api.IRetry:   {0, none, func(m *machine, i api.Ins, v [2]api.Value) { m.ask(api.QRetry, 0, 0) }},
		api.IOpen:    {1, one(api.VFun), func(m *machine, i api.Ins, v [2]api.Value) { m.open(i.A, v[0]) }},
		api.IEndOpen: {0, none, func(m *machine, i api.Ins, v [2]api.Value) { m.end(api.IOpen); m.ask(api.QEndO, 0, 0) }},
		api.IPrint:   {1, one(api.VInt), func(m *machine, i api.Ins, v [2]api.Value) { m.ask(api.QPrint, v[0].N, 0) }},
		api.ICheck:   {1, one(api.VBool), func(m *machine, i api.Ins, v [2]api.Value) { m.decide(v[0].N) }},
	}
}

// fail leaves the instruction; Next recovers.
func fail(err api.Errno) { panic(err) }

// need fails unless a condition holds.
func need(is bool) {
	if !is {
		fail(api.ErrArg)
	}
}

// execute executes one instruction.
func (m *machine) execute(table *[api.ICheck + 1]instruction) {
	if m.frame.Spent == Fuel {
		fail(api.ErrFuel)
	}
	need(len(m.frame.Calls) > 0)
	call := m.top()
	ins := m.code.Funs[call.Fun].Ins
	need(call.Pc < len(ins))
	i := ins[call.Pc]
	need(i.Op >= api.IPush && i.Op <= api.ICheck)
	meaning := table[i.Op]
	height := len(call.Stack) - meaning.pops
	need(height >= 0)
	var v [2]api.Value
	for k, popped := range call.Stack[height:] {
		need(meaning.kinds[k] == 0 || popped.Kind == meaning.kinds[k])
		v[k] = popped
	}
	call.Stack = call.Stack[:height]
	call.Pc++
	m.frame.Spent++
	meaning.effect(m, i, v)
}

// top returns the last call, which belongs to this machine alone.
func (m *machine) top() *api.Call { return &m.frame.Calls[len(m.frame.Calls)-1] }

func (m *machine) push(v api.Value) { push(m.top(), v) }

func (m *machine) ask(kind, a, b int) { m.request = api.Request{Kind: kind, A: a, B: b} }

func (m *machine) local(k int) api.Value {
	locals := m.top().Local
	need(k >= 0 && k < len(locals))
	return locals[k]
}

func (m *machine) bind(v api.Value) {
	call := m.top()
	call.Local = append(slices.Clip(call.Local), v)
}

func (m *machine) unbind(n int) {
	call := m.top()
	need(n >= 0 && n <= len(call.Local))
	call.Local = call.Local[:len(call.Local)-n]
}

func (m *machine) jump(to int) {
	call := m.top()
	need(to >= 0 && to <= len(m.code.Funs[call.Fun].Ins))
	call.Pc = to
}

func (m *machine) branch(jumps bool, to int) {
	if jumps {
		m.jump(to)
	}
}

func (m *machine) closure(i api.Ins) {
	var captured []api.Value
	for _, k := range i.L {
		captured = append(captured, m.local(k))
	}
	fun := api.Value{Kind: api.VFun, N: i.A, Of: captured}
	need(isClosure(m.code, fun))
	m.push(fun)
}

func (m *machine) call(fun, argument api.Value) {
	need(isClosure(m.code, fun))
	m.frame.Calls = append(m.frame.Calls, callOf(m.code, fun, argument))
}

// leave returns from a function. A function that returns inside a block of its own would leave the block open.
func (m *machine) leave(result api.Value) {
	calls := len(m.frame.Calls)
	mark, marked := m.last()
	need(!marked || mark.Calls != calls || calls == 1 && !guards(mark))
	if calls > 1 {
		m.frame.Calls = m.frame.Calls[:calls-1]
		m.push(result)
		return
	}
	if marked && mark.Kind == api.IEndOpen {
		m.ask(api.QUndone, 1, 0)
		return
	}
	m.request = api.Request{Kind: api.QDone, Val: result}
}

func data(kind int, of ...api.Value) api.Value { return api.Value{Kind: kind, Of: of} }

// part returns a component of a value that must have some number of them.
func part(v api.Value, k, count int) api.Value {
	need(len(v.Of) == count)
	return v.Of[k]
}

func (m *machine) match(option api.Value, to int) {
	if option.Kind == api.VNone {
		m.jump(to)
		return
	}
	need(option.Kind == api.VSome)
	m.bind(part(option, 0, 1))
}

func (m *machine) operate(op int, a, b api.Value) {
	v, err := value.Bin(op, a, b)
	need(err == api.OK)
	m.push(v)
}

// location returns the location of a reference.
func (m *machine) location(ref api.Value) int {
	need(ref.N >= 0 && ref.N < len(m.code.Locs))
	return ref.N
}

func (m *machine) index(array api.Value, k int) {
	ref, ok := value.Index(array, k)
	if !ok {
		m.frame = Raise(m.frame, api.ExnIndex)
		return
	}
	m.push(ref)
}
