package opt

import "hallmoot/api"

// The kinds of names.
const (
	unknown = iota
	location
	local
	array
	integer
)

// name is what is known of a value: its kind and two numbers (of an array, its first location and its length).
type name [3]int

// canBeAvailable reports whether a name identifies one location.
func (n name) canBeAvailable() bool { return n[0] == location || n[0] == local }

// state is what the analysis knows before an instruction.
type state struct {
	stack     []name       // the top of the operand stack; what is below it is unknown
	locals    map[int]name // of the local variables that have another name than their own
	available map[name]bool
}

// forget starts a basic block.
func (s *state) forget() {
	s.stack = nil
	s.locals = map[int]name{}
	s.available = map[name]bool{}
}

func (s *state) push(n name) { s.stack = append(s.stack, n) }

func (s *state) pop() name {
	if len(s.stack) == 0 {
		return name{}
	}
	top := s.stack[len(s.stack)-1]
	s.stack = s.stack[:len(s.stack)-1]
	return top
}

// access executes an IGet or ISet and reports whether its location was available.
func (s *state) access(op int) bool {
	if op == api.ISet {
		s.pop()
	}
	operand := s.pop()
	s.push(name{})
	if !operand.canBeAvailable() {
		return false
	}
	was := s.available[operand]
	s.available[operand] = true
	return was
}

// step executes any other instruction where a number of local variables exist.
func (s *state) step(i api.Ins, locals int) {
	switch i.Op {
	case api.IPush:
		s.push(nameOf(i.Val))
	case api.ILocal:
		s.push(s.local(i.A))
	case api.IBind:
		s.bind(locals, s.pop())
	case api.IUnbind:
		s.unbind(locals-max(i.A, 0), locals)
	case api.IIndex:
		index := s.pop()
		s.push(element(s.pop(), index))
	case api.INone:
		s.pop()
		s.bind(locals, name{})
	case api.IAtomic, api.IEnd, api.IOrElse, api.IEndLeft, api.IEndOpen:
		clear(s.available)
	case api.IOpen:
		s.pop()
		clear(s.available)
	default:
		s.move(i.Op)
	}
}

// move executes an instruction of whose result nothing is known.
func (s *state) move(op int) {
	switch op {
	case api.IFun:
		s.push(name{})
	case api.ICall, api.IPair, api.IBin:
		s.pop()
		s.pop()
		s.push(name{})
	case api.IFst, api.ISnd, api.ISome, api.IPrint:
		s.pop()
		s.push(name{})
	case api.IDrop, api.IFalse, api.ICheck, api.IRaise, api.IReturn:
		s.pop()
	}
}

// nameOf returns the name of a constant.
func nameOf(v api.Value) name {
	switch v.Kind {
	case api.VRef:
		return name{location, v.N}
	case api.VArray:
		return name{array, v.N, v.M}
	case api.VInt:
		return name{integer, v.N}
	}
	return name{}
}

// element returns the name of an array's element.
func element(a, index name) name {
	if a[0] == array && index[0] == integer && index[1] >= 0 && index[1] < a[2] {
		return name{location, a[1] + index[1]}
	}
	return name{}
}

func (s *state) local(k int) name {
	if n, ok := s.locals[k]; ok {
		return n
	}
	return name{local, k}
}

// bind names a new local variable.
func (s *state) bind(k int, n name) {
	delete(s.locals, k)
	if n.canBeAvailable() || n[0] == array {
		s.locals[k] = n
	}
}

// unbind forgets the local variables from the first one to the one before end.
func (s *state) unbind(first, end int) {
	gone := func(k int) bool { return k >= first && k < end }
	for k := range s.locals {
		if gone(k) {
			delete(s.locals, k)
		}
	}
	for k, n := range s.stack {
		if n[0] == local && gone(n[1]) {
			s.stack[k] = name{}
		}
	}
	for n := range s.available {
		if n[0] == local && gone(n[1]) {
			delete(s.available, n)
		}
	}
}
