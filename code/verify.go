package code

import (
	"hallmoot/api"
	"hallmoot/value"
)

// unreached is the state before an instruction that cannot be reached.
const unreached = -1

// step is what an instruction does to the operand stack and to the bound variables, and where control continues.
type step struct {
	pops, pushes, unbinds, binds int
	next, jumps                  bool // with the next instruction, or at A
	jumpBinds                    int  // more variables that are bound at A
}

// stepOf returns the step of an instruction.
func stepOf(i api.Ins) step {
	s := step{next: true}
	switch i.Op {
	case api.IPush, api.ILocal, api.IFun:
		s.pushes = 1
	case api.IBind:
		s.pops, s.binds = 1, 1
	case api.IUnbind:
		s.unbinds = i.A
	case api.ICall, api.IPair, api.IBin, api.IIndex, api.ISet:
		s.pops, s.pushes = 2, 1
	case api.IGet, api.IFst, api.ISnd, api.ISome, api.IPrint:
		s.pops, s.pushes = 1, 1
	case api.IDrop, api.IOpen:
		s.pops = 1
	case api.IFalse:
		s.pops, s.jumps = 1, true
	case api.INone:
		s.pops, s.jumps = 1, true
		s.binds, s.jumpBinds = 1, -1
	case api.ITry:
		s.jumps, s.jumpBinds = true, 1
	case api.IOrElse:
		s.jumps = true
	case api.IJump, api.IEndTry, api.IEndLeft:
		s.next, s.jumps = false, true
	case api.ICheck, api.IRaise, api.IReturn:
		s.next, s.pops = false, 1
	case api.IRetry:
		s.next = false
	}
	return s
}

// Depth returns the height of the operand stack and the number of bound variables before each instruction of a function, or nil if the function is not sound.
func Depth(c api.Code, fun int) [][2]int {
	if fun < 0 || fun >= len(c.Funs) || len(c.Funs[fun].Ins) == 0 {
		return nil
	}
	ins := c.Funs[fun].Ins
	depths := make([][2]int, len(ins))
	for k, i := range ins {
		if i.Op < api.IPush || i.Op > api.ICheck {
			return nil
		}
		depths[k] = [2]int{unreached, unreached}
	}
	depths[0] = [2]int{}
	work := []int{0}
	reach := func(k int, state [2]int) bool {
		if k < 0 || k >= len(ins) {
			return false
		}
		if depths[k] == [2]int{unreached, unreached} {
			depths[k] = state
			work = append(work, k)
		}
		return depths[k] == state
	}
	for len(work) > 0 {
		k := work[len(work)-1]
		work = work[:len(work)-1]
		s := stepOf(ins[k])
		stack, bound := depths[k][0], depths[k][1]
		if stack < s.pops || s.unbinds < 0 || bound < s.unbinds {
			return nil
		}
		after := [2]int{stack - s.pops + s.pushes, bound - s.unbinds + s.binds}
		if s.next && !reach(k+1, after) {
			return nil
		}
		after[1] += s.jumpBinds
		if s.jumps && !reach(ins[k].A, after) {
			return nil
		}
	}
	return depths
}

// Right reports whether code is valid.
func Right(c api.Code) bool {
	if len(c.Funs) < 1 || len(c.Funs) > api.MaxNode || len(c.Locs) > api.MaxLoc ||
		len(c.Open) != len(c.Locs) || len(c.Durable) != len(c.Locs) || c.Locks < 0 || c.Locks > api.MaxLock ||
		len(c.Threads) < 1 || len(c.Threads) > api.MaxThread || len(c.Checks) > api.MaxCheck {
		return false
	}
	for _, n := range c.Locs {
		if n < -api.Most || n > api.Most {
			return false
		}
	}
	for _, entries := range [...][]int{c.Threads, c.Checks} {
		for _, fun := range entries {
			if fun < 0 || fun >= len(c.Funs) || c.Funs[fun].Own != 0 || c.Funs[fun].Rec {
				return false
			}
		}
	}
	for fun := range c.Funs {
		if !rightFun(c, fun) {
			return false
		}
	}
	return true
}

func rightFun(c api.Code, fun int) bool {
	f := c.Funs[fun]
	depths := Depth(c, fun)
	if f.Own < 0 || f.Own > api.MaxNode || depths == nil {
		return false
	}
	first := 1 + f.Own
	if f.Rec {
		first++
	}
	for k, i := range f.Ins {
		if depths[k][0] != unreached && !rightIns(c, i, depths[k][0], first+depths[k][1]) {
			return false
		}
	}
	return true
}

// rightIns reports whether an instruction is valid where the operand stack has a height and some local variables exist.
func rightIns(c api.Code, i api.Ins, stack, locals int) bool {
	switch i.Op {
	case api.ILocal:
		return i.A >= 0 && i.A < locals
	case api.IFun:
		if i.A < 0 || i.A >= len(c.Funs) || len(i.L) != c.Funs[i.A].Own {
			return false
		}
		for _, local := range i.L {
			if local < 0 || local >= locals {
				return false
			}
		}
	case api.IBin:
		return i.A >= api.OAdd && i.A <= api.OOr
	case api.IGet, api.ISet:
		return i.A == 0 || i.A == 1
	case api.IOpen:
		return i.A >= 0 && i.A < c.Locks
	case api.IPush:
		return value.Right(i.Val) && inMemory(i.Val, len(c.Locs))
	case api.IReturn, api.ICheck:
		return stack == 1
	}
	return true
}

// inMemory reports whether all references and arrays in a valid value belong to existing locations.
func inMemory(v api.Value, locs int) bool {
	switch v.Kind {
	case api.VRef:
		return v.N < locs
	case api.VArray:
		return v.N+v.M <= locs
	}
	for _, part := range v.Of {
		if !inMemory(part, locs) {
			return false
		}
	}
	return true
}
