package types

import "hallmoot/api"

// checker collects the equations between the types of a program.
type checker struct {
	union
	prog    api.Prog
	globals map[string]int  // the types of the declared references, arrays and lets
	locks   map[string]bool // the declared locks
	typeOf  []int           // of each node; none if it is not used
	arrowOf []int           // of each used function
	unnamed bool            // a name does not exist

	integer, boolean, unit int
}

// scope is a list of bound names, the innermost one first.
type scope struct {
	name  string
	typed int
	outer *scope
}

func newChecker(p api.Prog) *checker {
	c := &checker{prog: p, globals: map[string]int{}, locks: map[string]bool{}}
	c.typeOf = make([]int, len(p.Nodes))
	c.arrowOf = make([]int, len(p.Nodes))
	for k := range p.Nodes {
		c.typeOf[k], c.arrowOf[k] = none, none
	}
	c.integer, c.boolean, c.unit = c.add(intType), c.add(boolType), c.add(unitType)
	return c
}

// declare checks a declaration and makes its name visible to the later ones.
func (c *checker) declare(d api.Decl) {
	switch d.Kind {
	case api.DRef:
		c.globals[d.Name] = c.add(sharedRef, c.region(d.Open))
	case api.DArray:
		c.globals[d.Name] = c.add(sharedArray, c.region(d.Open))
	case api.DLock:
		c.locks[d.Name] = true
	case api.DCheck:
		c.join(c.expr(d.Body, nil), c.boolean)
	case api.DLet:
		c.globals[d.Name] = c.expr(d.Body, nil)
	case api.DThread:
		c.expr(d.Body, nil)
	}
}

func (c *checker) region(open bool) int {
	if open {
		return c.add(openRegion)
	}
	return c.add(closedRegion)
}

// fresh returns a new variable.
func (c *checker) fresh() int { return c.add(variable) }

// newArrow returns a new arrow, of the function k or of no function yet.
func (c *checker) newArrow(k int) int {
	t := c.add(arrow)
	c.terms[t].least = k
	return t
}

// expr returns the type of a node in a scope.
func (c *checker) expr(k int, s *scope) int {
	node := c.prog.Nodes[k]
	var t int
	switch node.Kind {
	case api.EFun, api.ELet, api.ERec, api.EMatch, api.ETry:
		t = c.binder(k, node, s)
	case api.EVar:
		t = c.lookUp(node.Name, s)
	default:
		children := make([]int, len(node.Of))
		for i, child := range node.Of {
			children[i] = c.expr(child, s)
		}
		t = c.simple(node, children)
	}
	c.typeOf[k] = t
	return t
}

func (c *checker) lookUp(name string, s *scope) int {
	for ; s != nil; s = s.outer {
		if s.name == name {
			return s.typed
		}
	}
	t, ok := c.globals[name]
	if !ok {
		c.unnamed = true
		return c.fresh()
	}
	return t
}

// binder returns the type of a node that binds names.
func (c *checker) binder(k int, node api.Node, s *scope) int {
	bind := func(t int) *scope { return &scope{node.Name, t, s} }
	switch node.Kind {
	case api.EFun:
		argument := c.fresh()
		c.arrowOf[k] = c.newArrow(k)
		return c.add(funType, argument, c.expr(node.Of[0], bind(argument)), c.arrowOf[k])
	case api.ELet:
		return c.expr(node.Of[1], bind(c.expr(node.Of[0], s)))
	case api.ERec:
		argument, result := c.fresh(), c.fresh()
		c.arrowOf[k] = c.newArrow(k)
		inner := bind(c.add(funType, argument, result, c.arrowOf[k]))
		c.join(c.expr(node.Of[0], &scope{node.Name2, argument, inner}), result)
		return c.expr(node.Of[1], inner)
	case api.EMatch:
		content := c.fresh()
		c.join(c.expr(node.Of[0], s), c.add(optionType, content))
		result := c.expr(node.Of[1], s)
		c.join(result, c.expr(node.Of[2], bind(content)))
		return result
	}
	body := c.expr(node.Of[0], s) // ETry
	c.join(body, c.expr(node.Of[1], bind(c.integer)))
	return body
}

// simple returns the type of a node that binds no names, given the types of its children.
func (c *checker) simple(node api.Node, of []int) int {
	switch node.Kind {
	case api.ENum:
		return c.integer
	case api.EBool:
		return c.boolean
	case api.EApp:
		result := c.fresh()
		c.join(of[0], c.add(funType, of[1], result, c.newArrow(none)))
		return result
	case api.EIf:
		c.join(of[0], c.boolean)
		c.join(of[1], of[2])
		return of[1]
	case api.ESeq:
		return of[1]
	case api.EBin:
		return c.operation(node.N, of)
	case api.ERaise:
		c.join(of[0], c.integer)
		return c.fresh()
	case api.EAtomic:
		return of[0]
	case api.EOrElse:
		c.join(of[0], of[1])
		return of[0]
	case api.ERetry:
		return c.fresh()
	case api.EOpen:
		if !c.locks[node.Name] {
			c.unnamed = true
		}
		c.join(of[1], c.add(funType, c.unit, c.unit, c.newArrow(none)))
		return of[0]
	case api.EPrint:
		c.join(of[0], c.integer)
	default:
		return c.data(node.Kind, of)
	}
	return c.unit
}

// data returns the type of a node that builds or takes apart data, or accesses shared memory.
func (c *checker) data(kind int, of []int) int {
	switch kind {
	case api.EPair:
		return c.add(pairType, of[0], of[1])
	case api.EFst, api.ESnd:
		first, second := c.fresh(), c.fresh()
		c.join(of[0], c.add(pairType, first, second))
		if kind == api.EFst {
			return first
		}
		return second
	case api.ENone:
		return c.add(optionType, c.fresh())
	case api.ESome:
		return c.add(optionType, of[0])
	case api.EGet:
		c.join(of[0], c.add(sharedRef, c.fresh()))
		return c.integer
	case api.ESet:
		c.join(of[0], c.add(sharedRef, c.fresh()))
		c.join(of[1], c.integer)
	case api.EIndex:
		region := c.fresh()
		c.join(of[0], c.add(sharedArray, region))
		c.join(of[1], c.integer)
		return c.add(sharedRef, region)
	}
	return c.unit
}

func (c *checker) operation(op int, of []int) int {
	operand, result := c.integer, c.boolean
	switch op {
	case api.OAdd, api.OSub, api.OMul:
		result = c.integer
	case api.OAnd, api.OOr:
		operand = c.boolean
	}
	c.join(of[0], operand)
	c.join(of[1], operand)
	return result
}

// tooLong reports whether a used node has a type of too many parts.
func (c *checker) tooLong() bool {
	known := make([]int, len(c.terms))
	for _, t := range c.typeOf {
		if t != none && c.parts(t, known) > mostParts {
			return true
		}
	}
	return false
}
