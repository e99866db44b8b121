package parse

import "hallmoot/api"

// operator is a binary operator and the operation of its EBin.
type operator struct {
	sign string
	op   int
}

// precedence holds the binary operators, those that bind least first.
var precedence = [...][]operator{
	{{"||", api.OOr}},
	{{"&&", api.OAnd}},
	{{"<", api.OLess}, {"==", api.OEq}},
	{{"+", api.OAdd}, {"-", api.OSub}},
	{{"*", api.OMul}},
}

// comparisons is the level of the operators that cannot be chained.
const comparisons = 2

func (p *parser) seq() int {
	first := p.one()
	if !p.accept(";") {
		return first
	}
	return p.add(api.Node{Kind: api.ESeq, Of: []int{first, p.seq()}})
}

func (p *parser) one() int {
	switch {
	case p.accept("let"):
		if p.accept("rec") {
			return p.recursive()
		}
		node := api.Node{Kind: api.ELet, Name: p.name()}
		return p.binding(node)
	case p.accept("fun"):
		name := p.name()
		p.expect("->")
		return p.add(api.Node{Kind: api.EFun, Name: name, Of: []int{p.one()}})
	case p.accept("if"):
		return p.conditional()
	case p.accept("match"):
		return p.match()
	case p.accept("try"):
		body := p.one()
		p.expect("with")
		name := p.name()
		p.expect("->")
		return p.add(api.Node{Kind: api.ETry, Name: name, Of: []int{body, p.one()}})
	case p.accept("raise"):
		return p.prefix(api.ERaise, p.one)
	case p.accept("print"):
		return p.prefix(api.EPrint, p.one)
	case p.accept("atomic"):
		return p.prefix(api.EAtomic, p.one)
	case p.accept("open"):
		name := p.name()
		block := p.one()
		p.expect("undo")
		return p.add(api.Node{Kind: api.EOpen, Name: name, Of: []int{block, p.one()}})
	}
	return p.set()
}

func (p *parser) recursive() int {
	name := p.name()
	return p.binding(api.Node{Kind: api.ERec, Name: name, Name2: p.name()})
}

// binding parses the rest of a let behind its names.
func (p *parser) binding(node api.Node) int {
	p.expect("=")
	value := p.one()
	p.expect("in")
	node.Of = []int{value, p.seq()}
	return p.add(node)
}

func (p *parser) conditional() int {
	condition := p.one()
	p.expect("then")
	yes := p.one()
	p.expect("else")
	return p.add(api.Node{Kind: api.EIf, Of: []int{condition, yes, p.one()}})
}

func (p *parser) match() int {
	option := p.one()
	for _, word := range [...]string{"with", "None", "->"} {
		p.expect(word)
	}
	none := p.one()
	p.expect("|")
	p.expect("Some")
	name := p.name()
	p.expect("->")
	return p.add(api.Node{Kind: api.EMatch, Name: name, Of: []int{option, none, p.one()}})
}

// prefix makes a node with the one operand that a rule parses.
func (p *parser) prefix(kind int, operand func() int) int {
	return p.add(api.Node{Kind: kind, Of: []int{operand()}})
}

func (p *parser) set() int {
	target := p.alt()
	if !p.accept(":=") {
		return target
	}
	return p.add(api.Node{Kind: api.ESet, Of: []int{target, p.one()}})
}

func (p *parser) alt() int {
	left := p.binary(0)
	for p.accept("orelse") {
		left = p.add(api.Node{Kind: api.EOrElse, Of: []int{left, p.binary(0)}})
	}
	return left
}

// binary parses the operators of one level of precedence and of those that bind more.
func (p *parser) binary(level int) int {
	if level == len(precedence) {
		return p.app()
	}
	left := p.binary(level + 1)
	for op := p.operator(level); op != 0; op = p.operator(level) {
		left = p.add(api.Node{Kind: api.EBin, N: op, Of: []int{left, p.binary(level + 1)}})
		if level == comparisons {
			break
		}
	}
	return left
}

// operator takes an operator of a level and returns its operation, or 0 if the next token is none.
func (p *parser) operator(level int) int {
	for _, o := range precedence[level] {
		if p.accept(o.sign) {
			return o.op
		}
	}
	return 0
}

func (p *parser) app() int {
	left := p.pre()
	for p.startsOperand() {
		left = p.add(api.Node{Kind: api.EApp, Of: []int{left, p.pre()}})
	}
	return left
}

// startsOperand reports whether the next token can begin an operand of an application.
func (p *parser) startsOperand() bool {
	if len(p.rest) == 0 {
		return false
	}
	switch token := p.rest[0]; token.Text {
	case "!", "fst", "snd", "Some", "true", "false", "None", "retry", "(":
		return true
	default:
		return token.Kind == api.TNum || token.Kind == api.TName && !isKeyword(token.Text)
	}
}

func (p *parser) pre() int {
	switch {
	case p.accept("!"):
		return p.prefix(api.EGet, p.pre)
	case p.accept("fst"):
		return p.prefix(api.EFst, p.pre)
	case p.accept("snd"):
		return p.prefix(api.ESnd, p.pre)
	case p.accept("Some"):
		return p.prefix(api.ESome, p.pre)
	}
	left := p.prim()
	for p.accept(".[") {
		index := p.seq()
		p.expect("]")
		left = p.add(api.Node{Kind: api.EIndex, Of: []int{left, index}})
	}
	return left
}

func (p *parser) prim() int {
	switch {
	case p.accept("true"):
		return p.add(api.Node{Kind: api.EBool, N: 1})
	case p.accept("false"):
		return p.add(api.Node{Kind: api.EBool})
	case p.accept("None"):
		return p.add(api.Node{Kind: api.ENone})
	case p.accept("retry"):
		return p.add(api.Node{Kind: api.ERetry})
	case p.accept("("):
		return p.brackets()
	case len(p.rest) > 0 && p.rest[0].Kind == api.TNum:
		return p.add(api.Node{Kind: api.ENum, N: p.num()})
	}
	return p.add(api.Node{Kind: api.EVar, Name: p.name()})
}

// brackets parses what follows an opening parenthesis: the unit value, an expression or a pair.
func (p *parser) brackets() int {
	if p.accept(")") {
		return p.add(api.Node{Kind: api.EUnit})
	}
	first := p.seq()
	if p.accept(",") {
		first = p.add(api.Node{Kind: api.EPair, Of: []int{first, p.seq()}})
	}
	p.expect(")")
	return first
}
