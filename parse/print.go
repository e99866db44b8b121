package parse

import (
	"strconv"
	"strings"

	"hallmoot/api"
)

// Text returns the source text of a program.
func Text(p api.Prog) string {
	pr := printer{nodes: p.Nodes, done: make([]bool, len(p.Nodes))}
	for _, d := range p.Decls {
		pr.decl(d)
		pr.put(";;")
	}
	return pr.out.String()
}

// printer collects tokens. It prints every node once at most, so that it ends for nodes that are no trees, too.
type printer struct {
	nodes []api.Node
	done  []bool
	out   strings.Builder
	last  byte // the last byte of the output
}

// put prints tokens, with a space where two of them would grow together.
func (p *printer) put(tokens ...string) {
	for _, token := range tokens {
		if token == "" {
			continue
		}
		if isWordByte(p.last) && isWordByte(token[0]) {
			p.out.WriteByte(' ')
		}
		p.out.WriteString(token)
		p.last = token[len(token)-1]
	}
}

func isWordByte(c byte) bool {
	return 'a' <= c && c <= 'z' || 'A' <= c && c <= 'Z' || '0' <= c && c <= '9' || c == '_'
}

func (p *printer) decl(d api.Decl) {
	if d.Open {
		p.put("open")
	}
	if d.Durable {
		p.put("durable")
	}
	switch d.Kind {
	case api.DRef:
		p.put("ref", d.Name)
		if d.N != 0 {
			p.put("=", strconv.Itoa(d.N))
		}
	case api.DArray:
		p.put("array", d.Name, strconv.Itoa(d.N))
	case api.DLock:
		p.put("lock", d.Name)
	case api.DCheck:
		p.put("check")
		p.body(d.Body)
	case api.DLet:
		p.put("let", d.Name, "=")
		p.body(d.Body)
	case api.DThread:
		p.put("thread")
		p.body(d.Body)
	}
}

// body prints the expression of a declaration: only a sequence would end before it is complete there.
func (p *printer) body(k int) {
	if k >= 0 && k < len(p.nodes) && p.nodes[k].Kind == api.ESeq {
		p.operand(k)
		return
	}
	p.plain(k)
}

// operand prints an expression, in parentheses unless it is simple.
func (p *printer) operand(k int) {
	if k < 0 || k >= len(p.nodes) || isSimple(p.nodes[k].Kind) {
		p.plain(k)
		return
	}
	p.put("(")
	p.plain(k)
	p.put(")")
}

func isSimple(kind int) bool {
	switch kind {
	case api.ENum, api.EBool, api.EUnit, api.EVar, api.ENone, api.ERetry, api.EPair, api.EIndex:
		return true
	}
	return false
}

// plain prints an expression without parentheses around it.
func (p *printer) plain(k int) {
	if k < 0 || k >= len(p.nodes) || p.done[k] {
		return
	}
	p.done[k] = true
	node := p.nodes[k]
	switch node.Kind {
	case api.EPair:
		p.put("(")
		p.part(node, 0, p.plain)
		p.put(",")
		p.part(node, 1, p.plain)
		p.put(")")
	case api.EIndex:
		p.part(node, 0, p.operand)
		p.put(".[")
		p.part(node, 1, p.plain)
		p.put("]")
	default:
		words := spelling(node)
		for i, word := range words {
			p.put(strings.Fields(word)...)
			if i < len(words)-1 {
				p.part(node, i, p.operand)
			}
		}
	}
}

// part prints a child of a node, if there is one.
func (p *printer) part(node api.Node, i int, print func(int)) {
	if i < len(node.Of) {
		print(node.Of[i])
	}
}

// spelling returns the tokens of a node before, between and after its operands, as texts of tokens with spaces between them.
func spelling(n api.Node) []string {
	switch n.Kind {
	case api.ENum:
		return []string{strconv.Itoa(n.N)}
	case api.EBool:
		return []string{strconv.FormatBool(n.N != 0)}
	case api.EUnit:
		return []string{"( )"}
	case api.EVar:
		return []string{n.Name}
	case api.ENone:
		return []string{"None"}
	case api.ERetry:
		return []string{"retry"}
	case api.EFun:
		return []string{"fun " + n.Name + " ->", ""}
	case api.EApp:
		return []string{"", "", ""}
	case api.ELet:
		return []string{"let " + n.Name + " =", "in", ""}
	case api.ERec:
		return []string{"let rec " + n.Name + " " + n.Name2 + " =", "in", ""}
	case api.EIf:
		return []string{"if", "then", "else", ""}
	case api.ESeq:
		return []string{"", ";", ""}
	case api.EMatch:
		return []string{"match", "with None ->", "| Some " + n.Name + " ->", ""}
	case api.EBin:
		return []string{"", signOf(n.N), ""}
	case api.ESet:
		return []string{"", ":=", ""}
	case api.ETry:
		return []string{"try", "with " + n.Name + " ->", ""}
	case api.EOrElse:
		return []string{"", "orelse", ""}
	case api.EOpen:
		return []string{"open " + n.Name, "undo", ""}
	}
	return []string{prefixWord(n.Kind), ""}
}

// prefixWord returns the token before the one operand of a node.
func prefixWord(kind int) string {
	switch kind {
	case api.EFst:
		return "fst"
	case api.ESnd:
		return "snd"
	case api.ESome:
		return "Some"
	case api.EGet:
		return "!"
	case api.ERaise:
		return "raise"
	case api.EAtomic:
		return "atomic"
	case api.EPrint:
		return "print"
	}
	return ""
}

func signOf(op int) string {
	for _, level := range precedence {
		for _, o := range level {
			if o.op == op {
				return o.sign
			}
		}
	}
	return ""
}
