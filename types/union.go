package types

import "hallmoot/api"

// none stands where there is no term.
const none = -1

// The kinds of terms beside those of types: sharedRef and sharedArray have a region as their only child.
const (
	variable = iota // of types, regions or arrows
	closedRegion
	openRegion
	arrow // an arrow; only another arrow is equal to it
	intType
	boolType
	unitType
	sharedRef
	sharedArray
	pairType
	optionType
	funType // argument, result and arrow
)

// term is a node of the graph of types. A term whose link is not itself is equal to its link.
type term struct {
	kind  int
	of    []int
	link  int
	least int // of an arrow: the smallest index of a node that has it, or none
}

// union is a union-find structure of terms.
type union struct {
	terms []term
	clash bool // two terms that were made equal cannot be equal
}

func (u *union) add(kind int, of ...int) int {
	k := len(u.terms)
	u.terms = append(u.terms, term{kind: kind, of: of, link: k, least: none})
	return k
}

// find returns the representative of a term, and shortens the path to it.
func (u *union) find(t int) int {
	root := t
	for u.terms[root].link != root {
		root = u.terms[root].link
	}
	for u.terms[t].link != root {
		t, u.terms[t].link = u.terms[t].link, root
	}
	return root
}

// join makes terms equal. The terms are linked before their children are compared, so that it ends for infinite types, too.
func (u *union) join(a, b int) {
	a, b = u.find(a), u.find(b)
	if a == b {
		return
	}
	x, y := u.terms[a], u.terms[b]
	switch {
	case x.kind == variable:
		u.terms[a].link = b
	case y.kind == variable:
		u.terms[b].link = a
	case x.kind != y.kind:
		u.clash = true
	default:
		u.terms[a].link = b
		u.terms[b].least = smaller(x.least, y.least)
		for i := range x.of {
			u.join(x.of[i], y.of[i])
		}
	}
}

// smaller returns the smaller of two indices, either of which may be none.
func smaller(a, b int) int {
	if a == none || b != none && b < a {
		return b
	}
	return a
}

// The states of a term in the search for cycles.
const (
	unseen = iota
	entered
	left
)

// finite reports whether no type contains itself.
func (u *union) finite() bool {
	state := make([]int, len(u.terms))
	for t := range u.terms {
		if !u.acyclic(t, state) {
			return false
		}
	}
	return true
}

func (u *union) acyclic(t int, state []int) bool {
	t = u.find(t)
	if state[t] != unseen {
		return state[t] == left
	}
	state[t] = entered
	for _, child := range u.terms[t].of {
		if !u.acyclic(child, state) {
			return false
		}
	}
	state[t] = left
	return true
}

// parts returns the number of parts of a finite type, or mostParts+1 if there are more. The table known holds what was counted before: counting shared parts again and again could take exponential time.
func (u *union) parts(t int, known []int) int {
	t = u.find(t)
	if known[t] != 0 {
		return known[t]
	}
	n := 1
	switch x := u.terms[t]; x.kind {
	case pairType, funType:
		n += u.parts(x.of[0], known) + u.parts(x.of[1], known)
	case optionType:
		n += u.parts(x.of[0], known)
	}
	known[t] = min(n, mostParts+1)
	return known[t]
}

// read returns the type of a term; what is left open becomes unit or the closed region.
func (u *union) read(t int) api.Type {
	x := u.terms[u.find(t)]
	switch x.kind {
	case intType:
		return api.Type{Kind: api.TInt}
	case boolType:
		return api.Type{Kind: api.TBool}
	case sharedRef:
		return api.Type{Kind: u.inRegion(x.of[0], api.TRef, api.TOpen)}
	case sharedArray:
		return api.Type{Kind: u.inRegion(x.of[0], api.TArray, api.TOArr)}
	case pairType:
		return api.Type{Kind: api.TPair, Of: []api.Type{u.read(x.of[0]), u.read(x.of[1])}}
	case optionType:
		return api.Type{Kind: api.TOpt, Of: []api.Type{u.read(x.of[0])}}
	case funType:
		least := u.terms[u.find(x.of[2])].least
		return api.Type{Kind: api.TFun, N: least, Of: []api.Type{u.read(x.of[0]), u.read(x.of[1])}}
	}
	return api.Type{Kind: api.TUnit}
}

// inRegion selects one of two kinds by a region.
func (u *union) inRegion(region, closed, open int) int {
	if u.terms[u.find(region)].kind == openRegion {
		return open
	}
	return closed
}
