// Package step executes operations on shared memory of which only the results of the accesses so far are known. An operation is written as a plain function; it is executed again from its beginning for every access, and left where its log ends.
package step

import "hallmoot/api"

// Run is one execution of an operation.
type Run struct {
	log []api.Result // the results that the operation has not asked for yet
}

// pending leaves an operation at the first access whose result is not known.
type pending struct {
	access api.Access
}

// Of executes an operation. It returns the next access and false, or the outcome and true.
func Of(log []api.Result, operation func(*Run) api.Out) (next api.Access, out api.Out, done bool) {
	defer func() {
		if x := recover(); x != nil {
			p, ok := x.(pending)
			if !ok {
				next, out, done = Refuse(api.ErrArg)
				return
			}
			next, out, done = p.access, api.Out{}, false
		}
	}()
	return api.Access{}, operation(&Run{log: log}), true
}

// Refuse returns the results of an operation that ends with an error, without an access.
func Refuse(err api.Errno) (api.Access, api.Out, bool) {
	return api.Access{}, api.Out{Err: err}, true
}

// Do performs an access.
func (r *Run) Do(a api.Access) api.Result {
	if len(r.log) == 0 {
		panic(pending{a})
	}
	result := r.log[0]
	r.log = r.log[1:]
	return result
}

// Load returns the value of a cell.
func (r *Run) Load(cell int) int {
	return r.Do(api.Access{Kind: api.ALoad, Cell: cell}).Val
}

// Store sets a cell.
func (r *Run) Store(cell, n int) {
	r.Do(api.Access{Kind: api.AStore, Cell: cell, New: n})
}

// Swap sets a cell to another value if it has an expected one, and reports whether it had.
func (r *Run) Swap(cell, old, new int) bool {
	return r.Do(api.Access{Kind: api.ACas, Cell: cell, Old: old, New: new}).Ok
}

// Add adds to a cell and returns its previous value.
func (r *Run) Add(cell, n int) int {
	return r.Do(api.Access{Kind: api.AAdd, Cell: cell, New: n}).Val
}

// Call performs an operation of another layer, given as what its Next returns for a log.
func (r *Run) Call(next func(log []api.Result) (api.Access, api.Out, bool)) api.Out {
	for used := 0; ; used++ {
		access, out, done := next(r.log[:used])
		if done {
			r.log = r.log[used:]
			return out
		}
		if used == len(r.log) {
			panic(pending{access})
		}
	}
}
