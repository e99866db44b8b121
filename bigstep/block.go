package bigstep

import (
	"slices"

	"hallmoot/api"
)

// point is a point of an evaluation that it can be rolled back to.
type point struct {
	locs  []int
	undo  int // the number of registered compensations
	wrote bool
}

func (m *machine) here() point {
	return point{locs: slices.Clone(m.locs), undo: len(m.undo), wrote: m.wrote}
}

// restore sets all locations that are open, or all that are not, to earlier values.
func (m *machine) restore(locs []int, open bool) {
	for loc, n := range locs {
		if m.open[loc] == open {
			m.locs[loc] = n
		}
	}
}

// rollBack returns to a point and compensates what open blocks did since.
func (m *machine) rollBack(p point) {
	m.restore(p.locs, false)
	m.wrote = p.wrote
	for len(m.undo) > p.undo {
		last := len(m.undo) - 1
		compensation := m.undo[last]
		m.undo = m.undo[:last]
		m.compensate(compensation)
	}
}

// compensate applies a compensation. A failure of it is ignored, but for exhausted fuel, which ends the evaluation as a whole.
func (m *machine) compensate(compensation api.Value) {
	before := slices.Clone(m.locs)
	_, end := attempt(func() api.Value {
		return m.apply(compensation, api.Value{Kind: api.VUnit})
	})
	if end.kind != api.RVal {
		m.restore(before, true)
	}
	if end.kind != api.RVal && end.kind != api.RExn && end.kind != api.RRetry {
		panic(end)
	}
}

func (m *machine) orElse(child func(int, ...api.Value) api.Value) api.Value {
	start := m.here()
	v, end := attempt(func() api.Value { return child(0) })
	switch end.kind {
	case api.RVal:
		return v
	case api.RRetry:
		m.rollBack(start)
		return child(1)
	}
	panic(end)
}

// nested evaluates an atomic block inside another one.
func (m *machine) nested(child func(int, ...api.Value) api.Value) api.Value {
	start := m.here()
	v, end := attempt(func() api.Value { return child(0) })
	if end.kind == api.RExn {
		m.rollBack(start)
	}
	if end.kind != api.RVal {
		panic(end)
	}
	return v
}

func (m *machine) openBlock(child func(int, ...api.Value) api.Value) api.Value {
	compensation := child(1)
	before := slices.Clone(m.locs)
	v, end := attempt(func() api.Value { return child(0) })
	if end.kind != api.RVal {
		m.restore(before, true)
		panic(end)
	}
	m.undo = append(m.undo, compensation)
	return v
}

// block evaluates an outermost atomic block and records its result.
func (m *machine) block(child func(int, ...api.Value) api.Value) api.Value {
	if len(m.blocks) >= len(m.at) {
		leave(api.RStop, 0)
	}
	m.locs = slices.Clone(m.at[len(m.blocks)])
	m.undo, m.wrote, m.inside = nil, false, true
	start := m.here()
	v, end := attempt(func() api.Value { return child(0) })
	if end.kind == api.RVal && m.wrote && !m.holds(m.locs, Fuel) {
		end = ending{api.RExn, api.ExnCheck}
	}
	if end.kind == api.RExn || end.kind == api.RRetry {
		_, failure := attempt(func() api.Value {
			m.rollBack(start)
			return api.Value{}
		})
		if failure.kind != api.RVal {
			end = failure
		}
	}
	m.inside = false
	m.blocks = append(m.blocks, api.Block{Kind: end.kind, N: end.n, Locs: slices.Clone(m.locs)})
	if end.kind != api.RVal {
		panic(end)
	}
	return v
}
