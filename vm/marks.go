package vm

import "hallmoot/api"

// last returns the last mark, if there is one.
func (m *machine) last() (api.Mark, bool) {
	if len(m.frame.Marks) == 0 {
		return api.Mark{}, false
	}
	return m.frame.Marks[len(m.frame.Marks)-1], true
}

// take removes the last mark, which must have a kind.
func (m *machine) take(kind int) api.Mark {
	mark, ok := m.last()
	need(ok && mark.Kind == kind)
	m.frame.Marks = m.frame.Marks[:len(m.frame.Marks)-1]
	return mark
}

// mark enters a block.
func (m *machine) mark(kind int) {
	m.frame.Marks = append(m.frame.Marks, api.Mark{Kind: kind, Calls: len(m.frame.Calls)})
}

// guard enters a block from which control may continue elsewhere, with the call as it is now.
func (m *machine) guard(i api.Ins) {
	m.frame.Marks = append(m.frame.Marks, api.Mark{Kind: i.Op, A: i.A, Calls: len(m.frame.Calls), Top: *m.top()})
}

// end leaves a block that the same call has entered.
func (m *machine) end(kind int) {
	need(m.take(kind).Calls == len(m.frame.Calls))
}

func (m *machine) open(lock int, compensation api.Value) {
	m.mark(api.IOpen)
	m.request = api.Request{Kind: api.QOpen, A: lock, Val: compensation}
}

// decide ends the evaluation of an invariant.
func (m *machine) decide(holds int) {
	m.cut(m.take(api.ICheck).Calls)
	m.answer(api.QCheck, holds == 1)
}

// cut removes all calls beyond a number.
func (m *machine) cut(calls int) {
	need(calls >= 0 && calls <= len(m.frame.Calls))
	m.frame.Calls = m.frame.Calls[:calls]
}

// answer makes a request that tells whether something succeeded.
func (m *machine) answer(kind int, is bool) {
	m.ask(kind, 0, 0)
	if is {
		m.request.A = 1
	}
}

// unwind lets an exception leave one block.
func (m *machine) unwind() {
	mark, ok := m.last()
	if !ok {
		m.cut(0)
		m.ask(api.QExn, m.frame.Exn, 0)
		return
	}
	m.take(mark.Kind)
	switch mark.Kind {
	case api.ITry:
		m.frame.Calls = continueAt(m.frame.Calls, mark)
		m.bind(api.Value{Kind: api.VInt, N: m.frame.Exn})
		m.caught()
	case api.IAtomic:
		m.ask(api.QDrop, 0, 0)
	case api.IOrElse:
		m.ask(api.QEndL, 0, 0)
	case api.IOpen:
		m.ask(api.QFailO, 0, 0)
	case api.ICheck:
		m.cut(mark.Calls)
		m.caught()
		m.answer(api.QCheck, false)
	case api.IEndOpen:
		m.cut(0)
		m.caught()
		m.answer(api.QUndone, false)
	default:
		fail(api.ErrArg)
	}
}

// caught ends the raising of an exception.
func (m *machine) caught() { m.frame.Raises, m.frame.Exn = false, 0 }
