package vm_test

import (
	"reflect"
	"testing"

	"hallmoot/api"
	"hallmoot/code"
	"hallmoot/parse"
	"hallmoot/value"
	"hallmoot/vm"
)

func op(o int) api.Ins           { return api.Ins{Op: o} }
func at(o, a int) api.Ins        { return api.Ins{Op: o, A: a} }
func pushed(v api.Value) api.Ins { return api.Ins{Op: api.IPush, Val: v} }
func num(n int) api.Ins          { return pushed(value.Int(n)) }
func ref(n int) api.Value        { return api.Value{Kind: api.VRef, N: n} }
func data(kind int, of ...api.Value) api.Value {
	return api.Value{Kind: kind, Of: of}
}

var (
	unit = api.Value{Kind: api.VUnit}
	none = api.Value{Kind: api.VNone}
	ret  = op(api.IReturn)
)

// program returns code whose first function is the thread; the others are one that captures nothing, one that is Rec and captures two values, and an invariant.
func program(ins ...api.Ins) api.Code {
	return api.Code{
		Funs:    []api.Func{{Ins: ins}, {Ins: []api.Ins{at(api.ILocal, 0), ret}}, {Own: 2, Rec: true, Ins: []api.Ins{at(api.ILocal, 0), at(api.ILocal, 3), op(api.IPair), ret}}, {Ins: []api.Ins{pushed(value.Bool(true)), op(api.ICheck)}}},
		Threads: []int{0}, Checks: []int{3, 3}, Locs: []int{0, 0, 0}, Open: make([]bool, 3), Durable: make([]bool, 3), Locks: 2,
	}
}

func start(c api.Code) api.Frame {
	f, _ := vm.Start(c, 0)
	return f
}

// P14.1
func TestStart(t *testing.T) {
	c := program(num(1), ret)
	f, err := vm.Start(c, 0)
	want := api.Frame{Calls: []api.Call{{Local: []api.Value{unit}}}}
	if err != api.OK || !reflect.DeepEqual(f, want) {
		t.Error(f, err)
	}
	for _, thread := range []int{-1, 1} {
		if f, err := vm.Start(c, thread); err != api.ErrArg || !reflect.DeepEqual(f, api.Frame{}) {
			t.Error(f, err)
		}
	}
	fun := api.Value{Kind: api.VFun, N: 2, Of: []api.Value{value.Int(7), value.Int(8)}}
	f, err = vm.Undo(c, fun)
	want = api.Frame{Calls: []api.Call{{Fun: 2, Local: []api.Value{unit, fun, value.Int(7), value.Int(8)}}}, Marks: []api.Mark{{Kind: api.IEndOpen}}}
	if err != api.OK || !reflect.DeepEqual(f, want) {
		t.Error(f, err)
	}
	for _, bad := range []api.Value{unit, {Kind: api.VFun, N: 4}, {Kind: api.VFun, N: -1}, {Kind: api.VFun, N: 2}, {Kind: api.VFun, N: 1, Of: []api.Value{unit}}, {Kind: api.VPair, N: 1}} {
		if f, err := vm.Undo(c, bad); err != api.ErrArg || !reflect.DeepEqual(f, api.Frame{}) {
			t.Error(bad, err)
		}
	}
	base := api.Frame{Calls: []api.Call{{Pc: 1, Local: []api.Value{unit}}}, Marks: []api.Mark{{Kind: api.IAtomic, Calls: 1}}, Spent: 5}
	f, err = vm.Check(c, base, 1)
	want = api.Frame{Calls: []api.Call{{Pc: 1, Local: []api.Value{unit}}, {Fun: 3, Local: []api.Value{unit}}}, Marks: []api.Mark{{Kind: api.IAtomic, Calls: 1}, {Kind: api.ICheck, Calls: 1}}, Spent: 5}
	if err != api.OK || !reflect.DeepEqual(f, want) {
		t.Error(f, err)
	}
	for _, which := range []int{-1, 2} {
		if f, err := vm.Check(c, base, which); err != api.ErrArg || !reflect.DeepEqual(f, base) {
			t.Error(which, err)
		}
	}
	if f := vm.Raise(base, -3); !f.Raises || f.Exn != -3 || f.Spent != 5 || base.Raises {
		t.Error(f)
	}
}

// Frames share no unit value: what happens to one of them is not visible in the next one.
func TestUnitsOfFrames(t *testing.T) {
	c := program(num(1), ret)
	base := start(c)
	units := map[string]func() *api.Value{
		"Start": func() *api.Value { f := start(c); return &f.Calls[0].Local[0] },
		"Undo": func() *api.Value {
			f, _ := vm.Undo(c, api.Value{Kind: api.VFun, N: 1})
			return &f.Calls[0].Local[0]
		},
		"Check":  func() *api.Value { f, _ := vm.Check(c, base, 0); return &f.Calls[1].Local[0] },
		"Resume": func() *api.Value { f, _ := vm.Resume(base, ask(api.QSet, 0, 0), 0); return &f.Calls[0].Stack[0] },
	}
	for name, of := range units {
		for range 2 {
			v := of()
			if !reflect.DeepEqual(*v, unit) {
				t.Error(name, *v)
			}
			*v = api.Value{Kind: api.VPair, N: 7, Of: []api.Value{none, none}}
		}
	}
	if !reflect.DeepEqual(base, start(c)) {
		t.Error("a frame was modified")
	}
}

func TestRight(t *testing.T) {
	c := program(num(1), ret)
	call := api.Call{Local: []api.Value{unit}}
	frame := func(change func(*api.Frame)) api.Frame {
		f := api.Frame{Calls: []api.Call{call, {Fun: 2, Pc: 4}}, Marks: []api.Mark{{Kind: api.ICheck}, {Kind: api.ITry, A: 2, Calls: 1, Top: call}, {Kind: api.IOpen, Calls: 2}}}
		change(&f)
		return f
	}
	good := map[string]func(*api.Frame){
		"as it is":          func(f *api.Frame) {},
		"no marks":          func(f *api.Frame) { f.Marks = nil },
		"all fuel":          func(f *api.Frame) { f.Spent = vm.Fuel },
		"raising":           func(f *api.Frame) { f.Calls, f.Marks, f.Raises = nil, nil, true },
		"a mark of no kind": func(f *api.Frame) { f.Marks[0].Kind = 77; f.Marks[0].A = -5 },
		"an IEndOpen mark":  func(f *api.Frame) { f.Marks[0].Kind = api.IEndOpen },
		"an IAtomic mark":   func(f *api.Frame) { f.Marks[2] = api.Mark{Kind: api.IAtomic, Calls: 1, A: 99, Top: api.Call{Fun: 99}} },
		"equal numbers":     func(f *api.Frame) { f.Marks[1].Calls = 2 },
	}
	for name, change := range good {
		if !vm.Right(c, frame(change)) {
			t.Error(name)
		}
	}
	bad := map[string]func(*api.Frame){
		"no calls":               func(f *api.Frame) { f.Calls, f.Marks = nil, nil },
		"an unknown function":    func(f *api.Frame) { f.Calls[0].Fun = 4 },
		"a negative function":    func(f *api.Frame) { f.Calls[0].Fun = -1 },
		"Pc behind the end":      func(f *api.Frame) { f.Calls[1].Pc = 5 },
		"a negative Pc":          func(f *api.Frame) { f.Calls[1].Pc = -1 },
		"negative Spent":         func(f *api.Frame) { f.Spent = -1 },
		"too much Spent":         func(f *api.Frame) { f.Spent = vm.Fuel + 1 },
		"Calls too large":        func(f *api.Frame) { f.Marks[2].Calls = 3 },
		"Calls decreasing":       func(f *api.Frame) { f.Marks[1].Calls = 2; f.Marks[2].Calls = 1 },
		"negative Calls":         func(f *api.Frame) { f.Marks[0].Calls = -1 },
		"Calls 0 of ITry":        func(f *api.Frame) { f.Marks[1].Calls = 0 },
		"Calls 0 of IOrElse":     func(f *api.Frame) { f.Marks[1].Kind = api.IOrElse; f.Marks[1].Calls = 0 },
		"Calls 0 of IAtomic":     func(f *api.Frame) { f.Marks[0].Kind = api.IAtomic },
		"Calls 0 of IOpen":       func(f *api.Frame) { f.Marks[0].Kind = api.IOpen },
		"Top of no function":     func(f *api.Frame) { f.Marks[1].Top.Fun = 4 },
		"Top with no Pc":         func(f *api.Frame) { f.Marks[1].Top.Pc = 3 },
		"A behind the end":       func(f *api.Frame) { f.Marks[1].A = 3 },
		"a negative A":           func(f *api.Frame) { f.Marks[1].Kind = api.IOrElse; f.Marks[1].A = -1 },
		"raising with bad marks": func(f *api.Frame) { f.Calls, f.Raises = nil, true },
	}
	for name, change := range bad {
		f := frame(change)
		if vm.Right(c, f) {
			t.Error(name)
		}
		if g, r, err := vm.Next(c, f); err != api.ErrArg || !reflect.DeepEqual(g, f) || !reflect.DeepEqual(r, api.Request{}) {
			t.Error(name, err)
		}
	}
}

// requests runs a frame, answering each QGet with 5, and returns all requests and the last frame.
func requests(c api.Code, f api.Frame) ([]api.Request, api.Frame, api.Errno) {
	var all []api.Request
	for range 50 {
		next, r, err := vm.Next(c, f)
		if err != api.OK {
			return all, next, err
		}
		all = append(all, r)
		if r.Kind == api.QDone || r.Kind == api.QExn || r.Kind == api.QUndone || r.Kind == api.QRetry {
			return all, next, api.OK
		}
		f, err = vm.Resume(next, r, 5)
		if err != api.OK {
			return all, f, err
		}
	}
	return all, f, api.OK
}

func done(v api.Value) api.Request   { return api.Request{Kind: api.QDone, Val: v} }
func ask(kind, a, b int) api.Request { return api.Request{Kind: kind, A: a, B: b} }

// P14.2 and P14.3: requests of short codes.
func TestNext(t *testing.T) {
	i, b := value.Int, value.Bool
	closure := api.Value{Kind: api.VFun, N: 2, Of: []api.Value{unit, i(4)}}
	array := api.Value{Kind: api.VArray, N: 1, M: 2}
	one := func(r api.Request) []api.Request { return []api.Request{r} }
	for name, x := range map[string]struct {
		ins  []api.Ins
		want []api.Request
	}{
		"arithmetic":            {[]api.Ins{num(2), num(3), at(api.IBin, api.OAdd), ret}, one(done(i(5)))},
		"order":                 {[]api.Ins{num(2), num(3), at(api.IBin, api.OSub), ret}, one(done(i(-1)))},
		"booleans":              {[]api.Ins{pushed(b(true)), pushed(b(false)), at(api.IBin, api.OOr), ret}, one(done(b(true)))},
		"locals":                {[]api.Ins{num(2), op(api.IBind), num(3), op(api.IBind), at(api.ILocal, 1), at(api.ILocal, 2), at(api.ILocal, 0), op(api.IPair), op(api.IPair), at(api.IUnbind, 2), ret}, one(done(data(api.VPair, i(2), data(api.VPair, i(3), unit))))},
		"unbinding":             {[]api.Ins{num(2), op(api.IBind), at(api.IUnbind, 2), num(3), op(api.IBind), num(4), op(api.IBind), at(api.ILocal, 1), ret}, one(done(i(4)))},
		"location 0":            {[]api.Ins{pushed(ref(0)), op(api.IGet), op(api.IDrop), pushed(ref(0)), num(1), op(api.ISet), ret}, []api.Request{ask(api.QGet, 0, 0), ask(api.QSet, 0, 1), done(unit)}},
		"selecting":             {[]api.Ins{num(1), num(2), op(api.IPair), op(api.ISnd), op(api.ISome), num(3), op(api.IPair), op(api.IFst), ret}, one(done(data(api.VSome, i(2))))},
		"dropping":              {[]api.Ins{num(1), num(2), op(api.IDrop), ret}, one(done(i(1)))},
		"a true branch":         {[]api.Ins{pushed(b(true)), at(api.IFalse, 4), num(1), ret, num(2), ret}, one(done(i(1)))},
		"a false branch":        {[]api.Ins{pushed(b(false)), at(api.IFalse, 4), num(1), ret, num(2), ret}, one(done(i(2)))},
		"a boolean of 2":        {[]api.Ins{pushed(api.Value{Kind: api.VBool, N: 2}), at(api.IFalse, 4), num(1), ret, num(2), ret}, one(done(i(2)))},
		"a jump":                {[]api.Ins{at(api.IJump, 3), num(1), ret, num(2), ret}, one(done(i(2)))},
		"None":                  {[]api.Ins{pushed(none), at(api.INone, 4), at(api.ILocal, 1), ret, num(2), ret}, one(done(i(2)))},
		"Some":                  {[]api.Ins{num(9), op(api.ISome), at(api.INone, 5), at(api.ILocal, 1), ret, num(2), ret}, one(done(i(9)))},
		"a call":                {[]api.Ins{at(api.IFun, 1), num(9), op(api.ICall), op(api.ISome), ret}, one(done(data(api.VSome, i(9))))},
		"a closure":             {[]api.Ins{num(4), op(api.IBind), {Op: api.IFun, A: 2, L: []int{0, 1}}, num(9), op(api.ICall), ret}, one(done(data(api.VPair, i(9), i(4))))},
		"a closure value":       {[]api.Ins{num(4), op(api.IBind), {Op: api.IFun, A: 2, L: []int{0, 1}}, ret}, one(done(closure))},
		"an index":              {[]api.Ins{pushed(array), num(1), op(api.IIndex), ret}, one(done(ref(2)))},
		"a bad index":           {[]api.Ins{pushed(array), num(2), op(api.IIndex), ret}, one(ask(api.QExn, api.ExnIndex, 0))},
		"a negative index":      {[]api.Ins{pushed(array), num(-1), op(api.IIndex), ret}, one(ask(api.QExn, api.ExnIndex, 0))},
		"a get":                 {[]api.Ins{pushed(ref(1)), at(api.IGet, 1), ret}, []api.Request{ask(api.QGet, 1, 1), done(i(5))}},
		"a set":                 {[]api.Ins{pushed(ref(2)), num(-8), op(api.ISet), ret}, []api.Request{ask(api.QSet, 2, -8), done(unit)}},
		"a print":               {[]api.Ins{num(7), op(api.IPrint), ret}, []api.Request{ask(api.QPrint, 7, 0), done(unit)}},
		"an exception":          {[]api.Ins{num(7), op(api.IRaise)}, one(ask(api.QExn, 7, 0))},
		"a handler":             {[]api.Ins{num(3), at(api.ITry, 5), num(7), op(api.IRaise), op(api.IRetry), at(api.ILocal, 1), at(api.IBin, api.OAdd), at(api.IUnbind, 1), ret}, one(done(i(10)))},
		"no exception":          {[]api.Ins{at(api.ITry, 4), num(7), at(api.IEndTry, 5), op(api.IRetry), at(api.ILocal, 1), ret}, one(done(i(7)))},
		"a handler of a caller": {[]api.Ins{at(api.ITry, 5), at(api.IFun, 1), num(7), op(api.IRaise), op(api.IRetry), at(api.ILocal, 1), ret}, one(done(i(7)))},
		"a block":               {[]api.Ins{op(api.IAtomic), num(7), op(api.IEnd), ret}, []api.Request{ask(api.QAtomic, 0, 0), ask(api.QEnd, 0, 0), done(i(7))}},
		"a left side":           {[]api.Ins{at(api.IOrElse, 4), num(7), at(api.IEndLeft, 5), op(api.IRetry), num(8), ret}, []api.Request{ask(api.QLeft, 0, 0), ask(api.QEndL, 0, 0), done(i(7))}},
		"an open block":         {[]api.Ins{at(api.IFun, 1), at(api.IOpen, 1), num(7), op(api.IEndOpen), ret}, []api.Request{{Kind: api.QOpen, A: 1, Val: api.Value{Kind: api.VFun, N: 1}}, ask(api.QEndO, 0, 0), done(i(7))}},
		"a retry":               {[]api.Ins{op(api.IRetry)}, one(ask(api.QRetry, 0, 0))},
		"leaving blocks":        {[]api.Ins{op(api.IAtomic), at(api.IOrElse, 0), at(api.IFun, 1), at(api.IOpen, 0), num(7), op(api.IRaise)}, []api.Request{ask(api.QAtomic, 0, 0), ask(api.QLeft, 0, 0), {Kind: api.QOpen, Val: api.Value{Kind: api.VFun, N: 1}}, ask(api.QFailO, 0, 0), ask(api.QEndL, 0, 0), ask(api.QDrop, 0, 0), ask(api.QExn, 7, 0)}},
		"leaving to a handler":  {[]api.Ins{at(api.ITry, 5), op(api.IAtomic), num(7), op(api.IRaise), op(api.IRetry), at(api.ILocal, 1), ret}, []api.Request{ask(api.QAtomic, 0, 0), ask(api.QDrop, 0, 0), done(i(7))}},
	} {
		c := program(x.ins...)
		got, _, err := requests(c, start(c))
		if err != api.OK || !reflect.DeepEqual(got, x.want) {
			t.Errorf("%s: %v (%d), want %v", name, got, err, x.want)
		}
	}
}

// P14.2: what is not defined is an error, and leaves the frame as it was.
func TestErrors(t *testing.T) {
	some := pushed(data(api.VSome))
	pair := pushed(data(api.VPair, unit))
	for name, ins := range map[string][]api.Ins{
		"the end":               {num(1), op(api.IDrop)},
		"nothing to drop":       {op(api.IDrop)},
		"one value for two":     {num(1), op(api.IPair)},
		"adding a boolean":      {num(1), pushed(value.Bool(true)), at(api.IBin, api.OAdd), ret},
		"operator 0":            {num(1), num(1), op(api.IBin), ret},
		"branch on a number":    {num(1), at(api.IFalse, 0), num(1), ret},
		"branch too far":        {pushed(value.Bool(false)), at(api.IFalse, 4), num(1), ret},
		"jump too far":          {at(api.IJump, 3), ret},
		"jump back too far":     {at(api.IJump, -1), ret},
		"jump to the end":       {at(api.IJump, 2), ret},
		"no such local":         {at(api.ILocal, 1), ret},
		"a negative local":      {at(api.ILocal, -1), ret},
		"unbind too much":       {at(api.IUnbind, 2), num(1), ret},
		"unbind less":           {at(api.IUnbind, -1), num(1), ret},
		"no such function":      {at(api.IFun, 4), ret},
		"too few captures":      {{Op: api.IFun, A: 2, L: []int{0}}, ret},
		"no local to capture":   {{Op: api.IFun, A: 2, L: []int{0, 1}}, ret},
		"call of a number":      {num(1), num(1), op(api.ICall), ret},
		"call without captures": {pushed(api.Value{Kind: api.VFun, N: 2}), num(1), op(api.ICall), ret},
		"call of nothing":       {pushed(api.Value{Kind: api.VFun, N: 9}), num(1), op(api.ICall), ret},
		"first of a number":     {num(1), op(api.IFst), ret},
		"first of one":          {pair, op(api.IFst), ret},
		"second of one":         {pair, op(api.ISnd), ret},
		"match of a number":     {num(1), at(api.INone, 3), ret, ret},
		"match of a function":   {pushed(api.Value{Kind: api.VFun, Of: []api.Value{unit}}), at(api.INone, 3), num(1), ret},
		"match of an empty one": {some, at(api.INone, 3), num(1), ret},
		"match too far":         {pushed(none), at(api.INone, 5), num(1), ret},
		"get of a number":       {num(1), op(api.IGet), ret},
		"get of no location":    {pushed(ref(3)), op(api.IGet), ret},
		"get of location -1":    {pushed(ref(-1)), op(api.IGet), ret},
		"set of a number":       {num(1), num(1), op(api.ISet), ret},
		"set to a boolean":      {pushed(ref(1)), pushed(value.Bool(true)), op(api.ISet), ret},
		"set of no location":    {pushed(ref(3)), num(1), op(api.ISet), ret},
		"index of a number":     {num(1), num(1), op(api.IIndex), ret},
		"index by a boolean":    {pushed(api.Value{Kind: api.VArray, M: 1}), pushed(value.Bool(true)), op(api.IIndex), ret},
		"raise of a boolean":    {pushed(value.Bool(true)), op(api.IRaise)},
		"print of unit":         {pushed(unit), op(api.IPrint), ret},
		"open with a number":    {num(1), op(api.IOpen), ret},
		"end of no handler":     {num(1), at(api.IEndTry, 2), ret},
		"end of no block":       {op(api.IEnd), ret},
		"end of no left side":   {at(api.IEndLeft, 1), ret},
		"end of no open block":  {op(api.IEndOpen), ret},
		"check of nothing":      {pushed(value.Bool(true)), op(api.ICheck)},
		"no opcode":             {op(0)}, "opcode 32": {op(32)}, "opcode -1": {op(-1)},
		"no handler there": {at(api.ITry, 9), num(1), op(api.IRaise)},
	} {
		c := program(ins...)
		f := start(c)
		g, r, err := vm.Next(c, f)
		if err != api.ErrArg || !reflect.DeepEqual(g, f) || !reflect.DeepEqual(r, api.Request{}) {
			t.Errorf("%s: %v %v %d", name, g, r, err)
		}
	}
	// After a request: the wrong end of a block, and returns from inside of it.
	for name, ins := range map[string][]api.Ins{
		"the end of another block": {op(api.IAtomic), at(api.IEndLeft, 0)},
		"return inside a block":    {op(api.IAtomic), num(1), ret},
		"return inside an orelse":  {at(api.IOrElse, 0), num(1), ret},
		"return inside an open":    {at(api.IFun, 1), op(api.IOpen), num(1), ret},
	} {
		c := program(ins...)
		if _, _, err := requests(c, start(c)); err != api.ErrArg {
			t.Error(name, err)
		}
	}
	c := program(at(api.ITry, 0), num(1), ret)
	if _, _, err := vm.Next(c, start(c)); err != api.ErrArg {
		t.Error("return inside a handler", err)
	}
	c = program(op(api.IAtomic), at(api.IFun, 1), num(1), op(api.ICall), ret)
	c.Funs[1].Ins = []api.Ins{num(1), op(api.IEnd), ret}
	if _, _, err := requests(c, start(c)); err != api.ErrArg {
		t.Error("the end of a caller's block", err)
	}
	c = program(pushed(api.Value{Kind: api.VFun, N: 2}), num(1), op(api.ICall), ret)
	c.Funs[2].Ins = []api.Ins{at(api.ILocal, 0), ret}
	if _, _, err := vm.Next(c, start(c)); err != api.ErrArg {
		t.Error("a call without captures", err)
	}
	c = program(at(api.IJump, 0))
	f := start(c)
	if g, r, err := vm.Next(c, f); err != api.ErrFuel || !reflect.DeepEqual(g, f) || !reflect.DeepEqual(r, api.Request{}) {
		t.Error("a loop", err)
	}
}

// Returns beside marks that are no blocks of the function, and marks in a list with spare capacity.
func TestReturn(t *testing.T) {
	c := program(num(1), ret)
	for i, x := range []struct {
		mark  api.Mark
		calls int
		want  api.Request
		err   api.Errno
	}{
		{api.Mark{Kind: api.ICheck, Calls: 1}, 1, done(value.Int(1)), api.OK}, {api.Mark{Kind: api.ICheck}, 1, done(value.Int(1)), api.OK}, {api.Mark{Kind: api.IEndOpen, Calls: 1}, 1, ask(api.QUndone, 1, 0), api.OK},
		{api.Mark{Kind: api.ICheck, Calls: 2}, 2, api.Request{}, api.ErrArg}, {api.Mark{Kind: api.IAtomic, Calls: 1}, 1, api.Request{}, api.ErrArg}, {api.Mark{Kind: api.IAtomic, Calls: 1}, 2, api.Request{}, api.ErrArg},
	} {
		f := start(c)
		for len(f.Calls) < x.calls {
			f.Calls = append(f.Calls, f.Calls[0])
		}
		f.Marks = []api.Mark{x.mark}
		if _, r, err := vm.Next(c, f); err != x.err || !reflect.DeepEqual(r, x.want) {
			t.Error(i, r, err)
		}
	}
	c = program(op(api.IAtomic))
	f := start(c)
	marks := make([]api.Mark, 2)
	marks[0] = api.Mark{Kind: api.ICheck}
	f.Marks = marks[:1]
	if _, r, err := vm.Next(c, f); err != api.OK || r.Kind != api.QAtomic || marks[1].Kind != 0 {
		t.Error("the list of marks was modified", r, err, marks)
	}
	if vm.Fuel != 4000 {
		t.Error("the fuel")
	}
}

// Spent counts instructions; its limit is reached before the next instruction.
func TestSpent(t *testing.T) {
	c := program(num(2), num(3), at(api.IBin, api.OAdd), ret)
	f := start(c)
	g, r, err := vm.Next(c, f)
	want := api.Frame{Calls: []api.Call{{Pc: 4, Local: []api.Value{unit}, Stack: []api.Value{}}}, Marks: g.Marks, Spent: 4}
	if err != api.OK || !reflect.DeepEqual(r, done(value.Int(5))) || !reflect.DeepEqual(g, want) || len(g.Marks) != 0 {
		t.Error(g, r, err)
	}
	f.Spent = vm.Fuel - 4
	if _, _, err := vm.Next(c, f); err != api.OK {
		t.Error(err)
	}
	f.Spent++
	if _, _, err := vm.Next(c, f); err != api.ErrFuel {
		t.Error(err)
	}
	f.Calls[0].Pc = 4
	f.Spent = vm.Fuel
	if _, _, err := vm.Next(c, f); err != api.ErrFuel {
		t.Error("fuel comes first", err)
	}
}

// P14.3: the frames after unwinding.
func TestUnwind(t *testing.T) {
	c := program(num(1), ret, num(2), ret)
	call := api.Call{Pc: 1, Local: []api.Value{unit}, Stack: []api.Value{ref(1)}}
	base := func(marks ...api.Mark) api.Frame {
		return api.Frame{Calls: []api.Call{call, {Fun: 1, Local: []api.Value{unit}}, {Fun: 2}}, Marks: marks, Spent: 7, Raises: true, Exn: 9}
	}
	first := api.Mark{Kind: api.IAtomic, Calls: 1}
	for name, x := range map[string]struct {
		mark   api.Mark
		calls  []api.Call
		raises bool
		want   api.Request
	}{
		"IAtomic":  {api.Mark{Kind: api.IAtomic, Calls: 2}, base().Calls, true, ask(api.QDrop, 0, 0)},
		"IOrElse":  {api.Mark{Kind: api.IOrElse, Calls: 2}, base().Calls, true, ask(api.QEndL, 0, 0)},
		"IOpen":    {api.Mark{Kind: api.IOpen, Calls: 2}, base().Calls, true, ask(api.QFailO, 0, 0)},
		"ICheck":   {api.Mark{Kind: api.ICheck, Calls: 2}, base().Calls[:2], false, ask(api.QCheck, 0, 0)},
		"IEndOpen": {api.Mark{Kind: api.IEndOpen, Calls: 2}, base().Calls[:0], false, ask(api.QUndone, 0, 0)},
	} {
		f, r, err := vm.Next(c, base(first, x.mark))
		want := base(first)
		want.Calls, want.Raises = x.calls, x.raises
		if !x.raises {
			want.Exn = 0
		}
		if err != api.OK || !reflect.DeepEqual(r, x.want) || !reflect.DeepEqual(f, want) {
			t.Errorf("%s: %v %v %d", name, f, r, err)
		}
	}
	f, r, err := vm.Next(c, base())
	if err != api.OK || !reflect.DeepEqual(r, ask(api.QExn, 9, 0)) || len(f.Calls) != 0 || !f.Raises || f.Exn != 9 || f.Spent != 7 {
		t.Error("no mark", f, r, err)
	}
	top := api.Call{Local: []api.Value{unit, value.Int(3)}, Stack: []api.Value{ref(2)}}
	f, r, err = vm.Next(c, base(first, api.Mark{Kind: api.ITry, A: 2, Calls: 2, Top: top}))
	if err != api.ErrArg {
		t.Error("one value too many at the end", f, r, err)
	}
	c.Funs[0].Ins[3] = op(api.IPair)
	c.Funs[0].Ins = append(c.Funs[0].Ins, at(api.ILocal, 2), op(api.IPair), op(api.IPrint))
	c.Funs[0].Ins[6] = ret
	f, r, err = vm.Next(c, base(api.Mark{Kind: api.ITry, A: 2, Calls: 1, Top: top}))
	if err != api.OK || len(f.Calls) != 1 || f.Raises || f.Exn != 0 || f.Spent != 12 || !value.Same(r.Val, data(api.VPair, data(api.VPair, ref(2), value.Int(2)), value.Int(9))) {
		t.Error("ITry", f, r, err)
	}
	if g, _, err := vm.Next(c, base(api.Mark{Kind: api.IPush, Calls: 1})); err != api.ErrArg || !reflect.DeepEqual(g, base(api.Mark{Kind: api.IPush, Calls: 1})) {
		t.Error("a mark of another kind", err)
	}
}

// Invariants and compensations.
func TestCheckAndUndo(t *testing.T) {
	for _, x := range []struct {
		ins  []api.Ins
		want int
	}{{[]api.Ins{pushed(value.Bool(true)), op(api.ICheck)}, 1}, {[]api.Ins{pushed(value.Bool(false)), op(api.ICheck)}, 0}, {[]api.Ins{pushed(api.Value{Kind: api.VBool, N: 5}), op(api.ICheck)}, 0}, {[]api.Ins{num(1), op(api.IRaise)}, 0}} {
		c := program(num(1), ret)
		c.Funs[3].Ins = x.ins
		f, _ := vm.Check(c, start(c), 0)
		f, r, err := vm.Next(c, f)
		if err != api.OK || !reflect.DeepEqual(r, ask(api.QCheck, x.want, 0)) || len(f.Calls) != 1 || len(f.Marks) != 0 || f.Raises || f.Calls[0].Pc != 0 {
			t.Error(f, r, err)
		}
		if _, r, err := vm.Next(c, f); err != api.OK || !reflect.DeepEqual(r, done(value.Int(1))) {
			t.Error(r, err)
		}
	}
	for _, x := range []struct {
		ins  []api.Ins
		want int
	}{{[]api.Ins{num(1), ret}, 1}, {[]api.Ins{num(1), op(api.IRaise)}, 0}} {
		c := program(num(1), ret)
		c.Funs[1].Ins = x.ins
		f, _ := vm.Undo(c, api.Value{Kind: api.VFun, N: 1})
		if _, r, err := vm.Next(c, f); err != api.OK || !reflect.DeepEqual(r, ask(api.QUndone, x.want, 0)) {
			t.Error(r, err)
		}
	}
}

// P14.4
func TestResume(t *testing.T) {
	f := api.Frame{Calls: []api.Call{{}, {Stack: []api.Value{unit}}}}
	for kind := -1; kind <= 17; kind++ {
		got, err := vm.Resume(f, api.Request{Kind: kind}, 4)
		want := []api.Value{unit}
		switch kind {
		case api.QGet:
			want = append(want, value.Int(4))
		case api.QSet, api.QPrint:
			want = append(want, unit)
		}
		if err != api.OK || !reflect.DeepEqual(got.Calls[1].Stack, want) || len(got.Calls[0].Stack) != 0 || len(f.Calls[1].Stack) != 1 {
			t.Error(kind, got, err)
		}
		_, err = vm.Resume(api.Frame{}, api.Request{Kind: kind}, 4)
		if (err == api.ErrArg) != (len(want) == 2) {
			t.Error(kind, err)
		}
	}
	for n, want := range map[int]api.Errno{api.Most: api.OK, -api.Most: api.OK, api.Most + 1: api.ErrArg, -api.Most - 1: api.ErrArg} {
		if got, err := vm.Resume(f, api.Request{Kind: api.QGet}, n); err != want || err != api.OK && !reflect.DeepEqual(got, f) {
			t.Error(n, err)
		}
		if _, err := vm.Resume(f, api.Request{Kind: api.QSet}, n); err != api.OK {
			t.Error(n, err)
		}
	}
}

// P14.5
func TestLeft(t *testing.T) {
	top := api.Call{Fun: 1, Pc: 1, Local: []api.Value{unit}}
	left := api.Mark{Kind: api.IOrElse, A: 5, Calls: 2, Top: top}
	atomic, try := api.Mark{Kind: api.IAtomic, Calls: 2}, api.Mark{Kind: api.ITry, Calls: 3, Top: top}
	calls := []api.Call{{Fun: 0}, {Fun: 1, Pc: 9}, {Fun: 2}}
	f := api.Frame{Calls: calls, Marks: []api.Mark{left, atomic, left, atomic, try, atomic}, Spent: 3}
	got, blocks, ok := vm.Left(f)
	continued := top
	continued.Pc = 5
	want := api.Frame{Calls: []api.Call{{Fun: 0}, continued}, Marks: []api.Mark{left, atomic}, Spent: 3}
	if !ok || blocks != 2 || !reflect.DeepEqual(got, want) || calls[1].Pc != 9 {
		t.Error(got, blocks, ok)
	}
	got, blocks, ok = vm.Left(got)
	if !ok || blocks != 1 || len(got.Marks) != 0 {
		t.Error(got, blocks, ok)
	}
	last := api.Frame{Calls: calls[:1], Marks: []api.Mark{{Kind: api.IOrElse, Calls: 1, Top: top}}}
	if got, blocks, ok := vm.Left(last); !ok || blocks != 0 || len(got.Calls) != 1 || got.Calls[0].Fun != 1 {
		t.Error("the first call", got)
	}
	wrong := left
	wrong.Calls = 4
	zero := left
	zero.Calls = 0
	for i, marks := range [][]api.Mark{nil, {atomic, try}, {left, {Kind: api.IOpen, Calls: 2}}, {left, {Kind: api.ICheck, Calls: 2}, atomic}, {left, {Kind: api.IEndOpen}}, {left, wrong}, {left, zero}} {
		f := api.Frame{Calls: calls, Marks: marks}
		if got, blocks, ok := vm.Left(f); ok || blocks != 0 || !reflect.DeepEqual(got, f) {
			t.Error(i, got, blocks)
		}
	}
}

// P14.6: well-typed programs do not go wrong. Frames are not modified by later calls.
func TestPrograms(t *testing.T) {
	p, err := parse.Of("ref x;; array a 3;; lock l;; open ref o;; check !x < 100;; let f = fun u -> fun v -> u * v;; thread let rec g n = if n < 1 then (0, None) else (try (if n == 3 then raise 7 else fst (g (n - 1)) + (match Some (f n 2) with None -> 1 | Some y -> y), Some n) with e -> (e, None)) in print fst (g 5);;")
	if err != api.OK {
		t.Fatal(err)
	}
	c, err := code.Of(p)
	if err != api.OK || !code.Right(c) {
		t.Fatal(err)
	}
	f := start(c)
	g, r, err := vm.Next(c, f)
	if err != api.OK || !reflect.DeepEqual(r, ask(api.QPrint, 25, 0)) {
		t.Fatal(r, err)
	}
	again, _, _ := vm.Next(c, f)
	if !reflect.DeepEqual(again, g) || !reflect.DeepEqual(f, start(c)) {
		t.Error("a frame was modified")
	}
	one, _ := vm.Resume(g, r, 0)
	two, _ := vm.Resume(g, ask(api.QGet, 0, 0), 3)
	if v := one.Calls[0].Stack[len(one.Calls[0].Stack)-1]; !value.Same(v, unit) {
		t.Error("two frames share a stack", v, two)
	}
	if _, r, err := vm.Next(c, one); err != api.OK || !reflect.DeepEqual(r, done(unit)) {
		t.Error(r, err)
	}
}
