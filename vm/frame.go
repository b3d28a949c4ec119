package vm

import (
	"ossuary/api"
	"ossuary/code"
	"ossuary/value"
)

// Kinds of completions: how the execution of code goes on.
const (
	none      = iota // with the next instruction
	finished         // likewise, behind a block that ended by itself
	thrown           // with what catches the value
	returned         // the function ends with the value
	broken           // behind a loop
	continued        // with the next round of a loop
	gave             // a generator gives the value
	over             // the run has ended
)

// A completion tells how the execution goes on; at is the place of a loop among the marks.
type completion struct {
	kind int
	val  api.Val
	at   int
}

// Kinds of marks.
const (
	loopMark = iota
	tryMark
	finishMark
	iterMark
)

// A mark is something in progress that ways out have to pass: a loop, a try, an iteration.
type mark struct {
	kind    int
	a, b    int // where a way out leads to
	depth   int // of the stack
	env     int
	pending int // how many blocks of finally were in progress
	walk    walk
}

// A Frame is a call in progress.
type Frame struct {
	f       *code.Func
	pc      int
	fn      api.Val
	this    api.Val
	target  api.Val
	home    int
	args    []api.Val
	env     int
	stack   []api.Val
	marks   []mark
	pending []completion // how it goes on behind the blocks of finally that are in progress

	// How a generator is resumed, if it isn't by a value alone.
	how        int
	sent       api.Val
	delegating bool // it stands at a yield*
}

// Each enumerates the cells that a frame references.
func (f *Frame) Each(yield func(r int) bool) {
	if f == nil {
		return
	}
	for r := range f.all {
		if r != 0 && !yield(r) {
			return
		}
	}
}

func (f *Frame) all(yield func(r int) bool) { f.each(yield) }

// each also enumerates 0, and reports whether yield wants more.
func (f *Frame) each(yield func(r int) bool) bool {
	ok := each([]int{f.env, f.home}, yield) && eachOf([]api.Val{f.fn, f.this, f.target, f.sent}, yield) &&
		eachOf(f.args, yield) && eachOf(f.stack, yield)
	for i := 0; ok && i < len(f.marks); i++ {
		k := f.marks[i]
		ok = yield(k.env) && yield(value.Ref(k.walk.iter)) && yield(value.Ref(k.walk.next))
	}
	for i := 0; ok && i < len(f.pending); i++ {
		ok = yield(value.Ref(f.pending[i].val))
	}
	return ok
}

func (f *Frame) push(v api.Val) { f.stack = append(f.stack, v) }

// pop removes the top; code that isn't a compiler's may find nothing there.
func (f *Frame) pop() api.Val {
	last := len(f.stack) - 1
	if last < 0 {
		return api.Val{}
	}
	v := f.stack[last]
	f.stack[last] = api.Val{}
	f.stack = f.stack[:last]
	return v
}

// popAll removes the topmost n values and returns them in the order in which they were pushed.
func (f *Frame) popAll(n int) []api.Val {
	from := len(f.stack) - min(max(n, 0), len(f.stack))
	l := append([]api.Val(nil), f.stack[from:]...)
	f.cut(from)
	return l
}

// peek returns a value below i others.
func (f *Frame) peek(i int) api.Val {
	if i < 0 || i >= len(f.stack) {
		return api.Val{}
	}
	return f.stack[len(f.stack)-1-i]
}

// cut shortens the stack.
func (f *Frame) cut(depth int) {
	if depth < len(f.stack) {
		clear(f.stack[depth:])
		f.stack = f.stack[:depth]
	}
}

func (f *Frame) addMark(k mark) {
	k.depth, k.env, k.pending = len(f.stack), f.env, len(f.pending)
	f.marks = append(f.marks, k)
}

// dropMark removes the newest mark.
func (f *Frame) dropMark() mark {
	last := len(f.marks) - 1
	if last < 0 {
		return mark{a: f.pc}
	}
	k := f.marks[last]
	f.marks[last] = mark{}
	f.marks = f.marks[:last]
	return k
}

// restore sets a frame back to what it was at a mark, to go on elsewhere.
func (f *Frame) restore(k mark, pc int) {
	f.cut(k.depth)
	f.pending = f.pending[:min(k.pending, len(f.pending))]
	f.env, f.pc = k.env, pc
}

// loopAt returns the place of the loop's mark that is below n other loops' marks, or -1.
func (f *Frame) loopAt(n int) int {
	for i := len(f.marks) - 1; i >= 0; i-- {
		if f.marks[i].kind != loopMark {
			continue
		}
		if n == 0 {
			return i
		}
		n--
	}
	return -1
}

// walk returns the newest iteration in progress, or nil.
func (f *Frame) walk() *walk {
	for i := len(f.marks) - 1; i >= 0; i-- {
		if f.marks[i].kind == iterMark {
			return &f.marks[i].walk
		}
	}
	return nil
}

// leave takes a way out, past all marks up to the one that takes it in. What is returned without a
// mark to go on at leaves the function.
func (m *Machine) leave(f *Frame, c completion) completion {
	for len(f.marks) > 0 {
		last := len(f.marks) - 1
		k := f.marks[last]
		if c.kind == continued && c.at == last {
			f.restore(k, k.b)
			return completion{}
		}
		f.dropMark()
		switch {
		case k.kind == loopMark && c.kind == broken && c.at == last:
			f.restore(k, k.a)
			return completion{}
		case k.kind == tryMark && c.kind == thrown:
			f.restore(k, k.a)
			f.push(c.val)
			return completion{}
		case k.kind == finishMark:
			f.restore(k, k.a)
			f.pending = append(f.pending, c)
			return completion{}
		case k.kind == iterMark:
			c = m.leaveWalk(k.walk, c)
		}
		if c.kind == over {
			return c
		}
	}
	if c.kind != thrown && c.kind != over {
		c.kind = returned
	}
	return c
}

// leaveWalk closes an iterator that is left; what that throws replaces what isn't an exception.
func (m *Machine) leaveWalk(w walk, c completion) completion {
	if w.done {
		return c
	}
	pinned := m.pin(c.val)
	defer m.unpin(pinned)
	v, end := m.CloseIter(w.iter, c.kind == thrown)
	switch end {
	case Fine:
		return c
	case Threw:
		return completion{kind: thrown, val: v}
	}
	return completion{kind: over}
}
