package compile

import (
	"slices"

	"ossuary/code"
	"ossuary/early"
	"ossuary/tree"
)

// statements compiles a list whose names have an environment; its functions exist from the beginning.
func (c *compiler) statements(l []*tree.Node) {
	for _, n := range l {
		if n.Kind == tree.Func {
			c.closure(n, n.S)
			c.initialize(n.S)
		}
	}
	for _, n := range l {
		if n.Kind != tree.Func {
			c.statement(n, nil)
		}
	}
}

// constants returns the names that const declares in a list of statements.
func constants(l []*tree.Node) []*tree.Node {
	var out []*tree.Node
	for _, n := range l {
		if n.Kind == tree.Let && n.S == "const" {
			out = append(out, early.Names(n)...)
		}
	}
	return out
}

func (c *compiler) block(l []*tree.Node) {
	c.within(early.Declared(l), constants(l), func() { c.statements(l) })
}

// statement compiles a statement that has labels.
func (c *compiler) statement(n *tree.Node, labels []string) {
	switch n.Kind {
	case tree.Label:
		c.statement(n.Kids[0], append(slices.Clone(labels), n.S))
		return
	case tree.While, tree.Do, tree.For, tree.ForOf:
		c.loop(n, exit{labels, true})
		return
	}
	if len(labels) == 0 {
		c.plain(n)
		return
	}
	mark := c.enterExit(exit{labels, false})
	c.f.Ins[mark].B = -1
	c.plain(n)
	c.emit(code.EndLoop, 0, 0)
	c.leaveExit(mark)
}

// enterExit emits the mark of a loop, whose places are set later.
func (c *compiler) enterExit(e exit) int {
	c.exits = append(c.exits, e)
	return c.emit(code.Loop, 0, 0)
}

// leaveExit makes the next place the one where breaks lead to.
func (c *compiler) leaveExit(mark int) {
	c.exits = c.exits[:len(c.exits)-1]
	c.land(mark)
}

func (c *compiler) plain(n *tree.Node) {
	switch n.Kind {
	case tree.Let:
		c.let(n)
	case tree.Class:
		c.class(n, n.S)
		c.initialize(n.S)
	case tree.Block:
		c.block(n.Kids)
	case tree.If:
		c.conditional(n)
	case tree.Return:
		c.optional(n.Kids)
		c.emit(code.Return, 0, 0)
	case tree.Break, tree.Again:
		c.jump(n)
	case tree.Throw:
		c.expression(n.Kids[0])
		c.emit(code.Throw, 0, 0)
	case tree.Try:
		c.try(n)
	case tree.Expr:
		c.expression(n.Kids[0])
		c.emit(code.Pop, 0, 0)
	}
}

// optional compiles an expression that may be left out.
func (c *compiler) optional(l []*tree.Node) {
	if len(l) == 0 {
		c.emit(code.Undef, 0, 0)
		return
	}
	c.expression(l[0])
}

func (c *compiler) let(n *tree.Node) {
	for _, d := range n.Kids {
		pattern := d.Kids[0]
		c.pattern(pattern, true, func(int) {
			if len(d.Kids) == 1 {
				c.emit(code.Undef, 0, 0)
				return
			}
			c.valueFor(pattern, d.Kids[1])
		})
	}
}

func (c *compiler) conditional(n *tree.Node) {
	c.expression(n.Kids[0])
	no := c.emit(code.JumpNo, 0, 0)
	c.statement(n.Kids[1], nil)
	if len(n.Kids) == 2 {
		c.land(no)
		return
	}
	end := c.emit(code.Jump, 0, 0)
	c.land(no)
	c.statement(n.Kids[2], nil)
	c.land(end)
}

// jump names the mark of a loop by how many marks there are inside it.
func (c *compiler) jump(n *tree.Node) {
	depth := 0
	for _, e := range slices.Backward(c.exits) {
		if n.S == "" && e.loop || slices.Contains(e.labels, n.S) {
			break
		}
		depth++
	}
	if n.Kind == tree.Break {
		c.emit(code.Break, depth, 0)
	} else {
		c.emit(code.Continue, depth, 0)
	}
}

func (c *compiler) loop(n *tree.Node, e exit) {
	switch n.Kind {
	case tree.While:
		mark := c.enterExit(e)
		start := c.here()
		c.f.Ins[mark].B = start
		c.emit(code.Point, 0, 0)
		c.expression(n.Kids[0])
		end := c.emit(code.JumpNo, 0, 0)
		c.statement(n.Kids[1], nil)
		c.emit(code.Jump, start, 0)
		c.land(end)
		c.emit(code.EndLoop, 0, 0)
		c.leaveExit(mark)
	case tree.Do:
		mark := c.enterExit(e)
		start := c.emit(code.Point, 0, 0)
		c.statement(n.Kids[0], nil)
		c.f.Ins[mark].B = c.here()
		c.expression(n.Kids[1])
		c.emit(code.JumpIf, start, 0)
		c.emit(code.EndLoop, 0, 0)
		c.leaveExit(mark)
	case tree.For:
		c.forLoop(n, e)
	case tree.ForOf:
		c.forOf(n, e)
	}
}

// forLoop gives each round its own copy of the variables that let declares.
func (c *compiler) forLoop(n *tree.Node, e exit) {
	first := n.Kids[0]
	names := []*tree.Node(nil)
	if first.Kind == tree.Let {
		names = early.Names(first)
	}
	c.within(names, constants(n.Kids[:1]), func() {
		c.forFirst(first)
		copied := len(names) > 0 && first.S == "let"
		if copied {
			c.emit(code.Again, 0, 0)
		}
		mark := c.enterExit(e)
		start := c.emit(code.Point, 0, 0)
		end := -1
		if n.Kids[1].Kind != tree.None {
			c.expression(n.Kids[1])
			end = c.emit(code.JumpNo, 0, 0)
		}
		c.statement(n.Kids[3], nil)
		c.f.Ins[mark].B = c.here()
		if copied {
			c.emit(code.Again, 0, 0)
			c.emit(code.Mark, 0, 0)
		}
		if n.Kids[2].Kind != tree.None {
			c.expression(n.Kids[2])
			c.emit(code.Pop, 0, 0)
		}
		c.emit(code.Jump, start, 0)
		if end >= 0 {
			c.land(end)
		}
		c.emit(code.EndLoop, 0, 0)
		c.leaveExit(mark)
	})
}

func (c *compiler) forFirst(first *tree.Node) {
	switch first.Kind {
	case tree.Let:
		c.let(first)
	case tree.Expr:
		c.plain(first)
	}
}

// forOf keeps the iterator below the loop's mark, so that a break closes it, and a continue doesn't.
func (c *compiler) forOf(n *tree.Node, e exit) {
	names, locked := c.loopNames(n)
	c.within(names, locked, func() { c.expression(n.Kids[1]) })
	c.emit(code.Open, 0, 0)
	mark := c.enterExit(e)
	start := c.emit(code.Point, 0, 0)
	c.f.Ins[mark].B = start
	next := c.emit(code.Next, 0, 0)
	c.within(names, locked, func() {
		c.pattern(n.Kids[0], n.S != "", func(extra int) { c.emit(code.Pick, extra, 0) })
		c.emit(code.Pop, 0, 0)
		c.statement(n.Kids[2], nil)
	})
	c.emit(code.Jump, start, 0)
	c.land(next)
	c.emit(code.EndLoop, 0, 0)
	c.emit(code.Shut, 0, 0)
	end := c.emit(code.Jump, 0, 0)
	c.leaveExit(mark)
	c.emit(code.Close, 0, 0)
	c.land(end)
}

func (c *compiler) loopNames(n *tree.Node) (names, locked []*tree.Node) {
	if n.S != "" {
		names = early.Names(n.Kids[0])
	}
	if n.S == "const" {
		locked = names
	}
	return names, locked
}

func (c *compiler) try(n *tree.Node) {
	finish := n.Kids[3]
	if finish.Kind == tree.None {
		c.catch(n)
		return
	}
	mark := c.emit(code.Finish, 0, 0)
	if n.Kids[2].Kind == tree.None {
		c.block(n.Kids[0].Kids)
	} else {
		c.catch(n)
	}
	c.emit(code.Ended, 0, 0)
	c.land(mark)
	c.block(finish.Kids)
	c.emit(code.Resume, 0, 0)
}

func (c *compiler) catch(n *tree.Node) {
	mark := c.emit(code.Try, 0, 0)
	c.block(n.Kids[0].Kids)
	c.emit(code.EndTry, 0, 0)
	end := c.emit(code.Jump, 0, 0)
	c.land(mark)
	pattern := n.Kids[1]
	c.within(early.Names(pattern), nil, func() {
		if pattern.Kind != tree.None {
			c.pattern(pattern, true, func(extra int) { c.emit(code.Pick, extra, 0) })
		}
		c.emit(code.Pop, 0, 0)
		c.block(n.Kids[2].Kids)
	})
	c.land(end)
}
