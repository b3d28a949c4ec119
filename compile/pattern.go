package compile

import (
	"ossuary/code"
	"ossuary/tree"
)

// pattern takes apart the value that a function compiles. What is assigned to is looked up ahead of
// the value, so the function is told how many values lie on the stack above those it knows of.
func (c *compiler) pattern(n *tree.Node, declared bool, value func(extra int)) {
	switch n.Kind {
	case tree.Name:
		value(0)
		if declared {
			c.initialize(n.S)
		} else {
			c.assign(n.S)
		}
	case tree.Dot:
		c.expression(n.Kids[0])
		value(1)
		c.named(code.PutProp, n.S)
		c.emit(code.Pop, 0, 0)
	case tree.Index:
		c.expression(n.Kids[0])
		c.expression(n.Kids[1])
		value(2)
		c.emit(code.PutIndex, 0, 0)
		c.emit(code.Pop, 0, 0)
	case tree.Default:
		c.pattern(n.Kids[0], declared, func(extra int) {
			value(extra)
			c.orElse(n)
		})
	case tree.ArrayPat:
		value(0)
		c.arrayPattern(n, declared)
	case tree.ObjectPat:
		value(0)
		c.objectPattern(n, declared)
	}
}

// orElse replaces undefined by a default.
func (c *compiler) orElse(n *tree.Node) {
	c.emit(code.Dup, 0, 0)
	c.emit(code.Undef, 0, 0)
	c.emit(code.Binary, code.Operators("==="), 0)
	given := c.emit(code.JumpNo, 0, 0)
	c.emit(code.Pop, 0, 0)
	c.valueFor(n.Kids[0], n.Kids[1])
	c.land(given)
}

func (c *compiler) arrayPattern(n *tree.Node, declared bool) {
	c.emit(code.Open, 0, 0)
	for _, part := range n.Kids {
		switch part.Kind {
		case tree.Hole:
			c.emit(code.Step, 0, 0)
			c.emit(code.Pop, 0, 0)
		case tree.Rest:
			c.pattern(part.Kids[0], declared, func(int) { c.emit(code.Rest, 0, 0) })
		default:
			c.pattern(part, declared, func(int) { c.emit(code.Step, 0, 0) })
		}
	}
	c.emit(code.Close, 0, 0)
}

// objectPattern leaves the keys on the stack above the object if the rest must do without them.
func (c *compiler) objectPattern(n *tree.Node, declared bool) {
	c.emit(code.Need, 0, 0)
	last := len(n.Kids) - 1
	others := last >= 0 && n.Kids[last].Kind == tree.Rest
	kept := 0
	for _, part := range n.Kids {
		if part.Kind == tree.Rest {
			c.pattern(part.Kids[0], declared, func(extra int) { c.emit(code.Others, kept, extra) })
			break
		}
		c.key(part)
		c.pattern(part.Kids[1], declared, func(extra int) {
			// Once the object is copied to the top, the key has the place that the object had.
			c.emit(code.Pick, extra+kept+1, 0)
			c.emit(code.Pick, extra+1, 0)
			c.emit(code.Index, 0, 0)
		})
		if others {
			kept++
		} else {
			c.emit(code.Pop, 0, 0)
		}
	}
	for range kept + 1 {
		c.emit(code.Pop, 0, 0)
	}
}

// key compiles the key of a Prop, PropPat or Member; one that is computed is converted at once.
func (c *compiler) key(n *tree.Node) {
	c.expression(n.Kids[0])
	if n.Flags&tree.Computed != 0 {
		c.emit(code.Note, 0, 0)
	}
}
