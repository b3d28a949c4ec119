package compile

import (
	"slices"

	"ossuary/api"
	"ossuary/code"
	"ossuary/tree"
)

// expression compiles what leaves one value on the stack.
func (c *compiler) expression(n *tree.Node) {
	switch n.Kind {
	case tree.Number:
		c.constant(api.Val{K: api.Int, N: n.N})
	case tree.String:
		c.constant(api.Val{K: api.Str, S: n.S})
	case tree.Name:
		c.load(n.S)
	case tree.This:
		c.emit(code.This, 0, 0)
	case tree.Null:
		c.emit(code.Null, 0, 0)
	case tree.True:
		c.emit(code.True, 0, 0)
	case tree.False:
		c.emit(code.False, 0, 0)
	case tree.Func:
		c.function(n, n.S)
	case tree.Class:
		c.class(n, n.S)
	case tree.Array:
		c.array(n.Kids)
	case tree.Object:
		c.object(n)
	case tree.Yield:
		c.optional(n.Kids)
		c.emit(code.Yield, 0, 0)
	case tree.YieldAll:
		c.expression(n.Kids[0])
		c.emit(code.Open, 0, 0)
		c.emit(code.Delegate, 0, 0)
	default:
		c.operation(n)
	}
}

func (c *compiler) operation(n *tree.Node) {
	switch n.Kind {
	case tree.Unary:
		c.unary(n)
	case tree.Update:
		c.update(n)
	case tree.Binary:
		c.binary(n)
	case tree.And, tree.Or, tree.Else:
		c.shortcut(n)
	case tree.Cond:
		c.choice(n)
	case tree.Assign:
		c.assignment(n)
	case tree.Call, tree.New, tree.Super:
		c.call(n)
	case tree.Dot:
		c.expression(n.Kids[0])
		c.named(code.Prop, n.S)
	case tree.Index:
		c.expression(n.Kids[0])
		c.expression(n.Kids[1])
		c.emit(code.Index, 0, 0)
	case tree.SuperDot:
		c.named(code.SuperProp, n.S)
	}
}

// valueFor compiles a value for a pattern, whose name a function without one gets.
func (c *compiler) valueFor(pattern, n *tree.Node) {
	if pattern.Kind != tree.Name {
		c.expression(n)
		return
	}
	c.withName(n, pattern.S)
}

func (c *compiler) withName(n *tree.Node, name string) {
	switch {
	case n.Kind == tree.Func && n.S == "":
		c.closure(n, name)
	case n.Kind == tree.Class && n.S == "":
		c.class(n, name)
	default:
		c.expression(n)
	}
}

func (c *compiler) unary(n *tree.Node) {
	operand := n.Kids[0]
	switch {
	case n.S == "typeof" && operand.Kind == tree.Name:
		if _, _, ok := c.scope.find(operand.S); !ok {
			c.emit(code.Undef, 0, 0)
			c.emit(code.Typeof, 0, 0)
			return
		}
	case n.S == "delete":
		c.remove(operand)
		return
	}
	c.expression(operand)
	switch n.S {
	case "-":
		c.emit(code.Neg, 0, 0)
	case "+":
		c.emit(code.Plus, 0, 0)
	case "!":
		c.emit(code.Not, 0, 0)
	case "typeof":
		c.emit(code.Typeof, 0, 0)
	}
}

func (c *compiler) remove(n *tree.Node) {
	c.expression(n.Kids[0])
	if n.Kind == tree.Dot {
		c.named(code.DelProp, n.S)
		return
	}
	c.expression(n.Kids[1])
	c.emit(code.DelIndex, 0, 0)
}

// binary compiles what may be nested deeply to the left.
func (c *compiler) binary(n *tree.Node) {
	var l []*tree.Node
	for ; n.Kind == tree.Binary; n = n.Kids[0] {
		l = append(l, n)
	}
	c.expression(n)
	for _, n := range slices.Backward(l) {
		c.expression(n.Kids[1])
		switch n.S {
		case "in":
			c.emit(code.In, 0, 0)
		case "instanceof":
			c.emit(code.Instance, 0, 0)
		default:
			c.emit(code.Binary, code.Operators(n.S), 0)
		}
	}
}

func (c *compiler) shortcut(n *tree.Node) {
	op := code.And
	switch n.Kind {
	case tree.Or:
		op = code.Or
	case tree.Else:
		op = code.Else
	}
	c.expression(n.Kids[0])
	end := c.emit(op, 0, 0)
	c.expression(n.Kids[1])
	c.land(end)
}

func (c *compiler) choice(n *tree.Node) {
	c.expression(n.Kids[0])
	no := c.emit(code.JumpNo, 0, 0)
	c.expression(n.Kids[1])
	end := c.emit(code.Jump, 0, 0)
	c.land(no)
	c.expression(n.Kids[2])
	c.land(end)
}

// place compiles what an assignment reads again: an object, and perhaps a key. It returns how many values that are.
func (c *compiler) place(n *tree.Node) int {
	if n.Kind == tree.Name {
		return 0
	}
	for _, kid := range n.Kids {
		c.expression(kid)
	}
	return len(n.Kids)
}

// read pushes the value at a place, which stays below it.
func (c *compiler) read(n *tree.Node) {
	switch n.Kind {
	case tree.Name:
		c.load(n.S)
	case tree.Dot:
		c.emit(code.Dup, 0, 0)
		c.named(code.Prop, n.S)
	default:
		c.emit(code.Pick2, 0, 0)
		c.emit(code.Index, 0, 0)
	}
}

// write stores the value on the top at the place below it; the value stays.
func (c *compiler) write(n *tree.Node) {
	switch n.Kind {
	case tree.Name:
		c.emit(code.Dup, 0, 0)
		c.assign(n.S)
	case tree.Dot:
		c.named(code.PutProp, n.S)
	default:
		c.emit(code.PutIndex, 0, 0)
	}
}

func (c *compiler) update(n *tree.Node) {
	target, op := n.Kids[0], code.Inc
	if n.S == "--" {
		op = code.Dec
	}
	size := c.place(target)
	c.read(target)
	c.emit(code.Number, 0, 0)
	if n.Flags&tree.Ahead != 0 {
		c.emit(op, 0, 0)
		c.write(target)
		return
	}
	c.emit(code.Dup, 0, 0)
	c.emit(code.Rot, size+1, 0)
	c.emit(op, 0, 0)
	c.write(target)
	c.emit(code.Pop, 0, 0)
}

func (c *compiler) assignment(n *tree.Node) {
	target, value := n.Kids[0], n.Kids[1]
	switch {
	case target.Kind == tree.ArrayPat || target.Kind == tree.ObjectPat:
		c.expression(value)
		c.pattern(target, false, func(extra int) { c.emit(code.Pick, extra, 0) })
		return
	case n.S == "":
		c.place(target)
		c.valueFor(target, value)
	default:
		c.place(target)
		c.read(target)
		c.expression(value)
		c.emit(code.Binary, code.Operators(n.S), 0)
	}
	c.write(target)
}

// array compiles the parts of an array or the arguments of a call as an array.
func (c *compiler) array(parts []*tree.Node) {
	c.emit(code.Array, 0, 0)
	for _, part := range parts {
		switch part.Kind {
		case tree.Hole:
			c.emit(code.Hole, 0, 0)
		case tree.Spread:
			c.expression(part.Kids[0])
			c.emit(code.PushAll, 0, 0)
		default:
			c.expression(part)
			c.emit(code.Push, 0, 0)
		}
	}
}

func (c *compiler) call(n *tree.Node) {
	args := n.Kids
	op, all := code.Super, code.SuperAll
	switch n.Kind {
	case tree.Call:
		c.callee(n.Kids[0])
		args, op, all = args[1:], code.Call, code.CallAll
	case tree.New:
		c.expression(n.Kids[0])
		args, op, all = args[1:], code.New, code.NewAll
	default:
		c.emit(code.Above, 0, 0)
	}
	if slices.ContainsFunc(args, func(a *tree.Node) bool { return a.Kind == tree.Spread }) {
		c.array(args)
		c.emit(all, 0, 0)
		return
	}
	for _, a := range args {
		c.expression(a)
	}
	c.emit(op, len(args), 0)
}

// callee pushes a function and the this that it is called with.
func (c *compiler) callee(n *tree.Node) {
	switch n.Kind {
	case tree.Dot, tree.Index:
		c.expression(n.Kids[0])
		c.emit(code.Dup, 0, 0)
		if n.Kind == tree.Dot {
			c.named(code.Prop, n.S)
		} else {
			c.expression(n.Kids[1])
			c.emit(code.Index, 0, 0)
		}
		c.emit(code.Swap, 0, 0)
	case tree.SuperDot:
		c.expression(n)
		c.emit(code.This, 0, 0)
	default:
		c.expression(n)
		c.emit(code.Undef, 0, 0)
	}
}
