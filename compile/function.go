package compile

import (
	"ossuary/api"
	"ossuary/code"
	"ossuary/early"
	"ossuary/tree"
)

// function compiles an expression; one with a name of its own knows itself by a constant.
func (c *compiler) function(n *tree.Node, name string) {
	if n.S == "" {
		c.closure(n, name)
		return
	}
	self := []*tree.Node{n}
	c.within(self, self, func() {
		c.closure(n, name)
		c.emit(code.Dup, 0, 0)
		c.initialize(n.S)
	})
}

func (c *compiler) closure(n *tree.Node, name string) { c.emit(code.Closure, c.compiled(n, name), 0) }

// compiled returns the number of a function's code.
func (c *compiler) compiled(n *tree.Node, name string) int {
	f := &code.Func{
		Name:      name,
		Generator: n.Flags&tree.Generator != 0,
		Arrow:     n.Flags&tree.Arrow != 0,
		Method:    n.Flags&tree.Method != 0,
		Class:     n.Flags&tree.Maker != 0,
		Heir:      n.Flags&tree.Heir != 0,
	}
	inner := &compiler{f: f, scope: c.scope}
	inner.body(n)
	return c.include(f)
}

func (c *compiler) include(f *code.Func) int {
	c.f.Funcs = append(c.f.Funcs, f)
	return len(c.f.Funcs) - 1
}

// body compiles parameters and body, which have one environment together.
func (c *compiler) body(n *tree.Node) {
	params, body := n.Kids[0].Kids, n.Kids[1]
	brief := n.Flags&tree.Brief != 0
	var names, statements []*tree.Node
	for _, p := range params {
		names = append(names, early.Names(p)...)
	}
	if !brief {
		statements = body.Kids
	}
	c.open(append(names, early.Declared(statements)...))
	c.lock(constants(statements))
	c.f.Bindings = len(c.scope.names)
	c.params(params)
	if brief {
		c.expression(body)
		c.emit(code.Return, 0, 0)
		return
	}
	c.statements(statements)
	c.emit(code.Undef, 0, 0)
	c.emit(code.Return, 0, 0)
}

func (c *compiler) params(params []*tree.Node) {
	simple := true
	for i, p := range params {
		simple = simple && p.Kind != tree.Default && p.Kind != tree.Rest
		if simple {
			c.f.Params++
		}
		if p.Kind == tree.Rest {
			c.pattern(p.Kids[0], true, func(int) { c.emit(code.Args, i, 0) })
		} else {
			c.pattern(p, true, func(int) { c.emit(code.Arg, i, 0) })
		}
	}
}

// class compiles a class; inside it, its own name is a constant.
func (c *compiler) class(n *tree.Node, name string) {
	if n.S == "" {
		c.classBody(n, name)
		return
	}
	self := []*tree.Node{n}
	c.within(self, self, func() {
		c.classBody(n, name)
		c.emit(code.Dup, 0, 0)
		c.initialize(n.S)
	})
}

func (c *compiler) classBody(n *tree.Node, name string) {
	heir := 0
	if n.Kids[0].Kind != tree.None {
		heir = 1
		c.expression(n.Kids[0])
	}
	c.emit(code.Class, c.maker(n, name, heir == 1), heir)
	for _, m := range n.Kids[1:] {
		if m.Kids[1].Flags&tree.Maker != 0 {
			continue
		}
		static := 0
		if m.Flags&tree.Static != 0 {
			static = 1
		}
		c.key(m)
		c.method(m)
		c.emit(code.Member, static, 0)
	}
	c.emit(code.Pop, 0, 0)
}

// maker returns the number of the code of a class's constructor.
func (c *compiler) maker(n *tree.Node, name string, heir bool) int {
	for _, m := range n.Kids[1:] {
		if m.Kids[1].Flags&tree.Maker != 0 {
			return c.compiled(m.Kids[1], name)
		}
	}
	f := &code.Func{Name: name, Method: true, Class: true, Heir: heir}
	if heir {
		f.Emit(code.Above, 0, 0)
		f.Emit(code.Args, 0, 0)
		f.Emit(code.SuperAll, 0, 0)
		f.Emit(code.Pop, 0, 0)
	}
	f.Emit(code.Undef, 0, 0)
	f.Emit(code.Return, 0, 0)
	return c.include(f)
}

// method compiles the function of a Member or Prop.
func (c *compiler) method(n *tree.Node) {
	c.closure(n.Kids[1], "")
	c.nameByKey(n)
}

// nameByKey names a function by its key, whose units aren't always a Go string.
func (c *compiler) nameByKey(n *tree.Node) {
	if n.Flags&tree.Computed == 0 && n.Kids[0].Kind == tree.String {
		c.emit(code.Name, c.f.Constant(api.Val{K: api.Str, S: n.Kids[0].S}), 0)
	}
}

func (c *compiler) object(n *tree.Node) {
	c.emit(code.Object, 0, 0)
	for _, p := range n.Kids {
		if p.Kind == tree.Spread {
			c.expression(p.Kids[0])
			c.emit(code.Merge, 0, 0)
			continue
		}
		c.key(p)
		if p.Flags&tree.Method != 0 {
			c.method(p)
			c.emit(code.MethodIndex, 0, 0)
			continue
		}
		c.withName(p.Kids[1], "")
		if isNameless(p.Kids[1]) {
			c.nameByKey(p)
		}
		c.emit(code.OwnIndex, 0, 0)
	}
}

func isNameless(n *tree.Node) bool {
	return (n.Kind == tree.Func || n.Kind == tree.Class) && n.S == ""
}
