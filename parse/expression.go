package parse

import (
	"ossuary/lex"
	"ossuary/tree"
)

func (p *parser) assign() *tree.Node {
	p.enter()
	defer p.leave()
	switch {
	case p.is("yield"):
		return p.yield()
	case p.arrowAhead():
		return p.arrow()
	}
	left := p.cond()
	op, ok := assignment(p.now())
	if !ok {
		return left
	}
	if op == "" {
		left = p.refine(left)
	} else {
		p.target(left)
	}
	at := p.now().At
	p.advance()
	return tree.Make(tree.Assign, at, op, left, p.assign())
}

// assignment returns the operator of an assignment without its =.
func assignment(t lex.Token) (string, bool) {
	if t.Kind != lex.Sign {
		return "", false
	}
	switch t.Text {
	case "=", "+=", "-=", "*=", "/=", "%=":
		return t.Text[:len(t.Text)-1], true
	}
	return "", false
}

func (p *parser) yield() *tree.Node {
	n := p.mark(tree.Yield)
	p.advance()
	switch {
	case p.take("*"):
		n.Kind = tree.YieldAll
		add(n, p.assign())
	case !p.endsYield():
		add(n, p.assign())
	}
	return n
}

func (p *parser) endsYield() bool {
	return p.is(";") || p.is(")") || p.is("]") || p.is("}") || p.is(",") || p.is(":") || p.isOf()
}

// arrowAhead decides in advance whether an arrow function begins; it counts all brackets alike.
func (p *parser) arrowAhead() bool {
	if p.now().Kind == lex.Name {
		return matches(p.ahead(), "=>")
	}
	if !p.is("(") {
		return false
	}
	open := 0
	for i := p.i; i < len(p.tokens)-1; i++ {
		if p.tokens[i].Kind != lex.Sign {
			continue
		}
		switch p.tokens[i].Text {
		case "(", "[", "{":
			open++
		case ")", "]", "}":
			open--
		}
		if open == 0 {
			return matches(p.tokens[i+1], "=>")
		}
	}
	return false
}

func (p *parser) arrow() *tree.Node {
	n := p.mark(tree.Func)
	n.Flags = tree.Arrow
	if p.is("(") {
		add(n, p.params())
	} else {
		params := p.mark(tree.Params)
		add(params, p.name())
		add(n, params)
	}
	p.expect("=>")
	if p.is("{") {
		add(n, p.block())
	} else {
		n.Flags |= tree.Brief
		add(n, p.assign())
	}
	return n
}

func (p *parser) cond() *tree.Node {
	test := p.binary(0)
	at := p.now().At
	if !p.take("?") {
		return test
	}
	yes := p.assign()
	p.expect(":")
	return tree.Make(tree.Cond, at, "", test, yes, p.assign())
}

// operator returns how tightly a token binds as a binary operator, and its kind of node; 0: it is none.
func operator(t lex.Token) (int, int) {
	if t.Kind != lex.Sign && t.Kind != lex.Word {
		return 0, 0
	}
	switch t.Text {
	case "??":
		return 1, tree.Else
	case "||":
		return 2, tree.Or
	case "&&":
		return 3, tree.And
	case "===", "!==":
		return 4, tree.Binary
	case "<", ">", "<=", ">=", "in", "instanceof":
		return 5, tree.Binary
	case "+", "-":
		return 6, tree.Binary
	case "*", "/", "%":
		return 7, tree.Binary
	}
	return 0, 0
}

// binary parses operators that bind more tightly than a level.
func (p *parser) binary(level int) *tree.Node {
	left := p.unary()
	for {
		t := p.now()
		tight, kind := operator(t)
		if tight <= level {
			return left
		}
		p.advance()
		left = tree.Make(kind, t.At, "", left, p.binary(tight))
		if kind == tree.Binary {
			left.S = t.Text
		}
	}
}

func (p *parser) unary() *tree.Node {
	p.enter()
	defer p.leave()
	t := p.now()
	switch {
	case p.take("-"), p.take("+"), p.take("!"), p.take("typeof"), p.take("delete"):
		return tree.Make(tree.Unary, t.At, t.Text, p.unary())
	case p.take("++"), p.take("--"):
		operand := p.unary()
		p.target(operand)
		n := tree.Make(tree.Update, t.At, t.Text, operand)
		n.Flags = tree.Ahead
		return n
	}
	n := p.chain(p.primary(), true)
	if t = p.now(); p.is("++") || p.is("--") {
		p.target(n)
		p.advance()
		n = tree.Make(tree.Update, t.At, t.Text, n)
	}
	return n
}

// chain parses what follows a primary expression; behind new, calls don't belong to it.
func (p *parser) chain(n *tree.Node, calls bool) *tree.Node {
	for {
		at := p.now().At
		switch {
		case p.take("."):
			n = tree.Make(tree.Dot, at, p.word(), n)
		case p.take("["):
			n = tree.Make(tree.Index, at, "", n, p.assign())
			p.expect("]")
		case calls && p.is("("):
			n = tree.Make(tree.Call, at, "", n)
			p.arguments(n)
		default:
			return n
		}
	}
}

// word skips a name or key word and returns its text.
func (p *parser) word() string {
	t := p.now()
	if t.Kind != lex.Name && t.Kind != lex.Word {
		p.unexpected()
		return ""
	}
	p.advance()
	return t.Text
}

func (p *parser) arguments(n *tree.Node) {
	p.expect("(")
	for p.more(")") {
		add(n, p.spread())
		if !p.take(",") {
			break
		}
	}
	p.expect(")")
}

// spread parses an expression that ... may precede.
func (p *parser) spread() *tree.Node {
	n := p.mark(tree.Spread)
	if !p.take("...") {
		return p.assign()
	}
	add(n, p.assign())
	return n
}

func (p *parser) primary() *tree.Node {
	t := p.now()
	switch t.Kind {
	case lex.Name:
		return p.name()
	case lex.Number:
		p.advance()
		n := tree.Make(tree.Number, t.At, "")
		n.N = t.N
		return n
	case lex.String:
		p.advance()
		return tree.Make(tree.String, t.At, t.Text)
	case lex.Word:
		return p.wordPrimary()
	}
	switch {
	case p.is("("):
		return p.paren()
	case p.is("["):
		return p.array()
	case p.is("{"):
		return p.object()
	}
	p.unexpected()
	return p.none()
}

func (p *parser) wordPrimary() *tree.Node {
	t := p.now()
	switch t.Text {
	case "this":
		return p.single(tree.This)
	case "null":
		return p.single(tree.Null)
	case "true":
		return p.single(tree.True)
	case "false":
		return p.single(tree.False)
	case "function":
		return p.functionExpression()
	case "class":
		return p.classExpression()
	case "new":
		p.advance()
		n := tree.Make(tree.New, t.At, "", p.chain(p.primary(), false))
		p.arguments(n)
		return n
	case "super":
		return p.super()
	}
	p.unexpected()
	return p.none()
}

// single makes a node of a key word alone.
func (p *parser) single(kind int) *tree.Node {
	n := p.mark(kind)
	p.advance()
	return n
}

func (p *parser) functionExpression() *tree.Node {
	n := p.mark(tree.Func)
	p.advance()
	p.star(n)
	if p.now().Kind == lex.Name {
		n.S = p.identifier()
	}
	p.rest(n)
	return n
}

func (p *parser) classExpression() *tree.Node {
	n := p.mark(tree.Class)
	p.advance()
	if p.now().Kind == lex.Name {
		n.S = p.identifier()
	}
	p.classRest(n)
	return n
}

func (p *parser) super() *tree.Node {
	n := p.mark(tree.Super)
	p.advance()
	if p.take(".") {
		n.Kind = tree.SuperDot
		n.S = p.word()
	} else {
		p.arguments(n)
	}
	return n
}

func (p *parser) array() *tree.Node {
	n := p.mark(tree.Array)
	p.expect("[")
	for p.more("]") {
		if p.is(",") {
			add(n, p.mark(tree.Hole))
			p.advance()
			continue
		}
		add(n, p.spread())
		if !p.take(",") {
			break
		}
	}
	p.expect("]")
	return n
}

func (p *parser) object() *tree.Node {
	n := p.mark(tree.Object)
	p.expect("{")
	for p.more("}") {
		if p.is("...") {
			add(n, p.spread())
		} else {
			add(n, p.property())
		}
		if !p.take(",") {
			break
		}
	}
	p.expect("}")
	return n
}

func (p *parser) property() *tree.Node {
	n := p.mark(tree.Prop)
	next := p.ahead()
	if p.now().Kind == lex.Name && (matches(next, ",") || matches(next, "}") || matches(next, "=")) {
		n.Flags = tree.Short
		add(n, p.shortKey(), p.withDefault(p.name()))
		return n
	}
	f := tree.Make(tree.Func, 0, "")
	f.Flags = tree.Method
	p.star(f)
	p.key(n)
	if f.Flags&tree.Generator == 0 && !p.is("(") {
		p.expect(":")
		add(n, p.assign())
		return n
	}
	n.Flags |= tree.Method
	f.At = p.now().At
	p.rest(f)
	add(n, f)
	return n
}
