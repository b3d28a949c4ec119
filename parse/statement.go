package parse

import (
	"ossuary/lex"
	"ossuary/tree"
)

func (p *parser) program() *tree.Node {
	n := p.mark(tree.Program)
	for p.now().Kind != lex.End {
		add(n, p.item())
	}
	return n
}

func (p *parser) item() *tree.Node {
	switch {
	case p.is("let") || p.is("const"):
		n := p.let()
		p.expect(";")
		return n
	case p.is("function"):
		n := p.mark(tree.Func)
		p.advance()
		p.star(n)
		n.S = p.identifier()
		p.rest(n)
		return n
	case p.is("class"):
		n := p.mark(tree.Class)
		p.advance()
		n.S = p.identifier()
		p.classRest(n)
		return n
	}
	return p.statement()
}

// star skips a * and sets the flag for it.
func (p *parser) star(f *tree.Node) {
	if p.take("*") {
		f.Flags |= tree.Generator
	}
}

func (p *parser) let() *tree.Node {
	n := tree.Make(tree.Let, p.now().At, p.now().Text)
	p.advance()
	add(n, p.declare())
	for p.take(",") {
		add(n, p.declare())
	}
	return n
}

func (p *parser) declare() *tree.Node {
	n := p.mark(tree.Declare)
	add(n, p.binding())
	if p.take("=") {
		add(n, p.assign())
	}
	return n
}

// rest adds the parameters and the body to a function.
func (p *parser) rest(f *tree.Node) {
	p.enter()
	defer p.leave()
	add(f, p.params())
	add(f, p.block())
}

func (p *parser) params() *tree.Node {
	n := p.mark(tree.Params)
	p.expect("(")
	for p.more(")") {
		if p.is("...") {
			add(n, p.restBinding())
			break
		}
		add(n, p.element())
		if !p.take(",") {
			break
		}
	}
	p.expect(")")
	return n
}

func (p *parser) block() *tree.Node {
	n := p.mark(tree.Block)
	p.expect("{")
	for p.more("}") {
		add(n, p.item())
	}
	p.expect("}")
	return n
}

func (p *parser) statement() *tree.Node {
	p.enter()
	defer p.leave()
	t := p.now()
	if t.Kind == lex.Name && matches(p.ahead(), ":") {
		p.advance()
		p.advance()
		return tree.Make(tree.Label, t.At, t.Text, p.statement())
	}
	if t.Kind != lex.Word && t.Kind != lex.Sign {
		return p.expressionStatement()
	}
	switch t.Text {
	case "{":
		return p.block()
	case ";":
		p.advance()
		return tree.Make(tree.Skip, t.At, "")
	case "if", "while", "do":
		return p.conditional()
	case "for":
		return p.loop()
	case "try":
		return p.try()
	case "return", "throw", "break", "continue":
		return p.leaving()
	case "function", "class", "let", "const":
		p.unexpected()
	}
	return p.expressionStatement()
}

func (p *parser) expressionStatement() *tree.Node {
	n := p.mark(tree.Expr)
	add(n, p.assign())
	p.expect(";")
	return n
}

func (p *parser) paren() *tree.Node {
	p.expect("(")
	n := p.assign()
	p.expect(")")
	return n
}

func (p *parser) conditional() *tree.Node {
	at := p.now().At
	switch {
	case p.take("if"):
		n := tree.Make(tree.If, at, "", p.paren(), p.statement())
		if p.take("else") {
			add(n, p.statement())
		}
		return n
	case p.take("while"):
		return tree.Make(tree.While, at, "", p.paren(), p.statement())
	}
	p.expect("do")
	body := p.statement()
	p.expect("while")
	n := tree.Make(tree.Do, at, "", body, p.paren())
	p.expect(";")
	return n
}

func (p *parser) loop() *tree.Node {
	at := p.now().At
	p.advance()
	p.expect("(")
	first := p.loopFirst()
	if p.isOf() && iterable(first) {
		return p.forOf(at, first)
	}
	n := tree.Make(tree.For, at, "", first)
	p.expect(";")
	add(n, p.unless(";"))
	p.expect(";")
	add(n, p.unless(")"))
	p.expect(")")
	add(n, p.statement())
	return n
}

func (p *parser) loopFirst() *tree.Node {
	switch {
	case p.is("let") || p.is("const"):
		return p.let()
	case p.is(";"):
		return p.none()
	}
	n := p.mark(tree.Expr)
	add(n, p.assign())
	return n
}

// iterable reports whether of may follow what the head of a for begins with.
func iterable(first *tree.Node) bool {
	if first.Kind == tree.Let {
		return len(first.Kids) == 1 && len(first.Kids[0].Kids) == 1
	}
	return first.Kind == tree.Expr
}

func (p *parser) forOf(at int, first *tree.Node) *tree.Node {
	pattern := first.Kids[0]
	if first.Kind == tree.Let {
		pattern = pattern.Kids[0]
	} else {
		pattern = p.refine(pattern)
	}
	p.advance()
	n := tree.Make(tree.ForOf, at, first.S, pattern, p.assign())
	p.expect(")")
	add(n, p.statement())
	return n
}

// unless returns an expression, or None if a sign follows at once.
func (p *parser) unless(sign string) *tree.Node {
	if p.is(sign) {
		return p.none()
	}
	return p.assign()
}

func (p *parser) try() *tree.Node {
	n := p.mark(tree.Try)
	p.advance()
	add(n, p.block())
	pattern, caught := p.none(), p.none()
	if p.take("catch") {
		pattern = p.none()
		if p.take("(") {
			pattern = p.binding()
			p.expect(")")
		}
		caught = p.block()
	}
	last := p.none()
	if p.take("finally") {
		last = p.block()
	} else if caught.Kind == tree.None {
		p.unexpected()
	}
	add(n, pattern, caught, last)
	return n
}

// leaving parses return, throw, break and continue.
func (p *parser) leaving() *tree.Node {
	t := p.now()
	p.advance()
	n := tree.Make(tree.Return, t.At, "")
	switch t.Text {
	case "return":
		if !p.is(";") {
			add(n, p.assign())
		}
	case "throw":
		n.Kind = tree.Throw
		add(n, p.assign())
	default:
		n.Kind = tree.Break
		if t.Text == "continue" {
			n.Kind = tree.Again
		}
		if p.now().Kind == lex.Name {
			n.S = p.identifier()
		}
	}
	p.expect(";")
	return n
}

// classRest adds what a class extends and its members.
func (p *parser) classRest(n *tree.Node) {
	if p.take("extends") {
		add(n, p.unary())
	} else {
		add(n, p.none())
	}
	heir := n.Kids[0].Kind != tree.None
	p.expect("{")
	for p.more("}") {
		if !p.take(";") {
			add(n, p.member(heir))
		}
	}
	p.expect("}")
}

func (p *parser) member(heir bool) *tree.Node {
	n := p.mark(tree.Member)
	if p.now().Kind == lex.Name && p.now().Text == "static" && !matches(p.ahead(), "(") {
		p.advance()
		n.Flags |= tree.Static
	}
	f := tree.Make(tree.Func, 0, "")
	f.Flags = tree.Method
	p.star(f)
	p.key(n)
	if n.Flags == 0 && f.Flags == tree.Method && isText(n.Kids[0], "constructor") {
		f.Flags |= tree.Maker
		if heir {
			f.Flags |= tree.Heir
		}
	}
	f.At = p.now().At
	p.rest(f)
	add(n, f)
	return n
}
