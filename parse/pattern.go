package parse

import (
	"ossuary/api"
	"ossuary/lex"
	"ossuary/text"
	"ossuary/tree"
)

func isText(n *tree.Node, s string) bool { return n.Kind == tree.String && n.S == text.Of(s) }

// key adds a key to a Member, Prop or PropPat, which is Computed if it is in [ ].
func (p *parser) key(n *tree.Node) {
	t := p.now()
	key := tree.Make(tree.String, t.At, t.Text)
	switch {
	case p.take("["):
		n.Flags |= tree.Computed
		add(n, p.assign())
		p.expect("]")
		return
	case t.Kind == lex.Name || t.Kind == lex.Word:
		key.S = text.Of(t.Text)
	case t.Kind == lex.Number:
		key.Kind, key.S, key.N = tree.Number, "", t.N
	case t.Kind != lex.String:
		p.unexpected()
	}
	p.advance()
	add(n, key)
}

func (p *parser) name() *tree.Node {
	at := p.now().At
	return tree.Make(tree.Name, at, p.identifier())
}

func (p *parser) binding() *tree.Node {
	p.enter()
	defer p.leave()
	switch {
	case p.is("["):
		return p.arrayBinding()
	case p.is("{"):
		return p.objectBinding()
	}
	return p.name()
}

func (p *parser) element() *tree.Node { return p.withDefault(p.binding()) }

// withDefault makes a Default of a pattern if a value follows it.
func (p *parser) withDefault(pattern *tree.Node) *tree.Node {
	at := p.now().At
	if !p.take("=") {
		return pattern
	}
	return tree.Make(tree.Default, at, "", pattern, p.assign())
}

func (p *parser) restBinding() *tree.Node {
	n := p.mark(tree.Rest)
	p.expect("...")
	add(n, p.binding())
	return n
}

func (p *parser) arrayBinding() *tree.Node {
	n := p.mark(tree.ArrayPat)
	p.expect("[")
	for p.more("]") {
		if p.is(",") {
			add(n, p.mark(tree.Hole))
			p.advance()
			continue
		}
		if p.is("...") {
			add(n, p.restBinding())
			break
		}
		add(n, p.element())
		if !p.take(",") {
			break
		}
	}
	p.expect("]")
	return n
}

func (p *parser) objectBinding() *tree.Node {
	n := p.mark(tree.ObjectPat)
	p.expect("{")
	for p.more("}") {
		if p.is("...") {
			rest := p.restBinding()
			if !p.failed() && rest.Kids[0].Kind != tree.Name {
				p.fail(api.ErrParse, rest.Kids[0].At)
			}
			add(n, rest)
			break
		}
		add(n, p.propertyBinding())
		if !p.take(",") {
			break
		}
	}
	p.expect("}")
	return n
}

func (p *parser) propertyBinding() *tree.Node {
	n := p.mark(tree.PropPat)
	if p.now().Kind == lex.Name && !matches(p.ahead(), ":") {
		n.Flags = tree.Short
		add(n, p.shortKey(), p.withDefault(p.name()))
		return n
	}
	p.key(n)
	p.expect(":")
	add(n, p.element())
	return n
}

// shortKey makes the key of a property that is named like its value, without skipping the name.
func (p *parser) shortKey() *tree.Node {
	return tree.Make(tree.String, p.now().At, text.Of(p.now().Text))
}

// refine converts what was parsed as an expression into a pattern.
func (p *parser) refine(n *tree.Node) *tree.Node {
	switch n.Kind {
	case tree.Array:
		return p.refineArray(n)
	case tree.Object:
		return p.refineObject(n)
	}
	p.target(n)
	return n
}

// target checks that an expression is one that can be assigned to.
func (p *parser) target(n *tree.Node) {
	if n.Kind != tree.Name && n.Kind != tree.Dot && n.Kind != tree.Index {
		p.fail(api.ErrEarly, n.At)
	}
}

// part refines a part of an array or object, which may have a default.
func (p *parser) part(n *tree.Node) *tree.Node {
	switch {
	case n.Kind == tree.Default:
		return n
	case n.Kind == tree.Assign && n.S == "":
		return tree.Make(tree.Default, n.At, "", n.Kids...)
	}
	return p.refine(n)
}

func (p *parser) refineArray(n *tree.Node) *tree.Node {
	pattern := tree.Make(tree.ArrayPat, n.At, "")
	for i, kid := range n.Kids {
		switch {
		case kid.Kind == tree.Hole:
		case kid.Kind == tree.Spread && i == len(n.Kids)-1:
			kid = tree.Make(tree.Rest, kid.At, "", p.refine(kid.Kids[0]))
		default:
			kid = p.part(kid)
		}
		add(pattern, kid)
	}
	return pattern
}

func (p *parser) refineObject(n *tree.Node) *tree.Node {
	pattern := tree.Make(tree.ObjectPat, n.At, "")
	for i, kid := range n.Kids {
		switch {
		case kid.Kind == tree.Spread && i == len(n.Kids)-1:
			p.target(kid.Kids[0])
			kid = tree.Make(tree.Rest, kid.At, "", kid.Kids[0])
		case kid.Kind == tree.Prop && kid.Flags&tree.Method == 0:
			flags := kid.Flags
			kid = tree.Make(tree.PropPat, kid.At, "", kid.Kids[0], p.part(kid.Kids[1]))
			kid.Flags = flags
		default:
			p.target(kid)
		}
		add(pattern, kid)
	}
	return pattern
}
