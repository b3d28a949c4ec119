package tree

import (
	"strconv"
	"strings"

	"ossuary/text"
)

const hexDigits = "0123456789abcdef"

// How tightly an expression binds: one that stands where a tighter one must is put in parentheses.
const (
	loose = iota // assignments, conditions, yield, arrow functions
	elses
	ors
	ands
	unary
	chain // . [ ] and calls
	primary
)

// Quote returns units as a string literal.
func Quote(s string) string {
	var p printer
	p.WriteByte('"')
	for i := range text.Len(s) {
		u := text.At(s, i)
		if u >= 0x20 && u <= 0x7E && u != '"' && u != '\\' {
			p.WriteByte(byte(u))
			continue
		}
		p.WriteString(`\u`)
		for shift := 12; shift >= 0; shift -= 4 {
			p.WriteByte(hexDigits[u>>shift&15])
		}
	}
	p.WriteByte('"')
	return p.String()
}

// Print returns a source text of a tree.
func Print(n *Node) string {
	var p printer
	p.node(n)
	return p.String()
}

// A printer writes sources.
type printer struct {
	strings.Builder
}

// kid returns what is below a node, or nil, so that nodes with too few kids can be printed.
func kid(n *Node, i int) *Node {
	if n == nil || i >= len(n.Kids) {
		return nil
	}
	return n.Kids[i]
}

// rest returns all kids from i on.
func rest(n *Node, i int) []*Node { return n.Kids[min(i, len(n.Kids)):] }

func (p *printer) node(n *Node) {
	if n == nil {
		return
	}
	switch n.Kind {
	case Program, Block, Let, If, While, Do, For, ForOf, Return, Break, Again, Throw, Try, Expr, Label, Skip:
		p.statement(n)
	default:
		p.expression(n)
	}
}

// statement prints a statement, or a Func or Class as a declaration.
func (p *printer) statement(n *Node) {
	if n == nil {
		return
	}
	switch n.Kind {
	case Program:
		p.statements(n)
	case Block:
		p.WriteString("{ ")
		p.statements(n)
		p.WriteString("}")
	case Let:
		p.let(n)
		p.WriteString(";")
	case Return, Throw:
		p.simple(n, kid(n, 0))
	case Break, Again:
		p.jump(n)
	case Expr:
		p.wrapped(kid(n, 0), "{", "function", "class")
		p.WriteString(";")
	case Label:
		p.WriteString(n.S + ": ")
		p.statement(kid(n, 0))
	case Skip:
		p.WriteString(";")
	case Try:
		p.try(n)
	case If, While, Do:
		p.conditional(n)
	case For, ForOf:
		p.loop(n)
	default:
		p.expression(n)
	}
}

func (p *printer) statements(n *Node) {
	for _, s := range n.Kids {
		p.statement(s)
		p.WriteString(" ")
	}
}

func (p *printer) let(n *Node) {
	p.WriteString(n.S + " ")
	for i, d := range n.Kids {
		if i > 0 {
			p.WriteString(", ")
		}
		p.expression(kid(d, 0))
		if value := kid(d, 1); value != nil {
			p.WriteString(" = ")
			p.expression(value)
		}
	}
}

// simple prints a word with an expression, if there is one.
func (p *printer) simple(n, operand *Node) {
	if n.Kind == Return {
		p.WriteString("return")
	} else {
		p.WriteString("throw")
	}
	if operand != nil {
		p.WriteString(" ")
		p.node(operand)
	}
	p.WriteString(";")
}

func (p *printer) jump(n *Node) {
	if n.Kind == Break {
		p.WriteString("break")
	} else {
		p.WriteString("continue")
	}
	if n.S != "" {
		p.WriteString(" " + n.S)
	}
	p.WriteString(";")
}

func (p *printer) try(n *Node) {
	p.WriteString("try ")
	p.statement(kid(n, 0))
	if block := kid(n, 2); block != nil && block.Kind == Block {
		p.WriteString(" catch ")
		if pattern := kid(n, 1); pattern != nil && pattern.Kind != None {
			p.WriteString("(")
			p.expression(pattern)
			p.WriteString(") ")
		}
		p.statement(block)
	}
	if block := kid(n, 3); block != nil && block.Kind == Block {
		p.WriteString(" finally ")
		p.statement(block)
	}
}

func (p *printer) conditional(n *Node) {
	switch n.Kind {
	case If:
		p.head("if (", kid(n, 0), ") ", kid(n, 1))
		if other := kid(n, 2); other != nil {
			p.WriteString(" else ")
			p.statement(other)
		}
	case While:
		p.head("while (", kid(n, 0), ") ", kid(n, 1))
	case Do:
		p.WriteString("do ")
		p.statement(kid(n, 0))
		p.head(" while (", kid(n, 1), ");", nil)
	}
}

func (p *printer) head(before string, condition *Node, after string, body *Node) {
	p.WriteString(before)
	p.expression(condition)
	p.WriteString(after)
	p.statement(body)
}

func (p *printer) loop(n *Node) {
	p.WriteString("for (")
	if n.Kind == ForOf {
		if n.S != "" {
			p.WriteString(n.S + " ")
		}
		p.expression(kid(n, 0))
		p.head(" of ", kid(n, 1), ") ", kid(n, 2))
		return
	}
	if init := kid(n, 0); init != nil && init.Kind == Let {
		p.let(init)
	} else {
		p.expression(kid(init, 0))
	}
	p.head("; ", kid(n, 1), "; ", nil)
	p.head("", kid(n, 2), ") ", kid(n, 3))
}

func levelOf(n *Node) int {
	switch n.Kind {
	case Assign, Cond, Yield, YieldAll:
		return loose
	case Func:
		if n.Flags&Arrow != 0 {
			return loose
		}
	case Else:
		return elses
	case Or:
		return ors
	case And:
		return ands
	case Unary, Update:
		return unary
	case Dot, Index, Call:
		return chain
	}
	return primary
}

// at prints an expression where one of a level must stand.
func (p *printer) at(level int, n *Node) {
	if n == nil || levelOf(n) >= level {
		p.expression(n)
		return
	}
	p.WriteString("(")
	p.expression(n)
	p.WriteString(")")
}

// wrapped puts an expression in parentheses if it begins with one of some texts.
func (p *printer) wrapped(n *Node, starts ...string) {
	var inner printer
	inner.expression(n)
	s := inner.String()
	for _, start := range starts {
		if strings.HasPrefix(s, start) {
			s = "(" + s + ")"
			break
		}
	}
	p.WriteString(s)
}

// expression prints an expression or a pattern.
func (p *printer) expression(n *Node) {
	if n == nil {
		return
	}
	switch n.Kind {
	case Name:
		p.WriteString(n.S)
	case Number:
		p.WriteString(strconv.FormatInt(n.N, 10))
	case String:
		p.WriteString(Quote(n.S))
	case This:
		p.WriteString("this")
	case Null:
		p.WriteString("null")
	case True:
		p.WriteString("true")
	case False:
		p.WriteString("false")
	case Func:
		p.function(n)
	case Class:
		p.class(n)
	case Array, ArrayPat:
		p.array(n)
	case Object, ObjectPat:
		p.WriteString("{")
		p.list(n.Kids)
		p.WriteString("}")
	case Prop, PropPat:
		p.property(n)
	case Spread, Rest:
		p.WriteString("...")
		p.expression(kid(n, 0))
	case Return, Break:
		p.statement(n)
	default:
		p.operation(n)
	}
}

func (p *printer) operation(n *Node) {
	switch n.Kind {
	case Unary:
		p.WriteString(n.S + " ")
		p.at(unary, kid(n, 0))
	case Update:
		p.update(n)
	case Binary:
		p.binary(n)
	case Else:
		p.between(n, elses, "??")
	case Or:
		p.between(n, ors, "||")
	case And:
		p.between(n, ands, "&&")
	case Cond:
		p.at(elses, kid(n, 0))
		p.head(" ? ", kid(n, 1), " : ", nil)
		p.expression(kid(n, 2))
	case Assign, Default:
		p.at(elses, kid(n, 0))
		p.WriteString(" " + n.S + "= ")
		p.expression(kid(n, 1))
	case Yield:
		p.yield(n)
	case YieldAll:
		p.WriteString("yield* ")
		p.expression(kid(n, 0))
	default:
		p.access(n)
	}
}

func (p *printer) access(n *Node) {
	switch n.Kind {
	case Call:
		p.at(chain, kid(n, 0))
		p.arguments(rest(n, 1))
	case New:
		p.WriteString("new ")
		p.at(primary, kid(n, 0))
		p.arguments(rest(n, 1))
	case Super:
		p.WriteString("super")
		p.arguments(n.Kids)
	case SuperDot:
		p.WriteString("super." + n.S)
	case Dot:
		p.at(chain, kid(n, 0))
		p.WriteString("." + n.S)
	case Index:
		p.at(chain, kid(n, 0))
		p.WriteString("[")
		p.expression(kid(n, 1))
		p.WriteString("]")
	}
}

// binary prints what may be nested deeply to the left, where parentheses are opened all at once.
func (p *printer) binary(n *Node) {
	var l []*Node
	for ; n != nil && n.Kind == Binary; n = kid(n, 0) {
		l = append(l, n)
	}
	p.WriteString(strings.Repeat("(", len(l)))
	p.at(unary, n)
	for i := len(l) - 1; i >= 0; i-- {
		p.WriteString(" " + l[i].S + " ")
		p.at(unary, kid(l[i], 1))
		p.WriteString(")")
	}
}

// between prints an operator that takes what stands left of it as it is, and what is right of it if it binds tighter.
func (p *printer) between(n *Node, level int, sign string) {
	p.at(level, kid(n, 0))
	p.WriteString(" " + sign + " ")
	p.at(level+1, kid(n, 1))
}

func (p *printer) update(n *Node) {
	if n.Flags&Ahead != 0 {
		p.WriteString(n.S)
		p.at(unary, kid(n, 0))
		return
	}
	p.at(chain, kid(n, 0))
	p.WriteString(n.S)
}

// yield wraps an operand that begins with of, which would end the expression.
func (p *printer) yield(n *Node) {
	p.WriteString("yield")
	if operand := kid(n, 0); operand != nil {
		p.WriteString(" ")
		p.wrapped(operand, "of")
	}
}

func (p *printer) list(l []*Node) {
	for i, n := range l {
		if i > 0 {
			p.WriteString(", ")
		}
		p.expression(n)
	}
}

func (p *printer) arguments(l []*Node) {
	p.WriteString("(")
	p.list(l)
	p.WriteString(")")
}

// array prints a comma behind each part but the last one; a Hole is a comma itself.
func (p *printer) array(n *Node) {
	p.WriteString("[")
	for i, part := range n.Kids {
		if part != nil && part.Kind == Hole {
			p.WriteString(",")
			continue
		}
		p.expression(part)
		if i < len(n.Kids)-1 {
			p.WriteString(", ")
		}
	}
	p.WriteString("]")
}

func (p *printer) property(n *Node) {
	value := kid(n, 1)
	if n.Flags&Short != 0 {
		p.expression(value)
		return
	}
	if n.Flags&Method != 0 {
		p.method(n)
		return
	}
	p.key(n)
	p.WriteString(": ")
	p.expression(value)
}

// method prints the key and the function of a Prop or Member.
func (p *printer) method(n *Node) {
	f := kid(n, 1)
	if f == nil {
		return
	}
	if f.Flags&Generator != 0 {
		p.WriteString("*")
	}
	p.key(n)
	p.body(f)
}

func (p *printer) key(n *Node) {
	key := kid(n, 0)
	switch {
	case n.Flags&Computed != 0:
		p.WriteString("[")
		p.expression(key)
		p.WriteString("]")
	case key != nil && key.Kind == String && isName(text.Go(key.S)):
		p.WriteString(text.Go(key.S))
	default:
		p.expression(key)
	}
}

// isName reports whether a text is surely scanned as one name or key word.
func isName(s string) bool {
	for i, c := range []byte(s) {
		letter := c >= 'a' && c <= 'z' || c >= 'A' && c <= 'Z' || c == '_' || c == '$'
		if !letter && (i == 0 || c < '0' || c > '9') {
			return false
		}
	}
	return s != "" && len(s) <= 60
}

func (p *printer) function(n *Node) {
	switch {
	case n.Flags&Arrow != 0:
		p.arguments(paramsOf(n))
		p.WriteString(" => ")
		if n.Flags&Brief != 0 {
			p.wrapped(kid(n, 1), "{")
		} else {
			p.statement(kid(n, 1))
		}
		return
	case n.Flags&Generator != 0:
		p.WriteString("function* " + n.S)
	default:
		p.WriteString("function " + n.S)
	}
	p.body(n)
}

func paramsOf(f *Node) []*Node {
	if params := kid(f, 0); params != nil {
		return params.Kids
	}
	return nil
}

func (p *printer) body(f *Node) {
	p.arguments(paramsOf(f))
	p.WriteString(" ")
	p.statement(kid(f, 1))
}

func (p *printer) class(n *Node) {
	p.WriteString("class " + n.S)
	if parent := kid(n, 0); parent != nil && parent.Kind != None {
		p.WriteString(" extends ")
		p.at(unary, parent)
	}
	p.WriteString(" { ")
	for _, m := range rest(n, 1) {
		if m == nil {
			continue
		}
		if m.Flags&Static != 0 {
			p.WriteString("static ")
		}
		p.method(m)
		p.WriteString(" ")
	}
	p.WriteString("}")
}
