package reader_test

import (
	"slices"

	"mummer/api"
)

// A tree is a datum that the reference has read.
type tree struct {
	node api.DtNode
	span api.SpSpan
	kids []tree
}

func (t tree) flat() api.RdDatum {
	d := api.RdDatum{Tree: []api.DtNode{t.node}, Spans: []api.SpSpan{t.span}}
	for _, kid := range t.kids {
		f := kid.flat()
		d.Tree = append(d.Tree, f.Tree...)
		d.Spans = append(d.Spans, f.Spans...)
	}
	if t.node.Kind == api.DtList {
		d.Tree[0].Kids = len(t.kids)
	}
	return d
}

// A read is what a reader has made of tokens: their data; or the first fault.
type read struct {
	l  []api.RdDatum
	at api.SpSpan
	e  api.Errno
}

// A parser reads tokens by the definition, with one call for each datum that is read; a fault is a read that it panics with.
type parser struct {
	tokens []api.LxToken
	nest   int
	nodes  int // of the datum that is being read
}

// gathered is the definition of the data of tokens.
func gathered(tokens []api.LxToken) (v read) {
	defer func() {
		if x := recover(); x != nil {
			v = x.(read)
		}
	}()
	p := parser{tokens: tokens}
	for {
		switch p.coming() {
		case 0:
			return v
		case api.LxSkip:
			p.leaveOut()
		case api.LxClose:
			panic(read{at: p.tokens[0].Span, e: api.RdErrClose})
		default:
			if len(v.l) == 200 {
				panic(read{at: p.tokens[0].Span, e: api.ErrLong})
			}
			p.nodes = 0
			v.l = append(v.l, p.datum(api.LxToken{}).flat())
		}
	}
}

// coming returns the kind of the token that comes next, 0 if there is none.
func (p *parser) coming() int {
	if len(p.tokens) == 0 {
		return 0
	}
	return p.tokens[0].Kind
}

// take takes the next token, which makes so many nodes.
func (p *parser) take(nodes int) api.LxToken {
	t := p.tokens[0]
	p.tokens = p.tokens[1:]
	p.nodes += nodes
	if p.nest > 32 && t.Kind != api.LxClose || p.nodes > 400 {
		panic(read{at: t.Span, e: api.ErrLong})
	}
	return t
}

// leaveOut takes an LxSkip, and reads its datum, which has a count of its own.
func (p *parser) leaveOut() {
	t, nodes := p.take(0), p.nodes
	p.nest++
	p.nodes = 0
	p.datum(t)
	p.nest--
	p.nodes = nodes
}

// datum reads a datum, for which the token t waits.
func (p *parser) datum(t api.LxToken) tree {
	switch p.coming() {
	case api.LxSkip:
		p.leaveOut()
		return p.datum(t)
	case api.LxOpen:
		return p.list()
	case api.LxQuote:
		q := p.take(2)
		p.nest++
		kid := p.datum(q)
		p.nest--
		return tree{api.DtNode{Kind: api.DtList}, sp(q.Span.From, kid.span.To), []tree{{node: api.DtNode{Kind: api.DtSymbol, S: "quote"}, span: q.Span}, kid}}
	case api.LxInt:
		x := p.take(1)
		return tree{node: api.DtNode{Kind: api.DtInt, N: x.N}, span: x.Span}
	case api.LxBool:
		x := p.take(1)
		return tree{node: api.DtNode{Kind: api.DtBool, N: x.N}, span: x.Span}
	case api.LxSym:
		x := p.take(1)
		return tree{node: api.DtNode{Kind: api.DtSymbol, S: x.S}, span: x.Span}
	}
	panic(read{at: t.Span, e: api.RdErrAfter})
}

// list reads a list from its LxOpen on.
func (p *parser) list() tree {
	open := p.take(1)
	l := tree{node: api.DtNode{Kind: api.DtList}}
	p.nest++
	for {
		switch p.coming() {
		case 0:
			panic(read{at: open.Span, e: api.RdErrOpen})
		case api.LxSkip:
			p.leaveOut()
		case api.LxClose:
			end := p.take(0)
			if end.N != open.N {
				panic(read{at: end.Span, e: api.RdErrMatch})
			}
			p.nest--
			l.span = sp(open.Span.From, end.Span.To)
			return l
		default:
			l.kids = append(l.kids, p.datum(open))
		}
	}
}

func sameDatum(a, b api.RdDatum) bool {
	return slices.Equal(a.Tree, b.Tree) && slices.Equal(a.Spans, b.Spans)
}

func sameRead(a, b read) bool {
	return slices.EqualFunc(a.l, b.l, sameDatum) && a.at == b.at && a.e == b.e
}
