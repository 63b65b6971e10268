package reader

import "mummer/api"

// A waiter is a token that waits: LxOpen for its LxClose, LxQuote and LxSkip for a datum.
type waiter struct {
	token api.LxToken
	list  int         // the node that LxOpen and LxQuote are, in the datum that is being read
	outer api.RdDatum // what was read already of the datum in which an LxSkip stands
}

// A reading is what has been read up to some token.
type reading struct {
	data  []api.RdDatum // those that have ended
	datum api.RdDatum   // what there is of the one that is being read
	open  stack[waiter] // the innermost one last
}

// A fault is an error, and where it is; the zero value stands for none.
type fault struct {
	at api.SpSpan
	e  api.Errno
}

// readAll reads all tokens that next hands on.
func (r *reading) readAll(next func() (api.LxToken, bool)) fault {
	steps := [...]func(*reading, api.LxToken) fault{
		api.LxOpen:  (*reading).list,
		api.LxClose: (*reading).end,
		api.LxQuote: (*reading).quote,
		api.LxSkip:  (*reading).skip,
		api.LxInt:   (*reading).integer,
		api.LxBool:  (*reading).boolean,
		api.LxSym:   (*reading).symbol,
	}
	for {
		t, ok := next()
		if !ok {
			return r.unfinished()
		}
		if t.Kind != api.LxClose && r.open.size() > api.MaxNest {
			return fault{t.Span, api.ErrLong}
		}
		if f := steps[t.Kind](r, t); f.e != api.OK {
			return f
		}
	}
}

// list reads an LxOpen.
func (r *reading) list(t api.LxToken) fault {
	return r.begin(t, api.DtNode{Kind: api.DtList})
}

// quote reads an LxQuote.
func (r *reading) quote(t api.LxToken) fault {
	return r.begin(t, api.DtNode{Kind: api.DtList, Kids: 2}, api.DtNode{Kind: api.DtSymbol, S: "quote"})
}

// skip reads an LxSkip. What it leaves out is a datum of its own, which is not counted in the outer one.
func (r *reading) skip(t api.LxToken) fault {
	r.open.push(waiter{token: t, outer: r.datum})
	r.datum = api.RdDatum{}
	return fault{}
}

// integer reads an LxInt.
func (r *reading) integer(t api.LxToken) fault {
	return r.leaf(t, api.DtNode{Kind: api.DtInt, N: t.N})
}

// boolean reads an LxBool.
func (r *reading) boolean(t api.LxToken) fault {
	return r.leaf(t, api.DtNode{Kind: api.DtBool, N: t.N})
}

// symbol reads an LxSym.
func (r *reading) symbol(t api.LxToken) fault {
	return r.leaf(t, api.DtNode{Kind: api.DtSymbol, S: t.S})
}

// end reads an LxClose.
func (r *reading) end(t api.LxToken) fault {
	if r.open.size() == 0 {
		return fault{t.Span, api.RdErrClose}
	}
	w := r.open.top()
	switch {
	case w.token.Kind != api.LxOpen:
		return fault{w.token.Span, api.RdErrAfter}
	case w.token.N != t.N:
		return fault{t.Span, api.RdErrMatch}
	}
	r.datum.Spans[w.list].To = t.Span.To
	r.open.pop()
	r.ended(t.Span.To)
	return fault{}
}

// unfinished returns the fault of what waits when there are no more tokens.
func (r *reading) unfinished() fault {
	if r.open.size() == 0 {
		return fault{}
	}
	w := r.open.top()
	if w.token.Kind == api.LxOpen {
		return fault{w.token.Span, api.RdErrOpen}
	}
	return fault{w.token.Span, api.RdErrAfter}
}

// begin puts the first nodes of the list of t, which waits for more.
func (r *reading) begin(t api.LxToken, nodes ...api.DtNode) fault {
	list := len(r.datum.Tree)
	f := r.put(t, nodes...) // before t waits: it is the first token of a datum only if nothing does
	r.open.push(waiter{token: t, list: list})
	return f
}

// leaf puts a datum of one node.
func (r *reading) leaf(t api.LxToken, n api.DtNode) fault {
	if f := r.put(t, n); f.e != api.OK {
		return f
	}
	r.ended(t.Span.To)
	return fault{}
}

// put adds nodes with the span of t to the datum that is being read, unless it, or the list of all data, is too long then.
func (r *reading) put(t api.LxToken, nodes ...api.DtNode) fault {
	first := r.open.size() == 0
	if first && len(r.data) == api.MaxRdData || len(r.datum.Tree)+len(nodes) > api.MaxDatum {
		return fault{t.Span, api.ErrLong}
	}
	for _, n := range nodes {
		r.datum.Tree = append(r.datum.Tree, n)
		r.datum.Spans = append(r.datum.Spans, t.Span)
	}
	return fault{}
}

// ended gives a datum, which has just ended at the byte to, to what waits for it. The list of a quote ends with its datum, and is given to what waits for the list.
func (r *reading) ended(to int) {
	for r.open.size() > 0 {
		w := r.open.top()
		switch w.token.Kind {
		case api.LxOpen:
			r.datum.Tree[w.list].Kids++
			return
		case api.LxSkip:
			r.datum = w.outer
			r.open.pop()
			return
		}
		r.datum.Spans[w.list].To = to
		r.open.pop()
	}
	r.data = append(r.data, r.datum)
	r.datum = api.RdDatum{}
}
