package parse

import "gantlet/api"

// parser reads tokens from the front. Its functions read what they are named after;
// deep says how deep that stands.
type parser struct {
	tokens   []api.Token // the last one is the end
	at       int
	fault    api.Fault
	meanings map[place]meaning
}

// token tells the token that is read next.
func (p *parser) token() api.Token {
	return p.tokens[p.at]
}

// second tells the token behind the one that is read next; behind the end is the end.
func (p *parser) second() api.Token {
	return p.tokens[min(p.at+1, len(p.tokens)-1)]
}

// next reads a token, but never past the end.
func (p *parser) next() api.Token {
	t := p.token()
	if t.Kind != api.KEnd {
		p.at++
	}
	return t
}

// fail keeps the first fault. It goes to the end, where nothing begins, so that all that
// is being read comes to an end there, and whatever fails later is not the first.
func (p *parser) fail(err api.Errno, pos int) {
	if p.fault.Err == int(api.OK) {
		p.fault = api.Fault{Err: int(err), Pos: pos}
	}
	p.at = len(p.tokens) - 1
}

// refuse says that the token that is read next may not stand there.
func (p *parser) refuse() {
	p.fail(api.ErrSyn, p.token().Pos)
}

// begin says that something begins here that is so deep.
func (p *parser) begin(deep int) {
	if deep > api.MaxDeep {
		p.fail(api.ErrLimit, p.token().Pos)
	}
}

// is tells whether a sign or a word is next. No name and no number has such a text.
func (p *parser) is(text string) bool {
	return p.token().Text == text
}

// accept reads a sign or a word, if it is next.
func (p *parser) accept(text string) bool {
	if !p.is(text) {
		return false
	}
	p.next()
	return true
}

func (p *parser) need(text string) {
	if !p.accept(text) {
		p.refuse()
	}
}

func (p *parser) name() api.Token {
	return p.kind(api.KName)
}

func (p *parser) number() api.Token {
	return p.kind(api.KNum)
}

// kind reads a token of a kind.
func (p *parser) kind(kind int) api.Token {
	if p.token().Kind != kind {
		p.refuse()
		return api.Token{}
	}
	return p.next()
}

// several reads parameters or arguments: one, and those behind commas.
func several[T any](p *parser, one func() T) []T {
	var l []T
	for more := true; more; more = p.accept(",") {
		if len(l) == api.MaxParams {
			p.fail(api.ErrLimit, p.token().Pos)
		}
		l = append(l, one())
	}
	return l
}
