package parse

import (
	"strings"

	"gantlet/api"
	"gantlet/lex"
)

// writer writes tokens. Its functions write what they are named after; behind an error
// nothing is written any more.
type writer struct {
	text   strings.Builder
	last   string
	err    api.Errno
	nodes  int
	places map[meaning]place
	blanks map[[2]string]int // how many two signs have between them, where it is known
}

func (w *writer) fail(err api.Errno) {
	if w.err == api.OK {
		w.err = err
	}
}

// begin counts an expression or a statement, and tells whether to go on. Each has a token
// of its own, so that too many of them have too long a text: their count bounds the way
// through a unit, whatever it is made of.
func (w *writer) begin() bool {
	w.nodes++
	if w.nodes > api.MaxText {
		w.fail(api.ErrLimit)
	}
	return w.err == api.OK
}

func (w *writer) write(tokens ...string) {
	for _, t := range tokens {
		w.token(t)
	}
}

func (w *writer) token(t string) {
	if w.err != api.OK {
		return
	}
	if len(t) > api.MaxText {
		w.fail(api.ErrLimit)
		return
	}
	if w.blanksAhead(t) > 0 {
		w.text.WriteByte(' ')
	}
	w.text.WriteString(t)
	w.last = t
	if w.text.Len() > api.MaxText {
		w.fail(api.ErrLimit)
	}
}

// blanksAhead tells how many blanks a token must have ahead of it. Names, words and
// numbers join each other, but no sign; of signs lex is asked, once of each pair.
func (w *writer) blanksAhead(t string) int {
	switch {
	case w.last == "" || isWord(w.last) != isWord(t):
		return 0
	case isWord(t):
		return 1
	}
	pair := [2]string{w.last, t}
	n, known := w.blanks[pair]
	if !known {
		n = blanksBetween(pair)
		w.blanks[pair] = n
	}
	return n
}

// isWord tells whether a token is a name, a word or a number.
func isWord(t string) bool {
	if t == "" {
		return false
	}
	c := t[0]
	return c == '_' || 'a' <= c && c <= 'z' || 'A' <= c && c <= 'Z' || '0' <= c && c <= '9'
}

// blanksBetween tells 0, if lex takes two signs for the same ones without a blank.
func blanksBetween(pair [2]string) int {
	l, f := lex.Tokens(pair[0] + pair[1])
	if f.Err == int(api.OK) && len(l) == 3 && l[1].Pos == len(pair[0]) {
		return 0
	}
	return 1
}

// at tells a list's element. A unit that has none there is not of its form.
func at[T any](w *writer, l []T, i int) T {
	var none T
	if i >= len(l) {
		w.fail(api.ErrForm)
		return none
	}
	return l[i]
}
