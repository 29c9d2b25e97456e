package parse_test

import (
	"slices"
	"strconv"
	"strings"
	"testing"

	"gantlet/api"
	"gantlet/parse"
)

// The grammar, written down as rules and read by a way that knows of no programs (all
// that may stand at a place is kept, side by side), says of each text which token is the
// first that may not stand there, and what may. Parse is held against that.

// Some tokens of rules are sorts of tokens; some are none, but say what is told where
// they would stand.
const (
	anyName   = "NAME"
	anyLabel  = "LABEL"  // a name with a : behind it
	anyNumber = "NUMBER" // any
	anyLength = "LENGTH" // from 1 to MaxLen: of another one ErrRange is told
	atEnd     = "END"
	tooDeep   = "LIMIT"   // here, whatever stands here, ErrLimit is told
	inBlock   = "INBLOCK" // so, but at the end
	fourth    = "FOURTH"  // so at a *
)

// Rules are lines of a name, a : and the ways it may be, parted by /. A name ends in <
// for as deep as is said, in > for one deeper.
const ofEachDepth = `
block<: { stmts> }
stmts<: / blockstmt< stmts<
stmt<: simple< / expr> ;
simple<: ; / block< / type NAME ; / type NAME [ LENGTH ] ; / type NAME = expr> ;
simple<: if ( expr> ) stmt> / if ( expr> ) stmt> else stmt> / while ( expr> ) stmt> / do stmt> while ( expr> ) ; / switch ( expr> ) stmt>
simple<: for ( perhaps> ; perhaps> ; perhaps> ) stmt>
simple<: case value : / default : / break ; / continue ; / return ; / return expr> ; / goto NAME ; / LABEL :
perhaps<: / expr<
expr<: cond< / cond< = expr> / cond< *= expr> / cond< |= expr> / cond< %= expr> / cond< += expr> / cond< -= expr> / cond< <<= expr> / cond< >>= expr> / cond< &= expr> / cond< ^= expr>
expr<: cond< DIVIDEBY expr>
cond<: lor< / lor< ? expr> : cond>
lor<: land< / lor< || land<
land<: or< / land< && or<
or<: xor< / or< | xor<
xor<: and< / xor< ^ and<
and<: equal< / and< & equal<
equal<: less< / equal< == less< / equal< != less<
less<: shift< / less< LESS shift< / less< MORE shift< / less< <= shift< / less< >= shift<
shift<: add< / shift< << add< / shift< >> add<
add<: mul< / add< + mul< / add< - mul<
mul<: unary< / mul< * unary< / mul< DIVIDE unary< / mul< % unary<
unary<: - unary> / ~ unary> / ! unary> / * unary> / & unary> / ++ unary> / -- unary> / ( type ) unary> / sizeof ( type ) / postfix<
postfix<: primary< / postfix< [ expr> ] / postfix< ++ / postfix< --
primary<: NUMBER / NAME / NAME ( ) / NAME ( arguments> ) / ( expr> )
arguments<: expr< / expr< , expr< / expr< , expr< , expr< / expr< , expr< , expr< , expr< / expr< , expr< , expr< , expr< , LIMIT
`

const tooDeepYet = `
blockstmt<: INBLOCK
stmts<: / blockstmt< stmts<
stmt<: LIMIT
expr<: LIMIT
perhaps<: / LIMIT
arguments<: LIMIT
cond<: LIMIT
unary<: LIMIT
`

const ofAll = `
unit: items END
items: / item items
item: type NAME ( params ) block1 / type NAME ; / type NAME = value ; / type NAME [ LENGTH ] ; / type NAME [ LENGTH ] = { values } ;
params: / void / param / param , param / param , param , param / param , param , param , param / param , param , param , param , LIMIT
param: type NAME
values: value / value , values
value: NUMBER / - NUMBER
type: base / base * / base * * / base * * * / base * * * FOURTH
base: void / char / short / int / long / unsigned char / unsigned short / unsigned int / unsigned long
`

// grammar is rules. Names, and tokens, have numbers; tokens have no ways.
type grammar struct {
	names   []string
	numbers map[string]int
	ways    [][][]int
}

func (g *grammar) number(name string) int {
	n, ok := g.numbers[name]
	if !ok {
		n = len(g.names)
		g.numbers[name] = n
		g.names, g.ways = append(g.names, name), append(g.ways, nil)
	}
	return n
}

// add takes lines of rules, of a depth.
func (g *grammar) add(lines string, deep int) {
	for line := range strings.Lines(strings.TrimSpace(lines)) {
		name, ways, _ := strings.Cut(line, ":")
		of := g.number(symbol(name, deep))
		for way := range strings.SplitSeq(ways, " / ") {
			l := []int{}
			for _, s := range strings.Fields(way) {
				l = append(l, g.number(symbol(s, deep)))
			}
			g.ways[of] = append(g.ways[of], l)
		}
	}
}

// symbol tells a name with its depth, and signs that are written otherwise in the rules.
func symbol(s string, deep int) string {
	switch last := len(s) - 1; {
	case s == "LESS":
		return "<"
	case s == "MORE":
		return ">"
	case s == "DIVIDE":
		return "/"
	case s == "DIVIDEBY":
		return "/="
	case last > 0 && s[last] == '<' && s[0] >= 'a':
		return s[:last] + strconv.Itoa(deep)
	case last > 0 && s[last] == '>' && s[0] >= 'a':
		return s[:last] + strconv.Itoa(deep+1)
	}
	return s
}

func newGrammar() *grammar {
	g := &grammar{numbers: map[string]int{}}
	g.add(ofAll, 0)
	for deep := 1; deep <= api.MaxDeep; deep++ {
		g.add(ofEachDepth, deep)
		if deep < api.MaxDeep {
			g.add("blockstmt<: stmt<", deep)
		}
	}
	g.add("blockstmt<: simple< / INBLOCK", api.MaxDeep)
	g.add(tooDeepYet, api.MaxDeep+1)
	return g
}

// state is a way that is gone so far, and where it began.
type state struct {
	of, way, done, began int32
}

// column is all states at a place.
type column struct {
	states  []state
	known   map[state]int
	waiting map[int][]state // by what is asked for next
}

// reader reads tokens by a grammar.
type reader struct {
	*grammar
	columns []*column
}

func newReader() *reader {
	r := &reader{newGrammar(), nil}
	unit := int32(r.number("unit"))
	r.columns = []*column{r.closed([]state{{of: unit}})}
	return r
}

// next tells what a state asks for, if it is not at its end.
func (r *reader) next(s state) (int, bool) {
	if way := r.ways[s.of][s.way]; int(s.done) < len(way) {
		return way[s.done], true
	}
	return 0, false
}

// closed tells the column at the next place, with all that follows from some states.
func (r *reader) closed(first []state) *column {
	c := &column{nil, map[state]int{}, map[int][]state{}}
	place := int32(len(r.columns))
	ended := map[int]int{}
	for _, s := range first {
		c.add(s)
	}
	for i := 0; i < len(c.states); i++ {
		s := c.states[i]
		asked, open := r.next(s)
		if !open {
			from := c
			if s.began < place {
				from = r.columns[s.began]
			} else {
				ended[int(s.of)] = 1
			}
			for _, w := range from.waiting[int(s.of)] {
				w.done++
				c.add(w)
			}
			continue
		}
		if len(c.waiting[asked]) == 0 {
			for way := range r.ways[asked] {
				c.add(state{int32(asked), int32(way), 0, place})
			}
		}
		c.waiting[asked] = append(c.waiting[asked], s)
		if ended[asked] == 1 {
			s.done++
			c.add(s)
		}
	}
	return c
}

func (c *column) add(s state) {
	if c.known[s] == 0 {
		c.known[s] = 1
		c.states = append(c.states, s)
	}
}

// fits tells whether a token is what a rule asks for; what stands behind it is asked of labels alone.
func fits(asked, token, behind string) bool {
	name := token != "" && strings.Contains("xyzf", token)
	switch asked {
	case anyName:
		return name
	case anyLabel:
		return name && behind == ":"
	case anyNumber:
		return isNumber(token)
	case anyLength:
		n, err := strconv.Atoi(token)
		return err == nil && n >= 1 && n <= api.MaxLen
	case atEnd:
		return token == ""
	}
	return asked == token && token != ""
}

func isNumber(token string) bool {
	return token != "" && token[0] >= '0' && token[0] <= '9'
}

// read reads a token, if it may stand there.
func (r *reader) read(token, behind string) bool {
	var l []state
	for asked, waiting := range r.columns[len(r.columns)-1].waiting {
		if len(r.ways[asked]) == 0 && fits(r.names[asked], token, behind) {
			for _, s := range waiting {
				s.done++
				l = append(l, s)
			}
		}
	}
	if len(l) == 0 {
		return false
	}
	r.columns = append(r.columns, r.closed(l))
	return true
}

// told tells which error stands at a token that may not stand there.
func (r *reader) told(token string) api.Errno {
	asked := func(s string) bool {
		return len(r.columns[len(r.columns)-1].waiting[r.number(s)]) > 0
	}
	switch {
	case asked(tooDeep), asked(inBlock) && token != "", asked(fourth) && token == "*":
		return api.ErrLimit
	case asked(anyLength) && isNumber(token):
		return api.ErrRange
	}
	return api.ErrSyn
}

// fault tells the number of the first token of a text that may not stand there, and the
// error; the first tokens, up to the last but one, are read already.
func (r *reader) fault(tokens []string) (int, api.Errno) {
	read := len(r.columns) - 1
	defer func() { r.columns = r.columns[:read+1] }()
	for i := read; i <= len(tokens); i++ {
		token, behind := tokenAt(tokens, i), tokenAt(tokens, i+1)
		if !r.read(token, behind) {
			return i, r.told(token)
		}
	}
	return 0, api.OK
}

func tokenAt(tokens []string, i int) string {
	if i < len(tokens) {
		return tokens[i]
	}
	return ""
}

// same holds Parse against the grammar.
func (r *reader) same(t *testing.T, tokens []string) api.Errno {
	t.Helper()
	i, err := r.fault(tokens)
	pos := 0
	if err != api.OK {
		pos = len(strings.Join(tokens[:i], " "))
		if i > 0 && i < len(tokens) {
			pos++
		}
	}
	s := strings.Join(tokens, " ")
	u, f := parse.Parse(s)
	if f != (api.Fault{Err: int(err), Pos: pos}) {
		t.Fatalf("%q: %+v; should be %d at %d", s, f, err, pos)
	}
	if err != api.OK && len(u.Globals)+len(u.Funcs) > 0 {
		t.Fatalf("%q: %s beside a fault", s, showUnit(u))
	}
	return err
}

// allTokens tells every word and sign, and a few names and numbers.
func allTokens() []string {
	return strings.Fields("void char short int long unsigned if else while do for switch case default break continue return goto sizeof " +
		"<<= >>= ++ -- << >> <= >= == != && || += -= *= /= %= &= ^= |= + - * / % & | ^ ~ ! < > = ? : ; , ( ) [ ] { } x f 60 0 65")
}

// samples tells texts, tokens parted by blanks, that have all that the grammar names.
func samples() []string {
	deep := func(n int, s string) string {
		return "int f ( ) { " + strings.Repeat("{ ", n-2) + s + strings.Repeat(" }", n-1)
	}
	return []string{
		"int x ; unsigned char * * * y = - 60 ; void f ( void ) { }",
		"long x [ 60 ] = { 60 , - 60 , 0 } ; short y = 60 ; char z [ 64 ] ;",
		"unsigned short f ( int x , unsigned long * y , char z , void * * x ) { ; } int x ;",
		"int f ( ) { int x ; char * y = x ; long z [ 60 ] ; { } x : y : x ; }",
		"int f ( ) { if ( x ) ; else if ( y ) x ; while ( x ) { } do ; while ( y ) ; }",
		"int f ( ) { for ( x ; y ; z ) for ( ; ; ) ; switch ( x ) { case 60 : case - 60 : default : } }",
		"int f ( ) { break ; continue ; return ; return x ; goto x ; x : if ( x ) y : else z ; }",
		"int f ( ) { x = y += z ? x = y : z ? x : y ; }",
		"int f ( ) { x || y && z | x ^ y & z == x < y << z + x * y ; }",
		"int f ( ) { x / y - z >> x > y != z ; x <= y ; x >= y % z ; }",
		"int f ( ) { - ~ ! * & ++ -- x ; ( int * ) ( void ) x ; sizeof ( unsigned int ) ; }",
		"int f ( ) { x [ y ] [ z ] ++ -- ; f ( ) + f ( x ) * f ( x , y = z , ( x ) , 60 ) ; }",
		"int f ( ) { ( x ) [ 60 ] = ( ( y ) ) ; - f ( x ) [ 0 ] ; }",
		deep(20, "x : ; int x ; int y [ 60 ] ; return ; { }"),
		deep(20, "case 60 : break ; goto x ;"),
		deep(19, "x ; y ++ + z -- ;"),
		deep(19, "x + f ( ) ; sizeof ( int ) ; int x = y ; return x ;"),
		deep(19, "if ( x ) ; else ; while ( y ++ ) { } do x : while ( x ) ; "),
		deep(19, "for ( x ; y ; z ) ; for ( ; ; ) break ; switch ( x ) default :"),
		deep(18, "x = y ; ( x ) ; - x ; ( int ) x ; f ( x , y ) ; x [ y ] ; x ? y : z ;"),
		deep(18, "{ if ( x ) ; else { } } if ( x ) y ; else if ( z ) ; else ;"),
	}
}

// TestEachToken is of P3.1: each token at each place of the samples: as the last one,
// and, where it may stand, instead of what stands there, and ahead of it; each place cut
// off, and left out.
func TestEachToken(t *testing.T) {
	told := make([]map[api.Errno]int, len(samples()))
	t.Run("samples", func(t *testing.T) {
		for i, s := range samples() {
			told[i] = map[api.Errno]int{}
			t.Run(strconv.Itoa(i), func(t *testing.T) {
				t.Parallel()
				eachToken(t, strings.Fields(s), told[i])
			})
		}
	})
	all := map[api.Errno]int{}
	for _, m := range told {
		for err, n := range m {
			all[err] += n
		}
	}
	if all[api.OK] < 1000 || all[api.ErrSyn] < 1000 || all[api.ErrLimit] < 1000 || all[api.ErrRange] < 5 {
		t.Errorf("%v", all)
	}
}

// eachToken counts what is told.
func eachToken(t *testing.T, tokens []string, told map[api.Errno]int) {
	r := newReader()
	if i, err := r.fault(tokens); err != api.OK {
		t.Fatalf("%q: %d at %d", tokens, err, i)
	}
	for i := range tokens {
		if i >= 2 {
			r.read(tokens[i-2], tokens[i-1])
		}
		if within(tokens, i) {
			continue
		}
		told[r.same(t, tokens[:i])]++
		told[r.same(t, slices.Concat(tokens[:i], tokens[i+1:]))]++
		for _, token := range allTokens() {
			begun := slices.Concat(tokens[:i], []string{token})
			told[r.same(t, begun)]++
			if at, err := r.fault(begun); err == api.OK || at > i {
				told[r.same(t, slices.Concat(begun, tokens[i+1:]))]++
				told[r.same(t, slices.Concat(begun, tokens[i:]))]++
			}
		}
	}
}

// within tells whether on both sides the same tokens stand: of many brackets the first
// and the last tell enough.
func within(tokens []string, i int) bool {
	return i > 0 && i+1 < len(tokens) && tokens[i] == tokens[i-1] && tokens[i] == tokens[i+1]
}
