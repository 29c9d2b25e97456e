package model

import "gantlet/api"

// function is one whose statements are brought into one row, so that wherever a goto, a switch
// or a loop leads is just a place in it.
type function struct {
	main   bool
	ret    api.Type
	params []api.Type
	locals []int // how many elements each one has, parameters ahead
	moves  []move
	marks  map[mark]int // at which move
}

// move is one of those that statements come to.
type move struct {
	does  int
	expr  api.Expr // ENone, if there is none
	to    mark     // of those that lead to another move
	local int      // of doMake
	t     api.Type // likewise
}

// What moves do.
const (
	doBegin  = iota // a statement
	doTell          // an expression
	doMake          // a local, anew
	doJump          // to a mark
	doUnless        // to a mark, if an expression is 0
	doIf            // to a mark, if it is not
	doChoose        // to the mark of a case, or of a default, or else to the one told
	doReturn
)

// mark is what leads to a place: what is there, and of which statement, label or value.
type mark struct {
	what  int
	of    int // the number of a statement that holds others
	name  string
	value int64
}

// What is at marks.
const (
	atBody    = iota // of a loop, with what it asks ahead of that
	atNext           // where a loop goes on
	atElse           // the other body
	atEnd            // what comes behind the statement
	atCase           // of a value, as its switch has it
	atDefault        // of a switch
	atLabel          // of a name, in whatever statement it stands
)

// elements tells how many all parameters and locals have together.
func (f *function) elements() int {
	n := 0
	for _, l := range f.locals {
		n += l
	}
	return n
}

// mayEnd tells whether a call may come to the end of all statements.
func (f *function) mayEnd() bool {
	return f.main || f.ret == api.Type{}
}

func (f *function) add(m move) {
	f.moves = append(f.moves, m)
}

// set sets a mark at the move that is added next.
func (f *function) set(k mark) {
	f.marks[k] = len(f.moves)
}
