package checked

import "gantlet/api"

// Row is a function whose statements are brought into one row, so that wherever a goto, a switch
// or a loop leads is just a place in it.
type Row struct {
	Main   bool
	Ret    api.Type
	Params []api.Type
	Locals []api.Type // parameters ahead
	Moves  []Move
	Marks  map[Mark]int // at which move
}

// Move is one of those that statements come to.
type Move struct {
	Does  int
	Expr  api.Expr // ENone, if there is none
	To    Mark     // of those that lead to another move
	Local int      // of DoMake
	Type  api.Type // likewise
}

// What moves do.
const (
	DoBegin  = iota // a statement
	DoTell          // an expression
	DoMake          // a local, anew
	DoJump          // to a mark
	DoUnless        // to a mark, if an expression is 0
	DoIf            // to a mark, if it is not
	DoChoose        // to the mark of a case, or of a default, or else to the one told
	DoReturn
)

// Mark is what leads to a place: what is there, and of which statement, label or value.
type Mark struct {
	What  int
	Of    int // the number of a statement that holds others
	Name  string
	Value int64
}

// What is at marks.
const (
	AtBody    = iota // of a loop, with what it asks ahead of that
	AtNext           // where a loop goes on
	AtElse           // the other body
	AtEnd            // what comes behind the statement
	AtCase           // of a value, as its switch has it
	AtDefault        // of a switch
	AtLabel          // of a name, in whatever statement it stands
)

// MayEnd tells whether a call may come to the end of all statements.
func (r *Row) MayEnd() bool {
	return r.Main || r.Ret == api.Type{}
}

func (r *Row) add(m Move) {
	r.Moves = append(r.Moves, m)
}

// set sets a mark at the move that is added next.
func (r *Row) set(k Mark) {
	r.Marks[k] = len(r.Moves)
}
