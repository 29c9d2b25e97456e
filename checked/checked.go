// Package checked: what is asked of a checked unit both where it is run and where it is lowered:
// whether it is one, its types, the ops of its numbers, its statements in one row. It is no layer.
package checked

import (
	"gantlet/api"
	"gantlet/check"
)

// What calls of no function of the unit have as N.
const (
	CallPut  = -1
	CallGet  = -2
	CallExit = -3
)

// Unit tells u anew, in new memory; false, if u is not what check.Check tells of itself.
func Unit(u api.Unit) (api.Unit, bool) {
	own, f := check.Check(u)
	if f.Err != int(api.OK) || !sameUnit(own, u) {
		return api.Unit{}, false
	}
	return own, true
}
