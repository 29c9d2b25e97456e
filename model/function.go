package model

import (
	"gantlet/api"
	"gantlet/checked"
)

// function is one as a row, with how many elements each parameter and local has.
type function struct {
	checked.Row
	locals []int
}

func functionOf(f api.Func) function {
	own := function{Row: checked.RowOf(f)}
	for _, t := range own.Locals {
		own.locals = append(own.locals, checked.Elements(t))
	}
	return own
}

// elements tells how many all parameters and locals have together.
func (f *function) elements() int {
	n := 0
	for _, l := range f.locals {
		n += l
	}
	return n
}
