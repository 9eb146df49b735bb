// Package fresh makes copies of modules that share no list with what they are of.
package fresh

import (
	"slices"

	"usufruct/api"
)

// Module copies a module.
func Module(m api.Module) api.Module {
	var n api.Module
	for _, s := range m.Structs {
		n.Structs = append(n.Structs, Struct(s))
	}
	for _, c := range m.Funcs {
		n.Funcs = append(n.Funcs, Code(c))
	}
	return n
}

// Struct copies a struct.
func Struct(s api.Struct) api.Struct {
	s.Fields = slices.Clone(s.Fields)
	return s
}

// Code copies a function.
func Code(c api.Code) api.Code {
	c.Vars, c.From, c.Ins = slices.Clone(c.Vars), slices.Clone(c.From), slices.Clone(c.Ins)
	for at, i := range c.Ins {
		c.Ins[at].Args, c.Ins[at].Mode = slices.Clone(i.Args), slices.Clone(i.Mode)
	}
	return c
}
