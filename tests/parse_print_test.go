package tests

import (
	"strconv"
	"strings"

	"loop.example/g00472/impl"
)

// fullE: an expression as PrintSource writes it.
func fullE(t tree) string {
	switch t.kind {
	case impl.NNum:
		return strconv.Itoa(t.n)
	case impl.NAt:
		return t.s + "[" + fullE(t.kids[0]) + "]"
	case impl.NCall:
		args := []string{}
		for _, kid := range t.kids {
			args = append(args, fullE(kid))
		}
		return t.s + "(" + strings.Join(args, ", ") + ")"
	case impl.NUnary:
		return "(" + t.s + fullE(t.kids[0]) + ")"
	case impl.NBinary:
		return "(" + fullE(t.kids[0]) + " " + t.s + " " + fullE(t.kids[1]) + ")"
	}
	return t.s
}

// fullStatement: a statement or a block as PrintSource writes it.
func fullStatement(t tree) string {
	switch t.kind {
	case impl.NBlock:
		s := "{ "
		for _, kid := range t.kids {
			s += fullStatement(kid) + " "
		}
		return s + "}"
	case impl.NVar:
		return "var " + t.s + " = " + fullE(t.kids[0]) + ";"
	case impl.NSet:
		return t.s + " = " + fullE(t.kids[0]) + ";"
	case impl.NPut:
		return t.s + "[" + fullE(t.kids[0]) + "] = " + fullE(t.kids[1]) + ";"
	case impl.NReturn:
		return "return " + fullE(t.kids[0]) + ";"
	case impl.NDo:
		return fullE(t.kids[0]) + ";"
	case impl.NWhile:
		return "while (" + fullE(t.kids[0]) + ") " + fullStatement(t.kids[1])
	}
	s := "if (" + fullE(t.kids[0]) + ") " + fullStatement(t.kids[1])
	if len(t.kids) == 3 {
		s += " else " + fullStatement(t.kids[2])
	}
	return s
}

// fullText: the program as PrintSource writes it.
func fullText(p impl.Source, bodies []tree) string {
	s := ""
	for _, name := range p.Globals {
		s += "int " + name + ";\n"
	}
	for _, a := range p.Arrays {
		s += "int " + a.Name + "[" + strconv.Itoa(a.Size) + "];\n"
	}
	for k, f := range p.Fns {
		s += "func " + f.Name + "(" + strings.Join(f.Params, ", ") + ") " + fullStatement(bodies[k]) + "\n"
	}
	return s
}
