package tests

import (
	"slices"
	"strings"

	"loop.example/g00472/impl"
)

// The tests' own reader. Whether a text is right is asked by a machine that has
// a pile of what must come, and knows no tree; the tree of a right text is found
// by cutting it apart at the sign that binds least. Neither reads as the program does.

// boundLevels: the signs between operands, those that bind least first.
var boundLevels = [][]string{{"||"}, {"&&"}, {"==", "!=", "<", ">", "<=", ">="}, {"|"}, {"^"}, {"&"}, {"<<", ">>"}, {"+", "-"}, {"*", "/", "%"}}

var aheadSigns = []string{"-", "!", "~"}

// betweenSigns: all signs that stand between two operands.
func betweenSigns() []string { return slices.Concat(boundLevels...) }

// boundLevel: which level has the sign; -1 for none.
func boundLevel(s string) int {
	return slices.IndexFunc(boundLevels, func(l []string) bool { return slices.Contains(l, s) })
}

// comes: what the machine sees of a token: its sign, or NAME, NUMBER, END.
func comes(l []impl.Tok, at int) string {
	if at >= len(l) {
		return "END"
	}
	return map[int]string{impl.TokNum: "NUMBER", impl.TokName: "NAME", impl.TokSign: l[at].S}[l[at].Kind]
}

// rules: what the machine lays down in the place of what must come, by the token that
// comes; * is any other one. DOWN and UP are no tokens: from there on it is one deeper,
// and one less deep again.
var rules = map[string][]string{
	"PROGRAM":   {"int: int NAME SIZE ; PROGRAM", "func: func NAME ( NAMES ) BLOCK PROGRAM", "END:"},
	"SIZE":      {"[: [ NUMBER ]", "*:"},
	"NAMES":     {"NAME: NAME MORENAMES", "*:"},
	"MORENAMES": {",: , NAME MORENAMES", "*:"},
	"BLOCK":     {"{: DOWN { ALL } UP"},
	"ALL":       {"}:", "*: STATEMENT ALL"},
	"STATEMENT": {"var: DOWN var NAME = E ; UP", "if: DOWN if ( E ) BLOCK ELSE UP", "while: DOWN while ( E ) BLOCK UP", "return: DOWN return E ; UP",
		"NAME=: DOWN NAME = E ; UP", "NAME[: DOWN DOWN DOWN NAME [ E ] UP CELL UP", "NAME: DOWN E ; UP", "OPERAND: DOWN E ; UP"},
	"ELSE":     {"else: else BLOCK", "*:"},
	"CELL":     {"=: UP = E ;", "*: REST UP ;"},
	"E":        {"NAME: DOWN FIRST REST UP", "OPERAND: DOWN FIRST REST UP"},
	"REST":     {"BETWEEN: BETWEEN FIRST REST", "*:"},
	"FIRST":    {"NAME: DOWN NAME BEHIND UP", "NUMBER: DOWN NUMBER UP", "(: DOWN ( E ) UP", "AHEAD: DOWN AHEAD FIRST UP"},
	"BEHIND":   {"[: [ E ]", "(: ( ARGS )", "*:"},
	"ARGS":     {"):", "*: E MOREARGS"},
	"MOREARGS": {",: , E MOREARGS", "*:"},
}

// goesFor: the token that comes, with the one behind it, is one of those that the word names.
func goesFor(word, token, behind string) bool {
	switch word {
	case "*", token:
		return true
	case "NAME=", "NAME[":
		return token == "NAME" && behind == word[len(word)-1:]
	case "BETWEEN":
		return boundLevel(token) >= 0
	case "AHEAD":
		return slices.Contains(aheadSigns, token)
	case "OPERAND":
		return token == "NUMBER" || token == "(" || slices.Contains(aheadSigns, token)
	}
	return false
}

// textFault: the first fault of the tokens from the left, of those of one token the least; 0 for none.
func textFault(l []impl.Tok, end int) (code, at int) {
	pile := []string{"PROGRAM"}
	deep, k := 0, 0
	for len(pile) > 0 {
		top := pile[len(pile)-1]
		pile = pile[:len(pile)-1]
		token, behind := comes(l, k), comes(l, k+1)
		place := end
		if k < len(l) {
			place = l[k].At
		}
		tooLong := token == "NAME" && len(l[k].S) > 12
		choices, isRule := rules[top]
		which := slices.IndexFunc(choices, func(c string) bool {
			word, _, _ := strings.Cut(c, ": ")
			return goesFor(strings.TrimSuffix(word, ":"), token, behind)
		})
		switch {
		case top == "DOWN" && tooLong:
			return longName, place
		case top == "DOWN" && deep == 60:
			return tooDeep, place
		case top == "DOWN":
			deep++
		case top == "UP":
			deep--
		case isRule && which >= 0:
			_, put, _ := strings.Cut(choices[which], ": ")
			parts := strings.Fields(put)
			slices.Reverse(parts)
			pile = append(pile, parts...)
		case isRule || !goesFor(top, token, behind):
			return wrongToken, place
		case tooLong:
			return longName, place
		default:
			k++
		}
	}
	return 0, 0
}

// upTo: how many of the tokens there are up to the first of the signs, itself too, that lies in no bracket.
func upTo(l []impl.Tok, signs ...string) int {
	open := 0
	for k, tok := range l {
		s := impl.SignOf(tok)
		if strings.Contains("([{", s) && s != "" {
			open++
		}
		if strings.Contains(")]}", s) && s != "" {
			open--
		}
		if open == 0 && slices.Contains(signs, s) {
			return k + 1
		}
	}
	return len(l)
}

// cutAt: the tokens between the commas that lie in no bracket.
func cutAt(l []impl.Tok) [][]impl.Tok {
	var parts [][]impl.Tok
	for len(l) > 0 {
		to := upTo(l, ",")
		part := l[:to]
		if impl.SignOf(l[to-1]) == "," {
			part = l[:to-1]
		}
		parts = append(parts, part)
		l = l[to:]
	}
	return parts
}

// endsOperand: an operand may end with the token.
func endsOperand(tok impl.Tok) bool {
	return tok.Kind != impl.TokSign || tok.S == ")" || tok.S == "]"
}

// splitAt: the place of the last sign of the level that stands between operands, in no bracket; -1 for none.
func splitAt(l []impl.Tok, level []string) int {
	open, at := 0, -1
	for k, tok := range l {
		switch s := impl.SignOf(tok); {
		case s == "(" || s == "[":
			open++
		case s == ")" || s == "]":
			open--
		case open == 0 && k > 0 && slices.Contains(level, s) && endsOperand(l[k-1]):
			at = k
		}
	}
	return at
}

// wantE: the tree of the tokens of a right expression.
func wantE(l []impl.Tok) tree {
	for _, level := range boundLevels {
		if k := splitAt(l, level); k >= 0 {
			return tBinary(l[k].S, wantE(l[:k]), wantE(l[k+1:])).placedAt(l[k].At)
		}
	}
	last := len(l) - 1
	head := l[0]
	switch {
	case head.Kind == impl.TokNum:
		return tNum(head.N).placedAt(head.At)
	case head.Kind == impl.TokName && last == 0:
		return tName(head.S).placedAt(head.At)
	case head.Kind == impl.TokName && l[1].S == "[":
		return tAt(head.S, wantE(l[2:last])).placedAt(head.At)
	case head.Kind == impl.TokName:
		t := tCall(head.S).placedAt(head.At)
		for _, arg := range cutAt(l[2:last]) {
			t.kids = append(t.kids, wantE(arg))
		}
		return t
	case head.S == "(":
		return wantE(l[1:last])
	}
	return tUnary(head.S, wantE(l[1:])).placedAt(head.At)
}

// wantStatements: the trees of the tokens of right statements.
func wantStatements(l []impl.Tok) []tree {
	var all []tree
	for len(l) > 0 {
		var t tree
		size := upTo(l, ";")
		switch head := l[0]; {
		case head.S == "var":
			t = tVar(l[1].S, wantE(l[3:size-1]))
		case head.S == "return":
			t = tReturn(wantE(l[1 : size-1]))
		case head.S == "if" || head.S == "while":
			t, size = wantBranches(l)
		default:
			t = wantSimple(l[:size-1])
		}
		all = append(all, t.placedAt(l[0].At))
		l = l[size:]
	}
	return all
}

// wantBranches: the tree of the `if` or `while` that begins the tokens, and how many are its own.
func wantBranches(l []impl.Tok) (tree, int) {
	asked := upTo(l, ")")
	size := asked + upTo(l[asked:], "}")
	t := tree{kind: impl.NWhile, kids: []tree{wantE(l[2 : asked-1]), wantBlock(l[asked:size])}}
	if l[0].S == "if" {
		t.kind = impl.NIf
		if comes(l, size) == "else" {
			from := size + 1
			size = from + upTo(l[from:], "}")
			t.kids = append(t.kids, wantBlock(l[from:size]))
		}
	}
	return t, size
}

// wantSimple: the tree of a statement that no word begins, without its ';'.
func wantSimple(l []impl.Tok) tree {
	to := upTo(l, "=")
	switch {
	case impl.SignOf(l[to-1]) != "=":
		return tDo(wantE(l))
	case to == 2:
		return tSet(l[0].S, wantE(l[to:]))
	}
	return tPut(l[0].S, wantE(l[2:to-2]), wantE(l[to:]))
}

// wantBlock: the tree of the tokens of a right block, from '{' to '}'.
func wantBlock(l []impl.Tok) tree {
	return tBlock(wantStatements(l[1 : len(l)-1])...).placedAt(l[0].At)
}

// wantTree: the program of the tokens of a right text.
func wantTree(l []impl.Tok) impl.Source {
	var p impl.Source
	var bodies []tree
	for len(l) > 0 {
		if l[0].S == "int" {
			if l[2].S == "[" {
				p.Arrays = append(p.Arrays, impl.Array{Name: l[1].S, Size: l[3].N})
			} else {
				p.Globals = append(p.Globals, l[1].S)
			}
			l = l[upTo(l, ";"):]
			continue
		}
		params := upTo(l, ")")
		f := impl.Fn{Name: l[1].S}
		for _, name := range cutAt(l[3 : params-1]) {
			f.Params = append(f.Params, name[0].S)
		}
		size := params + upTo(l[params:], "}")
		p.Fns = append(p.Fns, f)
		bodies = append(bodies, wantBlock(l[params:size]))
		l = l[size:]
	}
	return laid(p, bodies...)
}

// wantParse: what Parse must tell.
func wantParse(s string) parsed {
	words := wantLex(s)
	if words.code != 0 {
		return parsed{code: words.code, at: words.at}
	}
	if code, at := textFault(words.toks, len(s)); code != 0 {
		return parsed{code: code, at: at}
	}
	p := wantTree(words.toks)
	if len(p.Nodes) > 800 {
		return parsed{code: manyNodes}
	}
	return parsed{p: plainSource(p)}
}
