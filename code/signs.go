package code

import (
	"heirloom/api"
	"heirloom/num"
)

// sign is what becomes of a sign of two.
type sign struct {
	reckoned int  // what num.Op does for it; 0: it is not reckoned ahead
	op       int  // its instruction; of and, or: the jump past the right part
	turned   bool // there is no instruction but for the two parts the other way round
	denied   bool // there is no instruction but for the opposite
	jumps    bool // the right part may be passed over
}

func signs() map[string]sign {
	return map[string]sign{
		"+":   {op: api.IAdd, reckoned: num.Add},
		"-":   {op: api.ISub, reckoned: num.Sub},
		"*":   {op: api.IMul, reckoned: num.Mul},
		"/":   {op: api.IDiv, reckoned: num.Div},
		"//":  {op: api.IIDiv, reckoned: num.IDiv},
		"%":   {op: api.IMod, reckoned: num.Mod},
		"..":  {op: api.IConcat},
		"==":  {op: api.IEq},
		"~=":  {op: api.IEq, denied: true},
		"<":   {op: api.ILt},
		"<=":  {op: api.ILe},
		">":   {op: api.ILt, turned: true},
		">=":  {op: api.ILe, turned: true},
		"and": {op: api.IJumpNot, jumps: true},
		"or":  {op: api.IJumpIf, jumps: true},
	}
}

// signOfOne is the instruction of a sign of one.
func signOfOne(text string) int {
	switch text {
	case "-":
		return api.INeg
	case "not":
		return api.INot
	}
	return api.ILen
}
