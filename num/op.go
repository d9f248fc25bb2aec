package num

import "heirloom/api"

// The operations.
const (
	Add  = 1
	Sub  = 2
	Mul  = 3
	Div  = 4
	IDiv = 5
	Mod  = 6
)

// operation is what an operation does with two ints and with two floats; nil: it takes none of that kind.
type operation struct {
	ints   func(a, b int64) int64
	floats func(a, b float64) float64
}

// operationOf needs an op from Add to Mod.
func operationOf(op int) operation {
	table := [...]operation{
		Add: {
			ints:   func(a, b int64) int64 { return a + b },
			floats: func(a, b float64) float64 { return a + b },
		},
		Sub: {
			ints:   func(a, b int64) int64 { return a - b },
			floats: func(a, b float64) float64 { return a - b },
		},
		Mul: {
			ints:   func(a, b int64) int64 { return a * b },
			floats: func(a, b float64) float64 { return a * b },
		},
		Div:  {floats: func(a, b float64) float64 { return a / b }},
		IDiv: {ints: quotientDown},
		Mod:  {ints: restDown},
	}
	return table[op]
}

// Op is an operation of two numbers.
func Op(op int, a, b api.Value) (api.Value, api.Errno) {
	if op < Add || op > Mod {
		return api.Value{}, api.ErrArg
	}
	if !Is(a) || !Is(b) {
		return api.Value{}, api.ErrType
	}
	does := operationOf(op)
	switch op {
	case Add, Sub, Mul:
		if a.T == api.TInt && b.T == api.TInt {
			return Int(does.ints(a.N, b.N)), api.OK
		}
		fallthrough // what are not two ints end as a quotient does, in float64
	case Div:
		x, _ := Of(a)
		y, _ := Of(b)
		return Float(does.floats(x, y)), api.OK
	}
	return divideWhole(does, a, b)
}

// divideWhole is IDiv or Mod of two numbers.
func divideWhole(does operation, a, b api.Value) (api.Value, api.Errno) {
	x, err := Whole(a)
	if err != api.OK {
		return api.Value{}, err
	}
	y, err := Whole(b)
	if err != api.OK {
		return api.Value{}, err
	}
	if y == 0 {
		return api.Value{}, api.ErrZero
	}
	return Int(does.ints(x, y)), api.OK
}

// quotientDown mends Go's quotient, which is rounded towards 0.
func quotientDown(a, b int64) int64 {
	if between(a, b) {
		return a/b - 1
	}
	return a / b
}

// restDown mends Go's rest, which has the sign of a.
func restDown(a, b int64) int64 {
	if between(a, b) {
		return a%b + b
	}
	return a % b
}

// between tells whether the true quotient is below 0 and not whole: there alone rounding down and towards 0 part.
func between(a, b int64) bool { return a%b != 0 && (a < 0) != (b < 0) }

// Neg is the negative of a number.
func Neg(v api.Value) (api.Value, api.Errno) {
	switch {
	case !Is(v):
		return api.Value{}, api.ErrType
	case v.T == api.TInt:
		return Int(-v.N), api.OK
	}
	return Float(-pointed(v)), api.OK
}
