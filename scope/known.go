package scope

// global is the function, and the number, of what is no variable.
const global = -1

// variable is told by its function and its number there.
type variable struct{ of, number int }

type entry struct {
	text string
	is   variable
}

// known is what is known at the place that is looked at: a stack that nothing but these closures pushes, cuts or sees.
type known struct {
	push func(text string, v variable)
	size func() int
	cut  func(size int)
	last func(text string) variable
}

func newKnown() known {
	var stack []entry
	return known{
		push: func(text string, v variable) { stack = append(stack, entry{text, v}) },
		size: func() int { return len(stack) },
		cut:  func(size int) { stack = stack[:size] },
		last: func(text string) variable {
			for i := len(stack) - 1; i >= 0; i-- {
				if stack[i].text == text {
					return stack[i].is
				}
			}
			return variable{global, global}
		},
	}
}
