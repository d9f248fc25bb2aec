package ages

import "heirloom/api"

// rules are what a mode asks of objects in a phase.
type rules struct {
	breaks     func(s api.Seen) bool     // whether an object's colour or age breaks a rule
	looksInto  func(s api.Seen) bool     // whether its slots are looked at
	mayNotLead func(s, to api.Seen) bool // whether a slot of one that leads to the other breaks a rule
}

func rulesOf(v api.View) rules {
	switch v.Mode {
	case api.ModeInc:
		return incRules(v)
	case api.ModeGen:
		return genRules(v)
	}
	return strangeRules()
}

// strangeRules are those of a mode or phase that is none: no object is right, and a slot has only to lead somewhere.
func strangeRules() rules {
	return rules{
		breaks:     func(api.Seen) bool { return true },
		looksInto:  func(api.Seen) bool { return true },
		mayNotLead: func(_, _ api.Seen) bool { return false },
	}
}

func incRules(v api.View) rules {
	asked := phaseRules(v)
	breaksPhase := asked.breaks
	asked.breaks = func(s api.Seen) bool { return s.Age != api.New || breaksPhase(s) }
	return asked
}

// phaseRules are those of the colours, as marking and sweeping go on step by step.
func phaseRules(v api.View) rules {
	asked := strangeRules()
	switch v.Phase {
	case api.PhasePause:
		asked.breaks = func(s api.Seen) bool { return s.Colour != v.White }
	case api.PhaseMark:
		asked.breaks = func(s api.Seen) bool { return otherWhite(s.Colour, v.White) }
		asked.mayNotLead = func(s, to api.Seen) bool { return s.Colour == api.Black && to.Colour == v.White }
	case api.PhaseSweep:
		asked.breaks = func(s api.Seen) bool { return s.Colour == api.Grey }
		// What is of the other white is about to be dropped: what it leads to may be gone.
		asked.looksInto = func(s api.Seen) bool { return !otherWhite(s.Colour, v.White) }
		asked.mayNotLead = func(_, to api.Seen) bool { return otherWhite(to.Colour, v.White) }
	}
	return asked
}

// otherWhite tells whether a colour is a white, and not the current one.
func otherWhite(colour, current int) bool {
	return colour != current && (colour == api.White0 || colour == api.White1)
}

// genRules are those of the ages. Between two collections there is no phase but the pause; the slots are asked in others just as well.
func genRules(v api.View) rules {
	asked := strangeRules()
	if v.Phase == api.PhasePause {
		again := timesOf(v.Again)
		asked.breaks = func(s api.Seen) bool { return !fitsAge(s, v.White, again[s.H] > 0) }
	}
	asked.mayNotLead = func(s, to api.Seen) bool { return tooYoung(s.Age, to.Age) }
	return asked
}

// fitsAge tells whether an object's colour is one that objects of its age have.
func fitsAge(s api.Seen, white int, again bool) bool {
	switch s.Age {
	case api.New, api.Survival:
		return s.Colour == white
	case api.Touched1:
		return s.Colour == api.Grey && again
	case api.Old1, api.Old, api.Touched2:
		return s.Colour == api.Black
	case api.Old0:
		return s.Colour == api.Grey || s.Colour == api.Black
	}
	return false
}

// tooYoung tells whether one of owner's age may not lead to one of this age. Young collections do not go through Old ones; through Old1 and Touched2 they go once more, and behind that what is Survival now is old too, but what is New is not.
func tooYoung(owner, age int) bool {
	switch owner {
	case api.Old:
		return young(age)
	case api.Old1, api.Touched2:
		return age == api.New
	}
	return false
}
