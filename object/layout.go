package object

import (
	"heirloom/api"
	"heirloom/text"
)

// layout is what a kind asks of its objects.
type layout struct {
	fits func(o api.Object) bool
	key  func(o api.Object, i int) bool // slot i is a pair's key, so it may be dead; nil: the kind has no pairs
}

// layoutOf needs a kind from TStr to TProto.
func layoutOf(kind int) layout {
	table := [...]layout{
		api.TStr:    {fits: fitsText},
		api.TTable:  {fits: fitsTable, key: keyOfTable},
		api.TFunc:   {fits: fitsFunc},
		api.TBox:    {fits: func(o api.Object) bool { return len(o.Aux) == 0 && len(o.Slots) == 1 }},
		api.TThread: {fits: func(o api.Object) bool { return len(o.Aux) == 0 }},
		api.TProto:  {fits: func(o api.Object) bool { return len(o.Aux) == 1 }},
	}
	return table[kind]
}

// Layout is what is wrong with an object for its kind.
func Layout(o api.Object) api.Errno {
	if err := wrong(o); err != api.OK {
		return err
	}
	asked := layoutOf(o.Head.Kind)
	if !asked.fits(o) || asked.deadAstray(o) {
		return api.ErrForm
	}
	return api.OK
}

// deadAstray tells whether a TDead stands where no key does. It needs an object that fits.
func (a layout) deadAstray(o api.Object) bool {
	for i, v := range o.Slots {
		if v.T == api.TDead && (a.key == nil || !a.key(o, i)) {
			return true
		}
	}
	return false
}

func fitsText(o api.Object) bool {
	if len(o.Aux) == 0 || len(o.Slots) != 0 {
		return false
	}
	_, err := text.Unpack(o.Aux[1:], int(o.Aux[0]))
	return err == api.OK
}

func fitsTable(o api.Object) bool {
	if len(o.Aux) != 2 || len(o.Slots) == 0 {
		return false
	}
	array, pairs := o.Aux[0], o.Aux[1]
	all := int64(len(o.Slots))
	if array < 0 || array > all || pairs < 0 || pairs > all { // else their sum might wrap round
		return false
	}
	meta := o.Slots[0].T
	return pairs&(pairs-1) == 0 && 1+array+2*pairs == all && (meta == api.TNil || meta == api.TTable)
}

// keyOfTable needs a table that fits.
func keyOfTable(o api.Object, i int) bool {
	ahead := 1 + int(o.Aux[0])
	return i >= ahead && (i-ahead)%2 == 0
}

func fitsFunc(o api.Object) bool {
	if len(o.Aux) != 0 || len(o.Slots) == 0 || o.Slots[0].T != api.TProto {
		return false
	}
	for _, v := range o.Slots[1:] {
		if v.T != api.TBox {
			return false
		}
	}
	return true
}
