package ages

import "heirloom/api"

// objectType tells whether values of a type lead to objects.
func objectType(t int) bool { return t >= api.TStr && t <= api.TProto }

// A name is what a value knows of the object that it leads to: a type and a handle.
type name [2]int64

func nameOf(kind int, h int64) name { return name{int64(kind), h} }

// firstOnes has the place of each object by its name, of several of one name that of the first one.
func firstOnes(l []api.Seen) map[name]int {
	places := make(map[name]int, len(l))
	for i, s := range l {
		n := nameOf(s.Thing.Kind, int64(s.H))
		if _, is := places[n]; !is {
			places[n] = i
		}
	}
	return places
}

// timesOf has how often a handle is among others.
func timesOf(l []int) map[int]int {
	times := make(map[int]int, len(l))
	for _, h := range l {
		times[h]++
	}
	return times
}
