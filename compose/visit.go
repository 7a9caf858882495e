package compose

import (
	"quoin/api"
	"quoin/spec"
)

// visits is the way through modules, each visited once, with what is wrong on it.
type visits struct {
	given   map[string]int // the modules' places as they are handed in
	order   []api.Spec     // the modules that came, in the order
	places  map[string]int // their places in the order
	open    []step         // the visits that have not ended, each within the one ahead
	isEnded []bool         // by place in the order
	ended   []int          // the places in the order in which visits ended: used modules ahead of those that use them
	wrong   []api.Diag
}

// step is how far a visit has come: its module's place in the order, and the next of its Uses.
type step struct{ place, use int }

// visit goes from the main module to all that it uses. It does not call itself, since modules may use one another in rows of any length.
func visit(main string, l ...api.Spec) *visits {
	v := &visits{given: map[string]int{}, places: map[string]int{}}
	v.areRight(l)
	if len(v.wrong) == 0 {
		v.areThere(main, l)
	}
	if len(v.wrong) > 0 {
		return v
	}
	v.enter(l[v.given[main]])
	for len(v.open) > 0 {
		v.goOn(l)
	}
	return v
}

// areRight tells of modules that are none.
func (v *visits) areRight(l []api.Spec) {
	for _, s := range l {
		if !spec.Right(s) {
			v.tell(s.Name, api.ErrArg, 0)
		}
	}
}

// areThere finds modules by their names, and tells of those that are there twice, and of a main one that is not.
func (v *visits) areThere(main string, l []api.Spec) {
	for i, s := range l {
		if _, is := v.given[s.Name]; is {
			v.tell(s.Name, api.ErrModule, 0)
		}
		v.given[s.Name] = i
	}
	if _, is := v.given[main]; !is {
		v.tell(main, api.ErrModule, 0)
	}
}

// goOn takes the last visit's next Use, or ends it.
func (v *visits) goOn(l []api.Spec) {
	last := &v.open[len(v.open)-1]
	user := v.order[last.place]
	if last.use == len(user.Uses) {
		v.isEnded[last.place] = true
		v.ended = append(v.ended, last.place)
		v.open = v.open[:len(v.open)-1]
		return
	}
	u := user.Uses[last.use]
	last.use++
	at, is := v.given[u.Module]
	place, came := v.places[u.Module]
	switch {
	case !is:
		v.tell(user.Name, api.ErrModule, u.At)
	case !came:
		v.enter(l[at])
	case !v.isEnded[place]:
		v.tell(user.Name, api.ErrRing, u.At)
	}
}

// enter begins the visit of a module that first comes.
func (v *visits) enter(s api.Spec) {
	place := len(v.order)
	v.order = append(v.order, s)
	v.places[s.Name] = place
	v.isEnded = append(v.isEnded, false)
	v.open = append(v.open, step{place: place})
}

func (v *visits) tell(module string, why api.Errno, at int) {
	v.wrong = append(v.wrong, api.Diag{Module: module, Why: why, At: at})
}
