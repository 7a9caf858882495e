package pager

import (
	"quoin/api"
	"quoin/states"
	"quoin/work"
)

// kernel is a kernel's core, which is rising, and the Looks of each spot of it.
type kernel struct {
	core  []states.Spot
	looks []*work.Set
}

// newKernel is one of items, which are rising.
func newKernel(l []api.Item) kernel {
	k := kernel{core: states.Core(l)}
	for _, at := range k.core {
		looks := newSet()
		for len(l) > 0 && at == (states.Spot{Prod: l[0].Prod, Dot: l[0].Dot}) {
			looks.Add(l[0].Look)
			l = l[1:]
		}
		k.looks = append(k.looks, looks)
	}
	return k
}

func newSet() *work.Set {
	s, _ := work.NewSet()
	return s
}

// copied is the same kernel, of whose Looks none are another one's.
func (k kernel) copied() kernel {
	var looks []*work.Set
	for _, l := range k.looks {
		looks = append(looks, l.Copy())
	}
	return kernel{k.core, looks}
}

// items are a kernel's items, rising.
func (k kernel) items() []api.Item {
	var l []api.Item
	for n, at := range k.core {
		for _, look := range k.looks[n].All() {
			l = append(l, api.Item{Prod: at.Prod, Dot: at.Dot, Look: look})
		}
	}
	return l
}

// count is how many items a kernel has.
func (k kernel) count() int {
	count := 0
	for _, looks := range k.looks {
		count += looks.Len()
	}
	return count
}

// isWithin tells whether another kernel of the same core has all of its items.
func (k kernel) isWithin(l kernel) bool {
	for n, looks := range k.looks {
		if !looks.Within(l.looks[n]) {
			return false
		}
	}
	return true
}

// join gives a kernel the items of another one of the same core: how many were not there.
func (k kernel) join(l kernel) int {
	more := 0
	for n, looks := range k.looks {
		more += looks.Join(l.looks[n])
	}
	return more
}

// isWeak tells whether two kernels of one core are weakly compatible. Two spots are in the way of that just if some kind is a Look of the one in the first kernel alone and of the other in the second alone, and they have no Look in common in either kernel: of a kind that is a Look of both of them in one kernel nothing else is asked.
func (k kernel) isWeak(l kernel) bool {
	other := l.alone(k)
	for kind, spots := range k.alone(l) {
		for _, p := range spots {
			for _, q := range other[kind] {
				if !k.looks[p].Meets(k.looks[q]) && !l.looks[p].Meets(l.looks[q]) {
					return false
				}
			}
		}
	}
	return true
}

// alone are, of each kind, the spots (by their places in the core) of which it is a Look here, but not in another kernel of the same core.
func (k kernel) alone(l kernel) map[int][]int {
	m := map[int][]int{}
	for n, looks := range k.looks {
		if looks.Within(l.looks[n]) {
			continue
		}
		for _, kind := range looks.All() {
			if !l.looks[n].Has(kind) {
				m[kind] = append(m[kind], n)
			}
		}
	}
	return m
}
