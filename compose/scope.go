package compose

import "quoin/api"

// name is a word in a module, which is told by its place in the order: another module may mean something else by it.
type name struct {
	module int
	word   string
}

// rule is a rule as it is written: its module's place in the order, and its own place there.
type rule struct{ module, place int }

// scope is what names mean.
type scope struct {
	modules []api.Spec        // in the order
	places  map[string]int    // of modules
	own     map[name]int      // the first own rule of a name
	shut    map[name]struct{} // the names of which an own rule is not open
	used    map[name]rule     // the rule that a used name means, through all extensions
	kinds   map[string]int    // the first module that has a kind
}

// newScope is what names mean in modules that were visited.
func newScope(v *visits) *scope {
	s := &scope{
		modules: v.order,
		places:  v.places,
		own:     map[name]int{},
		shut:    map[name]struct{}{},
		used:    map[name]rule{},
		kinds:   map[string]int{},
	}
	for module := range s.modules {
		s.addRules(module)
		s.addKinds(module)
	}
	for _, module := range v.ended { // what a used module's names mean must be known ahead
		s.addUsed(module)
	}
	return s
}

func (s *scope) addRules(module int) {
	for place, r := range s.modules[module].Rules {
		n := name{module, r.Name}
		if _, is := s.own[n]; !is {
			s.own[n] = place
		}
		if !r.Open {
			s.shut[n] = struct{}{}
		}
	}
}

func (s *scope) addKinds(module int) {
	for _, line := range s.modules[module].Lex {
		if _, is := s.kinds[line.Name]; !is && line.Name != "" {
			s.kinds[line.Name] = module
		}
	}
}

func (s *scope) addUsed(module int) {
	for _, u := range s.modules[module].Uses {
		for _, x := range s.taken(u) {
			n := name{module, x.as}
			if _, is := s.used[n]; !is && x.why != api.ErrNone {
				s.used[n] = s.root(x.from)
			}
		}
	}
}

// takenName is a name that a Use takes: the rule that it is in its own module, and why it may not be taken there.
type takenName struct {
	as   string
	from rule
	why  api.Errno
}

// taken are the names that a Use takes.
func (s *scope) taken(u api.Use) []takenName {
	module := s.places[u.Module]
	var l []takenName
	for _, n := range u.Names {
		l = append(l, s.takenBy(n, module))
	}
	if len(u.Names) > 0 {
		return l
	}
	for place, r := range s.modules[module].Rules {
		if r.Open {
			l = append(l, takenName{as: r.Name, from: rule{module, place}})
		}
	}
	return l
}

// takenBy is the name that is told of a module's rule.
func (s *scope) takenBy(n api.Rename, module int) takenName {
	place, is := s.own[name{module, n.Name}]
	if !is {
		return takenName{as: n.As, why: api.ErrNone}
	}
	x := takenName{as: n.As, from: rule{module, place}}
	if !s.line(x.from).Open {
		x.why = api.ErrClosed
	}
	return x
}

// line is a rule's text as a tree.
func (s *scope) line(r rule) api.RuleLine {
	return s.modules[r.module].Rules[r.place]
}

// root is the rule to which one adds its alternatives; of one that extends nothing, itself.
func (s *scope) root(r rule) rule {
	line := s.line(r)
	if extended, is := s.used[name{r.module, line.Name}]; is && line.Open {
		return extended
	}
	return r
}

// meant is the rule, one that extends nothing, that a word means in a module, parameters aside.
func (s *scope) meant(module int, word string) (rule, bool) {
	n := name{module, word}
	if place, is := s.own[n]; is {
		return s.root(rule{module, place}), true
	}
	used, is := s.used[n]
	return used, is
}
