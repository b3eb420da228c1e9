package names

import (
	"slices"

	"gabarit/api"
)

// normal returns the normal class of a set of which all classes are mentioned.
func normal(m mentions, in func(api.Name) bool) api.Class {
	wide := in(m.fresh(m.other))
	odd := m.odd(wide, in)
	if wide {
		return api.Class{Kind: api.ClAny, Except: together(odd)}
	}
	if len(odd) == 0 {
		return api.Class{Kind: api.ClAny, Except: []api.Class{{Kind: api.ClAny}}}
	}
	return together(odd)[0]
}

// odd returns the odd classes of a set.
func (m mentions) odd(wide bool, in func(api.Name) bool) []api.Class {
	var odd []api.Class
	for _, space := range m.spaces {
		full := in(m.fresh(space))
		l := m.oddNames(space, full, in)
		if full != wide {
			l = []api.Class{{Kind: api.ClSpace, Space: space, Except: together(l)}}
		}
		odd = append(odd, l...)
	}
	return odd
}

// oddNames returns the classes of the odd names of a space.
func (m mentions) oddNames(space string, full bool, in func(api.Name) bool) []api.Class {
	begin, _ := slices.BinarySearchFunc(m.names, api.Name{Space: space}, compare)
	var odd []api.Class
	for _, n := range m.names[begin:] {
		if n.Space != space {
			break
		}
		if in(n) != full {
			odd = append(odd, api.Class{Kind: api.ClName, Name: n})
		}
	}
	return odd
}

// together returns no class for none, and otherwise the one that they are put together as.
func together(l []api.Class) []api.Class {
	if len(l) < 2 {
		return l
	}
	return []api.Class{{Kind: api.ClChoice, Args: l}}
}
