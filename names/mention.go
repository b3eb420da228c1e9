package names

import (
	"iter"
	"maps"
	"slices"
	"strconv"

	"gabarit/api"
)

// mentions is what classes mention. All other names of a space are in the same ones of these classes; and so are all names of all other spaces.
type mentions struct {
	names  []api.Name        // ascending
	spaces []string          // ascending
	taken  map[api.Name]bool // mentioned or to be avoided, and so not fresh
	other  string            // the new space
}

// mentioned takes classes that are well-formed.
func mentioned(l []api.Class, avoid []api.Name) mentions {
	taken, spaces := map[api.Name]bool{}, map[string]bool{}
	for _, c := range l {
		walk(c, func(d api.Class, _ int) bool {
			switch d.Kind {
			case api.ClName:
				taken[d.Name], spaces[d.Name.Space] = true, true
			case api.ClSpace:
				spaces[d.Space] = true
			}
			return true
		})
	}
	m := mentions{
		names:  slices.SortedFunc(maps.Keys(taken), compare),
		spaces: slices.Sorted(maps.Keys(spaces)),
		taken:  taken,
		other:  first("u", func(s string) bool { return spaces[s] }),
	}
	for _, n := range avoid {
		taken[n] = true
	}
	return m
}

// fresh returns the fresh name of a space.
func (m mentions) fresh(space string) api.Name {
	taken := func(local string) bool { return m.taken[api.Name{Space: space, Local: local}] }
	return api.Name{Space: space, Local: first("x", taken)}
}

// candidates produces the mentioned names, the fresh names of the mentioned spaces, and that of the new space.
func (m mentions) candidates() iter.Seq[api.Name] {
	return func(yield func(api.Name) bool) {
		for _, n := range m.names {
			if !yield(n) {
				return
			}
		}
		for _, space := range m.spaces {
			if !yield(m.fresh(space)) {
				return
			}
		}
		yield(m.fresh(m.other))
	}
}

// first returns the first of stem, stem1, stem2, .. that is not taken.
func first(stem string, taken func(string) bool) string {
	word := stem
	for i := 1; taken(word); i++ {
		word = stem + strconv.Itoa(i)
	}
	return word
}
