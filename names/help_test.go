package names

import (
	"slices"
	"strings"

	"gabarit/api"
)

func nm(space, local string) api.Name { return api.Name{Space: space, Local: local} }

func name(space, local string) api.Class {
	return api.Class{Kind: api.ClName, Name: nm(space, local)}
}
func space(s string, except ...api.Class) api.Class {
	return api.Class{Kind: api.ClSpace, Space: s, Except: except}
}
func all(except ...api.Class) api.Class     { return api.Class{Kind: api.ClAny, Except: except} }
func choice(l ...api.Class) api.Class       { return api.Class{Kind: api.ClChoice, Args: l} }
func none() api.Class                       { return all(all()) }
func long(n int) string                     { return strings.Repeat("x", n) }
func repeat(n int, c api.Class) []api.Class { return slices.Repeat([]api.Class{c}, n) }

// nested is a class of the depth n.
func nested(n int) api.Class {
	c := all()
	for range n - 1 {
		c = all(c)
	}
	return c
}

// numbered is n names of a space.
func numbered(s string, n int) []api.Class {
	var l []api.Class
	for i := range n {
		l = append(l, name(s, string([]byte{'a' + byte(i/26), 'a' + byte(i%26)})))
	}
	return l
}

// endless is a class that is in itself.
func endless() api.Class {
	l := []api.Class{{Kind: api.ClChoice}}
	l[0].Args = l
	return l[0]
}

func same(a, b api.Class) bool {
	return a.Kind == b.Kind && a.Name == b.Name && a.Space == b.Space && slices.EqualFunc(a.Except, b.Except, same) && slices.EqualFunc(a.Args, b.Args, same)
}

func clone(c api.Class) api.Class {
	d := c
	d.Except, d.Args = nil, nil
	for _, x := range c.Except {
		d.Except = append(d.Except, clone(x))
	}
	for _, x := range c.Args {
		d.Args = append(d.Args, clone(x))
	}
	return d
}

// show writes a class as the examples of the chapter do, with a choice in braces.
func show(c api.Class) string {
	except := ""
	for _, x := range c.Except {
		except += "-(" + show(x) + ")"
	}
	switch c.Kind {
	case api.ClName:
		return c.Name.Space + ":" + c.Name.Local
	case api.ClSpace:
		return c.Space + ":*" + except
	case api.ClAny:
		return "*" + except
	case api.ClChoice:
		var l []string
		for _, x := range c.Args {
			l = append(l, show(x))
		}
		return "{" + strings.Join(l, "|") + "}"
	}
	return "?"
}

// contains is written apart from the program, straight from the table of the chapter.
func contains(c api.Class, n api.Name) bool {
	is := false
	switch c.Kind {
	case api.ClName:
		return c.Name.Space == n.Space && c.Name.Local == n.Local
	case api.ClSpace:
		is = c.Space == n.Space
	case api.ClAny:
		is = true
	case api.ClChoice:
		for _, x := range c.Args {
			is = is || contains(x, n)
		}
	}
	for _, x := range c.Except {
		is = is && !contains(x, n)
	}
	return is
}

// dice is a repeatable source of numbers.
type dice uint32

func (d *dice) below(n int) int {
	*d = *d*1664525 + 1013904223
	return int(*d>>8) % n
}

// made makes classes that mention the spaces "", a, b, u and the locals x, y, x1.
func (d *dice) made(depth int) api.Class {
	s := []string{"", "a", "b", "u"}[d.below(4)]
	kind := d.below(5)
	if depth == 1 && kind > 2 {
		kind = 0
	}
	switch kind {
	case 0:
		return name(s, []string{"x", "y", "x1"}[d.below(3)])
	case 1:
		return space(s, d.some(depth, 2)...)
	case 2:
		return all(d.some(depth, 2)...)
	}
	return choice(append(d.some(depth, 3), d.made(depth-1))...)
}

func (d *dice) some(depth, most int) []api.Class {
	var l []api.Class
	if depth > 1 {
		for range d.below(most) {
			l = append(l, d.made(depth-1))
		}
	}
	return l
}

// universe has all names and spaces that made classes mention, and others: two of these classes with the same names of it have the same set.
func universe() []api.Name {
	var l []api.Name
	for _, s := range []string{"", "a", "b", "u", "v", "w"} {
		for _, local := range []string{"x", "x1", "x2", "y", "z"} {
			l = append(l, nm(s, local))
		}
	}
	return l
}

// members is a text of the names of the universe that a class has.
func members(c api.Class) string {
	var b strings.Builder
	for _, n := range universe() {
		if contains(c, n) {
			b.WriteString(n.Space + ":" + n.Local + " ")
		}
	}
	return b.String()
}
