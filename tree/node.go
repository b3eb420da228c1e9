package tree

import (
	"iter"
	"slices"

	"gabarit/api"
	"gabarit/chars"
	"gabarit/names"
)

// visit is a node, the path that leads to it, and how many elements are in each other there, itself included.
type visit struct {
	node api.Node
	path []int
	deep int
}

// visits produces the nodes in a node, itself first, in document order. The paths share no memory.
func visits(n api.Node) iter.Seq[visit] {
	return func(yield func(visit) bool) {
		var from func(v visit) bool
		from = func(v visit) bool {
			if v.node.Kind != api.NdText {
				v.deep++
			}
			if !yield(v) {
				return false
			}
			for i, kid := range v.node.Kids {
				path := append(slices.Clip(v.path), i)
				if !from(visit{node: kid, path: path, deep: v.deep}) {
					return false
				}
			}
			return true
		}
		from(visit{node: n})
	}
}

// measure returns the size of a node, and whether it is small. It ends as soon as it is not: a node that is in itself has no end.
func measure(n api.Node) (int, bool) {
	size := 0
	for v := range visits(n) {
		size += 1 + len(v.node.Attrs)
		if size > api.MaxNodes || v.deep > api.MaxDeep {
			return 0, false
		}
	}
	return size, true
}

func small(n api.Node) bool {
	_, small := measure(n)
	return small
}

func valid(n api.Node) bool {
	for v := range visits(n) {
		if !fits(v.node) {
			return false
		}
	}
	return true
}

// fits reports whether a node is valid as far as its kids do not matter by themselves.
func fits(n api.Node) bool {
	switch n.Kind {
	case api.NdElement:
		return nameFits(n.Name) && attrsFit(n.Attrs) && textsApart(n.Kids) && n.Text == ""
	case api.NdText:
		return n.Name == api.Name{} && len(n.Attrs) == 0 && len(n.Kids) == 0 && contentFits(n.Text)
	}
	return false
}

func nameFits(n api.Name) bool {
	return chars.Local(n.Local) && len(n.Space) <= api.MaxWord && isText(n.Space)
}

// attrNameFits differs from nameFits in that xmlns in the empty space would be a declaration.
func attrNameFits(n api.Name) bool {
	return nameFits(n) && n != api.Name{Local: "xmlns"}
}

func attrFits(a api.Attr) bool {
	return attrNameFits(a.Name) && isText(a.Value)
}

func attrsFit(l []api.Attr) bool {
	for i, a := range l {
		if !attrFits(a) || i > 0 && !names.Less(l[i-1].Name, a.Name) {
			return false
		}
	}
	return true
}

// contentFits reports whether a text can be that of a node.
func contentFits(s string) bool {
	return s != "" && isText(s)
}

func isText(s string) bool {
	_, _, e := chars.Decode(s)
	return e == api.OK
}

// textsApart reports whether no two texts stand beside each other.
func textsApart(l []api.Node) bool {
	for i := 1; i < len(l); i++ {
		if l[i-1].Kind == api.NdText && l[i].Kind == api.NdText {
			return false
		}
	}
	return true
}

func same(a, b api.Node) bool {
	return a.Kind == b.Kind && a.Name == b.Name && a.Text == b.Text && slices.Equal(a.Attrs, b.Attrs) && slices.EqualFunc(a.Kids, b.Kids, same)
}

func clone(n api.Node) api.Node {
	kids := n.Kids
	n.Attrs, n.Kids = slices.Clone(n.Attrs), nil
	for _, kid := range kids {
		n.Kids = append(n.Kids, clone(kid))
	}
	return n
}

// find returns the node to which a path leads, or nil.
func find(n *api.Node, path []int) *api.Node {
	for _, i := range path {
		if i < 0 || i >= len(n.Kids) {
			return nil
		}
		n = &n.Kids[i]
	}
	return n
}
