package tree

import (
	"slices"

	"gabarit/api"
	"gabarit/names"
)

// Insert makes a node a kid of an element; the last index of the path is the one that it has then.
func Insert(n api.Node, path []int, x api.Node) (api.Node, api.Errno) {
	wrong := Check(x)
	if wrong == api.OK {
		wrong = wrongKid(path)
	}
	around, i := divided(path)
	return edit(n, around, wrong, func(n *api.Node) api.Errno {
		if n.Kind == api.NdText || i < 0 || i > len(n.Kids) {
			return api.ErrNone
		}
		n.Kids = joined(slices.Insert(n.Kids, i, clone(x)))
		return api.OK
	})
}

// Delete leaves a node out.
func Delete(n api.Node, path []int) (api.Node, api.Errno) {
	around, i := divided(path)
	return edit(n, around, wrongKid(path), func(n *api.Node) api.Errno {
		if i < 0 || i >= len(n.Kids) {
			return api.ErrNone
		}
		n.Kids = joined(slices.Delete(n.Kids, i, i+1))
		return api.OK
	})
}

// Rename gives an element another name.
func Rename(n api.Node, path []int, name api.Name) (api.Node, api.Errno) {
	return edit(n, path, wrongUnless(nameFits(name)), func(n *api.Node) api.Errno {
		if n.Kind == api.NdText {
			return api.ErrDown
		}
		n.Name = name
		return api.OK
	})
}

// SetText gives a text another text.
func SetText(n api.Node, path []int, text string) (api.Node, api.Errno) {
	return edit(n, path, wrongUnless(contentFits(text)), func(n *api.Node) api.Errno {
		if n.Kind != api.NdText {
			return api.ErrDown
		}
		n.Text = text
		return api.OK
	})
}

// SetAttr gives an attribute of an element another value, or adds it.
func SetAttr(n api.Node, path []int, a api.Attr) (api.Node, api.Errno) {
	return edit(n, path, wrongUnless(attrFits(a)), func(n *api.Node) api.Errno {
		if n.Kind == api.NdText {
			return api.ErrDown
		}
		i, there := place(n.Attrs, a.Name)
		if there {
			n.Attrs[i] = a
		} else {
			n.Attrs = slices.Insert(n.Attrs, i, a)
		}
		return api.OK
	})
}

// DropAttr leaves an attribute of an element out.
func DropAttr(n api.Node, path []int, name api.Name) (api.Node, api.Errno) {
	return edit(n, path, wrongUnless(attrNameFits(name)), func(n *api.Node) api.Errno {
		if n.Kind == api.NdText {
			return api.ErrDown
		}
		i, there := place(n.Attrs, name)
		if !there {
			return api.ErrNone
		}
		n.Attrs = slices.Delete(n.Attrs, i, i+1)
		return api.OK
	})
}

// edit returns a document in which the node at the end of a path is changed. wrong is the error of the arguments beside the document and the path.
func edit(n api.Node, path []int, wrong api.Errno, change func(n *api.Node) api.Errno) (api.Node, api.Errno) {
	if e := checkDocument(n); e != api.OK {
		return api.Node{}, e
	}
	if wrong != api.OK {
		return api.Node{}, wrong
	}
	edited := clone(n)
	found := find(&edited, path)
	if found == nil {
		return api.Node{}, api.ErrNone
	}
	if e := change(found); e != api.OK {
		return api.Node{}, e
	}
	if !small(edited) {
		return api.Node{}, api.ErrLong
	}
	return edited, api.OK
}

func wrongUnless(fits bool) api.Errno {
	if !fits {
		return api.ErrArg
	}
	return api.OK
}

// wrongKid returns the error of a path that is to lead to a kid.
func wrongKid(path []int) api.Errno { return wrongUnless(len(path) > 0) }

// divided returns the path to the node around, and the last index; for the empty path the index that no kid has.
func divided(path []int) ([]int, int) {
	if len(path) == 0 {
		return nil, -1
	}
	last := len(path) - 1
	return path[:last], path[last]
}

// joined returns nodes in which texts that stand beside each other are one.
func joined(l []api.Node) []api.Node {
	var kids []api.Node
	for _, n := range l {
		last := len(kids) - 1
		if n.Kind == api.NdText && last >= 0 && kids[last].Kind == api.NdText {
			kids[last].Text += n.Text
		} else {
			kids = append(kids, n)
		}
	}
	return kids
}

// place returns the index at which an attribute stands, or is to stand, and whether it is there.
func place(l []api.Attr, name api.Name) (int, bool) {
	i := 0
	for i < len(l) && names.Less(l[i].Name, name) {
		i++
	}
	return i, i < len(l) && l[i].Name == name
}
