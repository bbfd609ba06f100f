// Package tree: nodes that stand below each other. See doc/01-tree.md.
package tree

import (
	"cmp"
	"slices"

	"orangery/api"
)

// Check tells the first thing that keeps t from being a tree.
func Check(t api.Tree) api.Errno {
	ahead := 0
	for _, p := range t.P {
		if !inRange(p) {
			return api.ErrRange
		}
		if p.Node <= ahead {
			return api.ErrTwice
		}
		ahead = p.Node
	}
	for _, p := range t.P {
		if meets(t, p.Node, func(up int) bool { return up == p.Node }) {
			return api.ErrForm
		}
	}
	return api.OK
}

// Find asks nothing of t: of several places of one node the first one is it.
func Find(t api.Tree, node int) api.Place {
	for _, p := range t.P {
		if p.Node == node {
			return p
		}
	}
	return api.Place{}
}

// Under tells whether node is top, or stands below it; a top that stands nowhere may have nodes below it, too.
func Under(t api.Tree, node, top int) (bool, api.Errno) {
	if e := Check(t); e != api.OK {
		return false, e
	}
	if !isNode(node) || !isNode(top) {
		return false, api.ErrWho
	}
	return node == top || meets(t, node, func(up int) bool { return up == top }), api.OK
}

// Kids answers what stands right below node, by Name, of like ones by Node.
func Kids(t api.Tree, node int) ([]api.Place, api.Errno) {
	if e := Check(t); e != api.OK {
		return nil, e
	}
	if !isNode(node) {
		return nil, api.ErrWho
	}
	// Deleting and sorting work in place: they get a copy, as t is the caller's.
	kids := slices.Clone(t.P)
	kids = slices.DeleteFunc(kids, func(p api.Place) bool { return p.Parent != node })
	slices.SortFunc(kids, byName)
	return kids, api.OK
}

// meets asks of each node above the given one, from one Parent to the next one, until one is what is sought.
// It goes no more steps than there are places: by then a way up has ended, or a ring has come round.
// Only for places in range: a place of Node 0 is taken for none.
func meets(t api.Tree, node int, sought func(up int) bool) bool {
	for range t.P {
		p := Find(t, node)
		if p.Node == 0 {
			return false
		}
		node = p.Parent
		if sought(node) {
			return true
		}
	}
	return false
}

// inRange leaves out the root and the bin as nodes of a place: both are stood below, and stand nowhere.
func inRange(p api.Place) bool {
	return p.Node >= 1 && p.Node < api.MaxNode && isNode(p.Parent) && p.Name >= 0 && p.Name <= api.MaxName
}

func isNode(node int) bool {
	return node >= 0 && node <= api.MaxNode
}

func byName(a, b api.Place) int {
	return cmp.Or(cmp.Compare(a.Name, b.Name), cmp.Compare(a.Node, b.Node))
}
