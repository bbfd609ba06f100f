package world

import (
	"bytes"
	"slices"

	"orangery/api"
)

// clone answers w in new memory, list by list.
func clone(w api.World) api.World {
	w.H = cloneHub(w.H)
	w.D = api.Disk{Safe: bytes.Clone(w.D.Safe), Wait: bytes.Clone(w.D.Wait)}
	w.C = slices.Clone(w.C)
	for k, c := range w.C {
		w.C[k].Pending, w.C[k].V = slices.Clone(c.Pending), cloneView(c.V)
	}
	w.Mail = slices.Clone(w.Mail)
	for k, m := range w.Mail {
		w.Mail[k].V, w.Mail[k].D = cloneView(m.V), cloneDelta(m.D)
	}
	return w
}

func cloneHub(h api.Hub) api.Hub {
	h.H = api.History{L: slices.Clone(h.H.L), T: api.Tree{P: slices.Clone(h.H.T.P)}}
	h.Peers = slices.Clone(h.Peers)
	for k, p := range h.Peers {
		h.Peers[k].Roots = slices.Clone(p.Roots)
	}
	return h
}

func cloneView(v api.View) api.View {
	return api.View{Roots: slices.Clone(v.Roots), Known: slices.Clone(v.Known), Way: slices.Clone(v.Way)}
}

func cloneDelta(d api.Delta) api.Delta {
	return api.Delta{
		Gone: slices.Clone(d.Gone), Here: slices.Clone(d.Here),
		WayGone: slices.Clone(d.WayGone), WayHere: slices.Clone(d.WayHere),
	}
}
