package hub_test

import (
	"math"
	"slices"
	"strconv"
	"testing"

	"orangery/api"
	"orangery/history"
	"orangery/hub"
)

// op of a stamp moves node below parent, by name; it is of this life, and of this number in it.
func op(time, who, node, parent, name, life, seq int) api.Op {
	return api.Op{S: api.Stamp{Time: time, Who: who}, Node: node, Parent: parent, Name: name, Life: life, Seq: seq}
}

func opRec(time, who, node, parent, name, life, seq int) api.Rec {
	return api.Rec{Kind: api.ROp, O: op(time, who, node, parent, name, life, seq)}
}

func lifeRec(who, life int) api.Rec {
	return api.Rec{Kind: api.RLife, Who: who, Life: life}
}

func rootsRec(who int, roots ...int) api.Rec {
	return api.Rec{Kind: api.RRoots, Who: who, Roots: roots}
}

func at(node, parent, name int) api.Place {
	return api.Place{Node: node, Parent: parent, Name: name}
}

func likePeer(a, b api.Peer) bool {
	return a.Life == b.Life && a.Seq == b.Seq && slices.Equal(a.Roots, b.Roots)
}

// alike holds two hubs against each other without the package's help.
func alike(a, b api.Hub) bool {
	return slices.Equal(a.H.L, b.H.L) && slices.Equal(a.H.T.P, b.H.T.P) && a.Version == b.Version && slices.EqualFunc(a.Peers, b.Peers, likePeer)
}

func noHub(h api.Hub) bool {
	return h.H.L == nil && h.H.T.P == nil && h.Version == 0 && h.Peers == nil
}

func likeView(a, b api.View) bool {
	return slices.Equal(a.Roots, b.Roots) && slices.Equal(a.Known, b.Known) && slices.Equal(a.Way, b.Way)
}

func noView(v api.View) bool {
	return v.Roots == nil && v.Known == nil && v.Way == nil
}

// empty is what a new hub is, written out.
func empty() api.Hub {
	return api.Hub{Peers: []api.Peer{{}, {}, {}}}
}

// log has records of each kind: an operation that is late, one that does nothing, and a client that lives anew.
func log() []api.Rec {
	return []api.Rec{
		lifeRec(1, 1),
		opRec(5, 1, 2, 0, 7, 1, 1),
		opRec(6, 1, 3, 2, 8, 1, 2),
		rootsRec(1, 2),
		lifeRec(0, 1),
		opRec(3, 0, 3, 0, 1, 1, 1),
		opRec(7, 0, 2, 3, 4, 1, 2),
		rootsRec(0, 0, 3, 16),
		lifeRec(2, 1),
		lifeRec(2, 2),
	}
}

// logged is what log makes, written out.
func logged() api.Hub {
	return api.Hub{
		H: api.History{
			L: []api.Step{
				{O: op(3, 0, 3, 0, 1, 1, 1), Did: true},
				{O: op(5, 1, 2, 0, 7, 1, 1), Did: true},
				{O: op(6, 1, 3, 2, 8, 1, 2), Did: true, Was: at(3, 0, 1)},
				{O: op(7, 0, 2, 3, 4, 1, 2), Was: at(2, 0, 7)},
			},
			T: api.Tree{P: []api.Place{at(2, 0, 7), at(3, 2, 8)}},
		},
		Version: 10,
		Peers:   []api.Peer{{Life: 1, Seq: 2, Roots: []int{0, 3, 16}}, {Life: 1, Seq: 2, Roots: []int{2}}, {Life: 2}},
	}
}

// with answers what log makes, but for one change.
func with(change func(h *api.Hub)) api.Hub {
	h := logged()
	change(&h)
	return h
}

// peer answers a hub of which client 1 is p, and all else new.
func peer(p api.Peer) api.Hub {
	return api.Hub{Peers: []api.Peer{{}, p, {}}}
}

// full answers a hub whose history has as many operations as may be, all of client 2; client 1 lives.
func full(t *testing.T) api.Hub {
	t.Helper()
	var l []api.Op
	for k := range api.MaxOps {
		l = append(l, op(k+1, 2, 1+k%15, k%17, k, 1, k+1))
	}
	h, e := history.Fold(l)
	if e != api.OK {
		t.Fatalf("Fold: %v", e)
	}
	return api.Hub{H: h, Version: 32, Peers: []api.Peer{{}, {Life: 1}, {Life: 1, Seq: api.MaxOps}}}
}

func good() map[string]api.Hub {
	all := map[string]api.Hub{
		"new, its lists nil":       empty(),
		"new, its lists empty":     {H: api.History{L: []api.Step{}, T: api.Tree{P: []api.Place{}}}, Peers: []api.Peer{{Roots: []int{}}, {Roots: []int{}}, {Roots: []int{}}}},
		"logged":                   logged(),
		"Version 0":                with(func(h *api.Hub) { h.Version = 0 }),
		"Version 1":                with(func(h *api.Hub) { h.Version = 1 }),
		"Version one below":        with(func(h *api.Hub) { h.Version = 59 }),
		"Version at its end":       with(func(h *api.Hub) { h.Version = 60 }),
		"Life at its end":          peer(api.Peer{Life: 50}),
		"Seq at its end":           peer(api.Peer{Life: 1, Seq: 30}),
		"both at their ends":       peer(api.Peer{Life: 50, Seq: 30, Roots: []int{0, 1, 15, 16}}),
		"Life without Seq":         peer(api.Peer{Life: 1, Roots: []int{5}}),
		"Seq of no operation":      peer(api.Peer{Life: 1, Seq: 7}),
		"operations of no life":    with(func(h *api.Hub) { h.Peers = []api.Peer{{}, {}, {}} }),
		"operations, Seq below":    with(func(h *api.Hub) { h.Peers[0].Seq = 0 }),
		"operations of later life": with(func(h *api.Hub) { h.Peers[0].Life = 9 }),
		"alike peers":              {Peers: []api.Peer{{Life: 3, Seq: 2, Roots: []int{1}}, {Life: 3, Seq: 2, Roots: []int{1}}, {Life: 3, Seq: 2, Roots: []int{1}}}},
	}
	for _, l := range [][]int{nil, {}, {0}, {16}, {1, 2, 3, 4}, {0, 16}} {
		all["roots "+list(l)] = peer(api.Peer{Life: 1, Roots: l})
	}
	return all
}

// list writes numbers, for names.
func list(l []int) string {
	s := ""
	for _, n := range l {
		s += " " + strconv.Itoa(n)
	}
	return s
}

type wrongHub struct {
	h api.Hub
	e api.Errno
}

// wrongRoots are lists that chapter 4's Roots refuses.
func wrongRoots() map[string]struct {
	l []int
	e api.Errno
} {
	return map[string]struct {
		l []int
		e api.Errno
	}{
		"one too many":            {[]int{0, 1, 2, 3, 4}, api.ErrMany},
		"many ahead of who":       {[]int{-1, 17, 17, 17, 17}, api.ErrMany},
		"below the first":         {[]int{-1}, api.ErrWho},
		"above the last":          {[]int{17}, api.ErrWho},
		"the last of four":        {[]int{0, 1, 2, 17}, api.ErrWho},
		"twice":                   {[]int{5, 5}, api.ErrTwice},
		"falling":                 {[]int{5, 4}, api.ErrTwice},
		"twice, ahead of another": {[]int{5, 5, 17}, api.ErrTwice},
	}
}

// refused are hubs that Check refuses.
func refused() map[string]wrongHub {
	all := map[string]wrongHub{
		"zero": {api.Hub{}, api.ErrForm},
	}
	refusedHistories(all)
	refusedForms(all)
	refusedPeers(all)
	return all
}

func refusedHistories(all map[string]wrongHub) {
	for name, x := range map[string]struct {
		wrong func(h *api.History)
		e     api.Errno
	}{
		"a step that says it did": {func(h *api.History) { h.L[3].Did = true }, api.ErrForm},
		"steps out of order":      {func(h *api.History) { h.L[0], h.L[1] = h.L[1], h.L[0] }, api.ErrForm},
		"no tree":                 {func(h *api.History) { h.T.P = nil }, api.ErrForm},
		"no step":                 {func(h *api.History) { h.L = nil }, api.ErrForm},
		"a ring":                  {func(h *api.History) { h.T.P[0].Parent = 3 }, api.ErrForm},
		"a stamp twice":           {func(h *api.History) { h.L[1].O.S = h.L[0].O.S }, api.ErrTwice},
		"a node out of range":     {func(h *api.History) { h.L[2].O.Node = 16 }, api.ErrRange},
		"a life out of range":     {func(h *api.History) { h.L[0].O.Life = 51 }, api.ErrRange},
		"too many steps":          {func(h *api.History) { h.L = make([]api.Step, 31) }, api.ErrMany},
		"very many steps":         {func(h *api.History) { h.L = make([]api.Step, 100000) }, api.ErrMany},
	} {
		h := logged()
		x.wrong(&h.H)
		all["history: "+name] = wrongHub{h, x.e}
		// Whatever else is wrong: the history is told first.
		all["history ahead of Version: "+name] = wrongHub{api.Hub{H: h.H, Version: -1, Peers: h.Peers}, x.e}
		all["history ahead of peers: "+name] = wrongHub{api.Hub{H: h.H}, x.e}
		all["history ahead of a peer: "+name] = wrongHub{api.Hub{H: h.H, Peers: []api.Peer{{Life: -1}, {Seq: 1}, {Life: 1, Roots: []int{17}}}}, x.e}
	}
}

func refusedForms(all map[string]wrongHub) {
	for _, n := range []int{-1, 61, math.MinInt, math.MaxInt} {
		name := "Version " + strconv.Itoa(n)
		all[name] = wrongHub{with(func(h *api.Hub) { h.Version = n }), api.ErrRange}
		all[name+" ahead of peers"] = wrongHub{with(func(h *api.Hub) { h.Version = n; h.Peers = nil }), api.ErrRange}
		all[name+" ahead of a peer"] = wrongHub{with(func(h *api.Hub) { h.Version = n; h.Peers[0] = api.Peer{Seq: 1} }), api.ErrRange}
	}
	for _, n := range []int{0, 1, 2, 4, 5, 100000} {
		name := strconv.Itoa(n) + " peers"
		all[name] = wrongHub{api.Hub{Peers: make([]api.Peer, n)}, api.ErrForm}
		all[name+", with a history"] = wrongHub{with(func(h *api.Hub) { h.Peers = make([]api.Peer, n) }), api.ErrForm}
		if n > 0 {
			wrong := make([]api.Peer, n)
			wrong[0] = api.Peer{Life: -1}
			all[name+" ahead of the first of them"] = wrongHub{api.Hub{Peers: wrong}, api.ErrForm}
		}
	}
}

func refusedPeers(all map[string]wrongHub) {
	type wrongPeer struct {
		p api.Peer
		e api.Errno
	}
	wrong := map[string]wrongPeer{
		"Life below":                        {api.Peer{Life: -1}, api.ErrRange},
		"Life above":                        {api.Peer{Life: 51}, api.ErrRange},
		"Life far below":                    {api.Peer{Life: math.MinInt}, api.ErrRange},
		"Life far above":                    {api.Peer{Life: math.MaxInt}, api.ErrRange},
		"Seq below":                         {api.Peer{Life: 1, Seq: -1}, api.ErrRange},
		"Seq above":                         {api.Peer{Life: 1, Seq: 31}, api.ErrRange},
		"Seq far below":                     {api.Peer{Life: 1, Seq: math.MinInt}, api.ErrRange},
		"Seq far above":                     {api.Peer{Life: 1, Seq: math.MaxInt}, api.ErrRange},
		"Life above, with Roots":            {api.Peer{Life: 51, Roots: []int{17}}, api.ErrRange},
		"Seq below, without Life":           {api.Peer{Seq: -1}, api.ErrRange},
		"Seq above, without Life":           {api.Peer{Seq: 31, Roots: []int{1}}, api.ErrRange},
		"Seq without Life":                  {api.Peer{Seq: 1}, api.ErrForm},
		"the last Seq without Life":         {api.Peer{Seq: 30}, api.ErrForm},
		"Roots without Life":                {api.Peer{Roots: []int{0}}, api.ErrForm},
		"Seq and Roots without Life":        {api.Peer{Seq: 1, Roots: []int{0}}, api.ErrForm},
		"too many Roots without Life":       {api.Peer{Roots: []int{0, 1, 2, 3, 4}}, api.ErrForm},
		"Roots that are none, without Life": {api.Peer{Roots: []int{17}}, api.ErrForm},
	}
	for name, x := range wrongRoots() {
		wrong["Roots: "+name] = wrongPeer{api.Peer{Life: 1, Roots: x.l}, x.e}
	}
	for name, x := range wrong {
		for who := range api.MaxClients {
			all["peer "+strconv.Itoa(who)+": "+name] = wrongHub{with(func(h *api.Hub) { h.Peers[who] = x.p }), x.e}
		}
		// The first of several is told, all of it ahead of the others.
		all["first of peers: "+name] = wrongHub{api.Hub{Peers: []api.Peer{x.p, {Life: -1}, {Seq: 1}}}, x.e}
		all["second of peers: "+name] = wrongHub{api.Hub{Peers: []api.Peer{{Life: 1}, x.p, {Seq: 1}}}, x.e}
		all["second of peers, ahead of range: "+name] = wrongHub{api.Hub{Peers: []api.Peer{{Life: 1}, x.p, {Life: 51}}}, x.e}
	}
}

func TestNew(t *testing.T) {
	h := hub.New()
	if !alike(h, empty()) || hub.Check(h) != api.OK {
		t.Errorf("%v", h)
	}
	// Each call has its own memory.
	h.Peers[0] = api.Peer{Life: 7}
	if g := hub.New(); !alike(g, empty()) {
		t.Errorf("another one is %v", g)
	}
}

func TestCheckTakes(t *testing.T) {
	for name, h := range good() {
		if e := hub.Check(h); e != api.OK {
			t.Errorf("%s: %v, want OK", name, e)
		}
	}
	if e := hub.Check(full(t)); e != api.OK {
		t.Errorf("full: %v, want OK", e)
	}
}

func TestCheckRefusesTheRest(t *testing.T) {
	for name, x := range refused() {
		if e := hub.Check(x.h); e != x.e {
			t.Errorf("%s: %v, want %v", name, e, x.e)
		}
	}
}

// TestCheckOfAllNumbers: each Version, Life and Seq, from outside to outside.
func TestCheckOfAllNumbers(t *testing.T) {
	for n := -2; n <= 70; n++ {
		for name, x := range map[string]struct {
			h    api.Hub
			good bool
		}{
			"Version": {with(func(h *api.Hub) { h.Version = n }), n >= 0 && n <= 60},
			"Life":    {peer(api.Peer{Life: n}), n >= 0 && n <= 50},
			"Seq":     {peer(api.Peer{Life: 1, Seq: n}), n >= 0 && n <= 30},
		} {
			want := api.OK
			if !x.good {
				want = api.ErrRange
			}
			if e := hub.Check(x.h); e != want {
				t.Errorf("%s %d: %v, want %v", name, n, e, want)
			}
		}
	}
}

func TestSame(t *testing.T) {
	likes := good()
	if !hub.Same(logged(), logged()) || !hub.Same(likes["new, its lists nil"], likes["new, its lists empty"]) || !hub.Same(api.Hub{}, api.Hub{Peers: []api.Peer{}}) {
		t.Errorf("like ones are not the same")
	}
	for name, change := range map[string]func(h *api.Hub){
		"a step's operation":   func(h *api.Hub) { h.H.L[0].O.Seq++ },
		"a step's stamp":       func(h *api.Hub) { h.H.L[3].O.S.Who++ },
		"a step's Did":         func(h *api.Hub) { h.H.L[3].Did = true },
		"a step's Was":         func(h *api.Hub) { h.H.L[2].Was.Name++ },
		"a step less":          func(h *api.Hub) { h.H.L = h.H.L[:3] },
		"a step more":          func(h *api.Hub) { h.H.L = append(h.H.L, api.Step{}) },
		"no step":              func(h *api.Hub) { h.H.L = nil },
		"a place":              func(h *api.Hub) { h.H.T.P[1].Parent++ },
		"a place less":         func(h *api.Hub) { h.H.T.P = h.H.T.P[:1] },
		"no place":             func(h *api.Hub) { h.H.T.P = nil },
		"Version":              func(h *api.Hub) { h.Version++ },
		"no Version":           func(h *api.Hub) { h.Version = 0 },
		"first Life":           func(h *api.Hub) { h.Peers[0].Life++ },
		"last Life":            func(h *api.Hub) { h.Peers[2].Life++ },
		"first Seq":            func(h *api.Hub) { h.Peers[0].Seq-- },
		"last Seq":             func(h *api.Hub) { h.Peers[2].Seq++ },
		"first Roots":          func(h *api.Hub) { h.Peers[0].Roots[0] = 1 },
		"first Roots, the end": func(h *api.Hub) { h.Peers[0].Roots[2] = 15 },
		"Roots less":           func(h *api.Hub) { h.Peers[0].Roots = h.Peers[0].Roots[:2] },
		"Roots more":           func(h *api.Hub) { h.Peers[1].Roots = append(h.Peers[1].Roots, 0) },
		"no Roots":             func(h *api.Hub) { h.Peers[1].Roots = nil },
		"last Roots":           func(h *api.Hub) { h.Peers[2].Roots = []int{0} },
		"a peer less":          func(h *api.Hub) { h.Peers = h.Peers[:2] },
		"a peer more":          func(h *api.Hub) { h.Peers = append(h.Peers, api.Peer{}) },
		"no peer":              func(h *api.Hub) { h.Peers = nil },
		"peers swapped":        func(h *api.Hub) { h.Peers[0], h.Peers[1] = h.Peers[1], h.Peers[0] },
	} {
		a, b := with(change), with(change)
		if hub.Same(a, logged()) || hub.Same(logged(), a) {
			t.Errorf("%s: the same, though it changed", name)
		}
		// Two that Check refuses may be the same all the same.
		if !hub.Same(a, b) {
			t.Errorf("%s: not the same, though both changed alike", name)
		}
	}
	a, b := refused(), refused()
	for name := range a {
		if !hub.Same(a[name].h, b[name].h) {
			t.Errorf("%s: not the same as its like", name)
		}
	}
}

// TestAllSayChecksErrorFirst: whatever else is wrong, and however little is asked.
func TestAllSayChecksErrorFirst(t *testing.T) {
	for name, x := range refused() {
		for _, r := range []api.Rec{lifeRec(0, 2), rootsRec(1, 2), opRec(9, 1, 4, 0, 0, 1, 3), opRec(9, 1, 4, 0, 0, 9, 9), lifeRec(3, 1), rootsRec(0, 17), {}} {
			if h, e := hub.Next(x.h, r); e != x.e || !noHub(h) {
				t.Errorf("%s: Next of %v: %v, %v, want %v alone", name, r, h, e, x.e)
			}
		}
		for _, who := range []int{0, 1, 2, -1, 3} {
			if v, e := hub.Sees(x.h, who); e != x.e || !noView(v) {
				t.Errorf("%s: Sees of %d: %v, %v, want %v alone", name, who, v, e, x.e)
			}
		}
	}
}

// checkNext holds Next against what it must make of h, or an error.
func checkNext(t *testing.T, name string, h api.Hub, r api.Rec, want api.Hub, wantE api.Errno) {
	t.Helper()
	got, e := hub.Next(h, r)
	if e != wantE || !alike(got, want) || e != api.OK && !noHub(got) {
		t.Errorf("%s: %v, %v, want %v, %v", name, got, e, want, wantE)
	}
	if e == api.OK && hub.Check(got) != api.OK {
		t.Errorf("%s: Check refuses %v", name, got)
	}
}

func checkLate(t *testing.T, name string, h api.Hub, r api.Rec, want api.Errno) {
	t.Helper()
	checkNext(t, name, h, r, api.Hub{}, want)
}

// TestNextOp: wherever in the history an operation comes, it is the next one of its client.
func TestNextOp(t *testing.T) {
	for name, x := range map[string]struct {
		o     api.Op
		steps []api.Step
		tree  []api.Place
	}{
		"last": {op(8, 1, 4, 3, 9, 1, 3),
			append(logged().H.L, api.Step{O: op(8, 1, 4, 3, 9, 1, 3), Did: true}),
			[]api.Place{at(2, 0, 7), at(3, 2, 8), at(4, 3, 9)}},
		"like time, greater client": {op(7, 1, 3, 16, 9, 1, 3),
			append(logged().H.L, api.Step{O: op(7, 1, 3, 16, 9, 1, 3), Did: true, Was: at(3, 2, 8)}),
			[]api.Place{at(2, 0, 7), at(3, 16, 9)}},
		"a later one did something after all": {op(6, 2, 3, 0, 9, 2, 1),
			[]api.Step{
				logged().H.L[0], logged().H.L[1], logged().H.L[2],
				{O: op(6, 2, 3, 0, 9, 2, 1), Did: true, Was: at(3, 2, 8)},
				{O: op(7, 0, 2, 3, 4, 1, 2), Did: true, Was: at(2, 0, 7)},
			},
			[]api.Place{at(2, 3, 4), at(3, 0, 9)}},
		"first, and elder than the client's last one": {op(1, 0, 9, 9, 0, 1, 3),
			append([]api.Step{{O: op(1, 0, 9, 9, 0, 1, 3)}}, logged().H.L...),
			[]api.Place{at(2, 0, 7), at(3, 2, 8)}},
	} {
		want := logged()
		want.H, want.Version = api.History{L: x.steps, T: api.Tree{P: x.tree}}, 11
		want.Peers[x.o.S.Who].Seq = x.o.Seq
		checkNext(t, name, logged(), api.Rec{Kind: api.ROp, O: x.o}, want, api.OK)
	}
}

// TestNextOpIsTheNextOne: of all lives and numbers there is one that is taken, or none.
func TestNextOpIsTheNextOne(t *testing.T) {
	for _, p := range []api.Peer{{}, {Life: 1}, {Life: 1, Seq: 1}, {Life: 2}, {Life: 7, Seq: 12, Roots: []int{3, 4}}, {Life: 50, Seq: 29}, {Life: 50, Seq: 30}} {
		for life := 1; life <= 50; life++ {
			for seq := 1; seq <= 30; seq++ {
				o := op(8, 1, 2, 0, 5, life, seq)
				name := "peer" + list([]int{p.Life, p.Seq}) + ", operation" + list([]int{life, seq})
				if p.Life == 0 || life != p.Life || seq != p.Seq+1 {
					checkLate(t, name, peer(p), api.Rec{Kind: api.ROp, O: o}, api.ErrLate)
					continue
				}
				want := peer(api.Peer{Life: life, Seq: seq, Roots: p.Roots})
				want.H = api.History{L: []api.Step{{O: o, Did: true}}, T: api.Tree{P: []api.Place{at(2, 0, 5)}}}
				want.Version = 1
				checkNext(t, name, peer(p), api.Rec{Kind: api.ROp, O: o}, want, api.OK)
			}
		}
	}
}

func TestNextOpIsLate(t *testing.T) {
	again := api.Rec{Kind: api.ROp, O: logged().H.L[2].O}
	for name, x := range map[string]struct {
		r api.Rec
		e api.Errno
	}{
		"the last one again":                     {again, api.ErrLate},
		"the last one's Seq, of another stamp":   {opRec(8, 1, 4, 0, 0, 1, 2), api.ErrLate},
		"the first one's Seq":                    {opRec(8, 1, 4, 0, 0, 1, 1), api.ErrLate},
		"one is left out":                        {opRec(8, 1, 4, 0, 0, 1, 4), api.ErrLate},
		"a later life":                           {opRec(8, 1, 4, 0, 0, 2, 3), api.ErrLate},
		"a later life, its first":                {opRec(8, 1, 4, 0, 0, 2, 1), api.ErrLate},
		"an elder life":                          {opRec(8, 2, 4, 0, 0, 1, 1), api.ErrLate},
		"the next one of another client":         {opRec(8, 2, 4, 0, 0, 1, 3), api.ErrLate},
		"late ahead of twice":                    {opRec(6, 1, 4, 0, 0, 1, 4), api.ErrLate},
		"late of another life, ahead of twice":   {opRec(6, 1, 4, 0, 0, 2, 3), api.ErrLate},
		"a stamp twice, its own":                 {opRec(6, 1, 4, 0, 0, 1, 3), api.ErrTwice},
		"a stamp twice, its own first one":       {opRec(5, 1, 4, 0, 0, 1, 3), api.ErrTwice},
		"a stamp twice, of one that did nothing": {opRec(7, 0, 2, 3, 4, 1, 3), api.ErrTwice},
	} {
		checkLate(t, name, logged(), x.r, x.e)
	}
	checkLate(t, "nobody ever lived", hub.New(), opRec(8, 1, 4, 0, 0, 1, 1), api.ErrLate)
	checkLate(t, "full", full(t), opRec(99, 1, 4, 0, 0, 1, 1), api.ErrMany)
	checkLate(t, "full, late", full(t), opRec(99, 1, 4, 0, 0, 1, 2), api.ErrLate)
	checkLate(t, "full, late of all numbers", full(t), opRec(99, 2, 4, 0, 0, 1, 30), api.ErrLate)
	// A new life of the one who did it all may tell a stamp again.
	reborn, e := hub.Next(full(t), lifeRec(2, 2))
	if e != api.OK {
		t.Fatalf("full, a new life: %v", e)
	}
	checkLate(t, "full, twice", reborn, opRec(1, 2, 4, 0, 0, 2, 1), api.ErrTwice)
	checkLate(t, "full, of a new life", reborn, opRec(99, 2, 4, 0, 0, 2, 1), api.ErrMany)
}

// TestNextOpCountsItsClientAlone: who has which number is told by the stamp, not by the record's Who.
func TestNextOpCountsItsClientAlone(t *testing.T) {
	h := api.Hub{Peers: []api.Peer{{Life: 1, Seq: 3}, {Life: 2, Seq: 4}, {Life: 3, Seq: 5}}}
	for who, p := range h.Peers {
		for other, q := range h.Peers {
			r := opRec(1, who, 1, 0, 0, q.Life, q.Seq+1)
			if who != other {
				checkLate(t, "another one's number", h, r, api.ErrLate)
				continue
			}
			want := api.Hub{
				H:       api.History{L: []api.Step{{O: r.O, Did: true}}, T: api.Tree{P: []api.Place{at(1, 0, 0)}}},
				Version: 1,
				Peers:   slices.Clone(h.Peers),
			}
			want.Peers[who].Seq = p.Seq + 1
			checkNext(t, "its own number", h, r, want, api.OK)
		}
	}
}

// TestNextLife: of all lives one is taken, and nothing is left of the elder one.
func TestNextLife(t *testing.T) {
	for had := range 51 {
		for life := 1; life <= 50; life++ {
			for who := range api.MaxClients {
				h := logged()
				h.Peers[who] = api.Peer{Life: had}
				if had > 0 {
					h.Peers[who] = api.Peer{Life: had, Seq: 30, Roots: []int{1, 2}}
				}
				name := "client" + list([]int{who}) + ", life" + list([]int{had}) + ", then" + list([]int{life})
				if life != had+1 {
					checkLate(t, name, h, lifeRec(who, life), api.ErrLate)
					continue
				}
				want := logged()
				want.Version, want.Peers[who] = 11, api.Peer{Life: life}
				checkNext(t, name, h, lifeRec(who, life), want, api.OK)
			}
		}
	}
}

// TestAnElderLifeIsOver: what was said in it is not accepted any more, and numbers begin at 1 again.
func TestAnElderLifeIsOver(t *testing.T) {
	h, e := hub.Next(logged(), lifeRec(1, 2))
	if e != api.OK || !likePeer(h.Peers[1], api.Peer{Life: 2}) {
		t.Fatalf("%v, %v", h, e)
	}
	if !slices.Equal(h.H.L, logged().H.L) || !slices.Equal(h.H.T.P, logged().H.T.P) {
		t.Errorf("what was accepted in the elder life is %v", h.H)
	}
	checkLate(t, "the elder life's next one", h, opRec(8, 1, 4, 0, 0, 1, 3), api.ErrLate)
	checkLate(t, "the elder life's number", h, opRec(8, 1, 4, 0, 0, 2, 3), api.ErrLate)
	checkLate(t, "the elder life again", h, lifeRec(1, 1), api.ErrLate)
	checkLate(t, "this life again", h, lifeRec(1, 2), api.ErrLate)
	checkLate(t, "two more", h, lifeRec(1, 4), api.ErrLate)
	if g, e := hub.Next(h, opRec(8, 1, 4, 0, 0, 2, 1)); e != api.OK || g.Peers[1].Seq != 1 || len(g.H.L) != 5 {
		t.Errorf("the first one of this life: %v, %v", g, e)
	}
}

func TestNextRoots(t *testing.T) {
	for _, roots := range [][]int{nil, {}, {0}, {2}, {16}, {2, 3}, {0, 1, 15, 16}} {
		for who := range api.MaxClients {
			want := logged()
			want.Version, want.Peers[who].Roots = 11, roots
			checkNext(t, "lives", logged(), rootsRec(who, roots...), want, api.OK)
			checkLate(t, "never lived", with(func(h *api.Hub) { h.Peers[who] = api.Peer{} }), rootsRec(who, roots...), api.ErrWho)
			checkLate(t, "nobody ever lived", hub.New(), rootsRec(who, roots...), api.ErrWho)
		}
	}
}

// wrongRecs are records that chapter 6's Check refuses.
func wrongRecs() []struct {
	r api.Rec
	e api.Errno
} {
	type wrong = struct {
		r api.Rec
		e api.Errno
	}
	next := op(8, 1, 4, 0, 0, 1, 3)
	all := []wrong{
		{api.Rec{}, api.ErrForm},
		{api.Rec{Kind: -1}, api.ErrForm},
		{api.Rec{Kind: 4, Who: 1, Life: 2}, api.ErrForm},
		{api.Rec{Kind: math.MaxInt, O: next}, api.ErrForm},
		{api.Rec{Kind: api.ROp}, api.ErrRange},
		{api.Rec{Kind: api.ROp, Who: 1, O: next}, api.ErrForm},
		{api.Rec{Kind: api.ROp, Life: 1, O: next}, api.ErrForm},
		{api.Rec{Kind: api.ROp, Roots: []int{1}, O: next}, api.ErrForm},
		{api.Rec{Kind: api.RLife, Who: 1, Life: 2, O: next}, api.ErrForm},
		{api.Rec{Kind: api.RLife, Who: 1, Life: 2, Roots: []int{1}}, api.ErrForm},
		{api.Rec{Kind: api.RRoots, Who: 1, Life: 1}, api.ErrForm},
		{api.Rec{Kind: api.RRoots, Who: 1, O: next}, api.ErrForm},
		{opRec(8, 3, 4, 0, 0, 1, 3), api.ErrRange},
		{opRec(8, -1, 4, 0, 0, 1, 3), api.ErrRange},
		{opRec(8, 1, 16, 0, 0, 1, 3), api.ErrRange},
		{opRec(8, 1, 4, 0, 0, 0, 3), api.ErrRange},
		{opRec(8, 1, 4, 0, 0, 1, 31), api.ErrRange},
		{opRec(8, math.MaxInt, 4, 0, 0, 1, 3), api.ErrRange},
		{lifeRec(-1, 1), api.ErrRange},
		{lifeRec(3, 1), api.ErrRange},
		{lifeRec(1, 0), api.ErrRange},
		{lifeRec(1, 51), api.ErrRange},
		{lifeRec(math.MinInt, 1), api.ErrRange},
		{rootsRec(-1), api.ErrRange},
		{rootsRec(3), api.ErrRange},
	}
	for _, x := range wrongRoots() {
		all = append(all, wrong{rootsRec(1, x.l...), x.e})
	}
	return all
}

// TestNextRefusesOtherRecords: whatever the hub, and also where it has no room for another one.
func TestNextRefusesOtherRecords(t *testing.T) {
	for _, x := range wrongRecs() {
		for name, h := range good() {
			checkLate(t, name, h, x.r, x.e)
		}
		checkLate(t, "full", full(t), x.r, x.e)
		// No wrong one is a next life, either.
		checkLate(t, "the last life", peer(api.Peer{Life: 50}), x.r, x.e)
	}
}

// TestNextAtTheLastVersion: one more than it may have is refused, and that ahead of whatever else is wrong with it.
func TestNextAtTheLastVersion(t *testing.T) {
	takes := []api.Rec{lifeRec(0, 2), rootsRec(1, 5), opRec(8, 1, 4, 3, 9, 1, 3)}
	other := []api.Rec{lifeRec(0, 1), lifeRec(0, 3), opRec(8, 1, 4, 0, 0, 1, 2), opRec(6, 1, 4, 0, 0, 1, 3)}
	last := with(func(h *api.Hub) { h.Version = 60 })
	for _, r := range append(other, takes...) {
		checkLate(t, "no room", last, r, api.ErrMany)
	}
	unborn := last
	unborn.Peers = make([]api.Peer, 3)
	checkLate(t, "no room, and never lived", unborn, rootsRec(1, 5), api.ErrMany)
	for _, version := range []int{0, 1, 58, 59} {
		for _, r := range takes {
			h, e := hub.Next(with(func(h *api.Hub) { h.Version = version }), r)
			if e != api.OK || h.Version != version+1 {
				t.Errorf("%v at %d: %v, %v", r, version, h.Version, e)
			}
		}
	}
}

// TestReplay: each beginning of the log, step by step, and what all of it makes.
func TestReplay(t *testing.T) {
	h := hub.New()
	for n := range len(log()) + 1 {
		got, e := hub.Replay(log()[:n])
		if e != api.OK || !alike(got, h) || got.Version != n || hub.Check(got) != api.OK {
			t.Errorf("%d records: %v, %v, want %v", n, got, e, h)
		}
		if n < len(log()) {
			if h, e = hub.Next(h, log()[n]); e != api.OK {
				t.Fatalf("record %d: %v", n, e)
			}
		}
	}
	if !alike(h, logged()) {
		t.Errorf("%v, want %v", h, logged())
	}
	for _, l := range [][]api.Rec{nil, {}} {
		if h, e := hub.Replay(l); e != api.OK || !alike(h, empty()) {
			t.Errorf("no record: %v, %v", h, e)
		}
	}
}

// many are n records that may stand one behind the other, in each number that a log may have, and more.
func many(n int) []api.Rec {
	var l []api.Rec
	for k := range n {
		l = append(l, lifeRec(k%3, k/3+1))
	}
	return l
}

func TestReplayOfAllCounts(t *testing.T) {
	for n := range 66 {
		h, e := hub.Replay(many(n))
		if n > 60 {
			if e != api.ErrMany || !noHub(h) {
				t.Errorf("%d records: %v, %v, want ErrMany alone", n, h, e)
			}
			continue
		}
		want := api.Hub{Version: n, Peers: []api.Peer{{Life: (n + 2) / 3}, {Life: (n + 1) / 3}, {Life: n / 3}}}
		if e != api.OK || !alike(h, want) {
			t.Errorf("%d records: %v, %v, want %v", n, h, e, want)
		}
	}
}

func TestReplayRefuses(t *testing.T) {
	late := lifeRec(0, 50)
	for name, x := range map[string]struct {
		l []api.Rec
		e api.Errno
	}{
		"many ahead of the first":       {append([]api.Rec{{}}, many(60)...), api.ErrMany},
		"many ahead of the last":        {append(many(60), api.Rec{}), api.ErrMany},
		"many that are none":            {make([]api.Rec, 61), api.ErrMany},
		"very many":                     {make([]api.Rec, 100000), api.ErrMany},
		"as many as may be, none":       {make([]api.Rec, 60), api.ErrForm},
		"the first of two: late":        {[]api.Rec{late, {}}, api.ErrLate},
		"the first of two: none":        {[]api.Rec{{}, late}, api.ErrForm},
		"roots ahead of a life":         {[]api.Rec{rootsRec(1, 2), lifeRec(1, 1)}, api.ErrWho},
		"an operation ahead of a life":  {[]api.Rec{opRec(1, 1, 2, 0, 0, 1, 1), lifeRec(1, 1)}, api.ErrLate},
		"all of it twice":               {append(log(), log()...), api.ErrLate},
		"a stamp twice":                 {append(log(), opRec(6, 1, 4, 0, 0, 1, 3)), api.ErrTwice},
		"a life of another one's":       {append(log(), lifeRec(2, 2)), api.ErrLate},
		"a record less: an operation":   {slices.Delete(log(), 1, 2), api.ErrLate},
		"a record less: a life":         {slices.Delete(log(), 4, 5), api.ErrLate},
		"swapped: an operation's order": {append(log()[:1], log()[2], log()[1]), api.ErrLate},
	} {
		if h, e := hub.Replay(x.l); e != x.e || !noHub(h) {
			t.Errorf("%s: %v, %v, want %v alone", name, h, e, x.e)
		}
	}
	// Wherever it stands, one that fails leaves nothing of the others.
	for k := range 60 {
		for _, x := range append(wrongRecs(), struct {
			r api.Rec
			e api.Errno
		}{late, api.ErrLate}) {
			l := many(60)
			l[k] = x.r
			if h, e := hub.Replay(l); e != x.e || !noHub(h) {
				t.Errorf("number %d is %v: %v, %v, want %v alone", k, x.r, h, e, x.e)
			}
		}
	}
}

// TestReplayFillsTheHistory: a log has room for all operations of a history, and then for none.
func TestReplayFillsTheHistory(t *testing.T) {
	l := []api.Rec{lifeRec(2, 1), lifeRec(1, 1)}
	for _, s := range full(t).H.L {
		l = append(l, api.Rec{Kind: api.ROp, O: s.O})
	}
	if h, e := hub.Replay(l); e != api.OK || !alike(h, full(t)) {
		t.Errorf("%v, %v", h, e)
	}
	if h, e := hub.Replay(append(l, opRec(99, 1, 4, 0, 0, 1, 1))); e != api.ErrMany || !noHub(h) {
		t.Errorf("one more: %v, %v, want ErrMany alone", h, e)
	}
}

func TestSees(t *testing.T) {
	one, both := []api.Place{at(2, 0, 7)}, []api.Place{at(2, 0, 7), at(3, 2, 8)}
	for name, x := range map[string]struct {
		roots []int
		want  api.View
	}{
		"no roots":                 {nil, api.View{}},
		"empty roots":              {[]int{}, api.View{}},
		"all":                      {[]int{0}, api.View{Known: both}},
		"the bin":                  {[]int{16}, api.View{}},
		"a node and its kid":       {[]int{2}, api.View{Known: both}},
		"the kid, and the way up":  {[]int{3}, api.View{Known: both[1:], Way: one}},
		"one that stands nowhere":  {[]int{9}, api.View{}},
		"some that stand nowhere":  {[]int{1, 4, 15}, api.View{}},
		"one that stands, one not": {[]int{3, 9}, api.View{Known: both[1:], Way: one}},
		"all that may be":          {[]int{0, 2, 3, 16}, api.View{Known: both}},
	} {
		x.want.Roots = x.roots
		for who := range api.MaxClients {
			h := logged()
			h.Peers[who] = api.Peer{Life: 3, Roots: x.roots}
			if v, e := hub.Sees(h, who); e != api.OK || !likeView(v, x.want) {
				t.Errorf("%s: %d sees %v, %v, want %v", name, who, v, e, x.want)
			}
		}
	}
}

func TestSeesOfEachClient(t *testing.T) {
	both := []api.Place{at(2, 0, 7), at(3, 2, 8)}
	for who, want := range []api.View{{Roots: []int{0, 3, 16}, Known: both}, {Roots: []int{2}, Known: both}, {}} {
		if v, e := hub.Sees(logged(), who); e != api.OK || !likeView(v, want) {
			t.Errorf("%d sees %v, %v, want %v", who, v, e, want)
		}
		if v, e := hub.Sees(hub.New(), who); e != api.OK || !likeView(v, api.View{}) {
			t.Errorf("of a new hub %d sees %v, %v", who, v, e)
		}
	}
	for _, who := range []int{-1, 3, 4, math.MinInt, math.MaxInt} {
		for name, h := range good() {
			if v, e := hub.Sees(h, who); e != api.ErrWho || !noView(v) {
				t.Errorf("%s: %d sees %v, %v, want ErrWho alone", name, who, v, e)
			}
		}
	}
}

// model is a hub as lists that only grow: what was accepted, and of each client what it has now.
type model struct {
	ops   []api.Op
	n     int
	life  [3]int
	seq   [3]int
	roots [3][]int
}

// take answers the model behind r, or an error; r is one that chapter 6's Check takes.
func (m model) take(r api.Rec) (model, api.Errno) {
	m.n++
	switch r.Kind {
	case api.ROp:
		who := r.O.S.Who
		if r.O.Life != m.life[who] || r.O.Seq != m.seq[who]+1 {
			return model{}, api.ErrLate
		}
		for _, o := range m.ops {
			if o.S == r.O.S {
				return model{}, api.ErrTwice
			}
		}
		m.ops, m.seq[who] = append(slices.Clone(m.ops), r.O), r.O.Seq
	case api.RLife:
		if r.Life != m.life[r.Who]+1 {
			return model{}, api.ErrLate
		}
		m.life[r.Who], m.seq[r.Who], m.roots[r.Who] = r.Life, 0, nil
	case api.RRoots:
		if m.life[r.Who] == 0 {
			return model{}, api.ErrWho
		}
		m.roots[r.Who] = r.Roots
	}
	return m, api.OK
}

func (m model) hub(t *testing.T) api.Hub {
	t.Helper()
	h, e := history.Fold(m.ops)
	if e != api.OK {
		t.Fatalf("Fold of %v: %v", m.ops, e)
	}
	made := api.Hub{H: h, Version: m.n}
	for who := range 3 {
		made.Peers = append(made.Peers, api.Peer{Life: m.life[who], Seq: m.seq[who], Roots: m.roots[who]})
	}
	return made
}

// TestAgainstAModel: all rows of records that may be made of these, until one fails, or there are six.
func TestAgainstAModel(t *testing.T) {
	alphabet := []api.Rec{
		lifeRec(0, 1), lifeRec(0, 2), lifeRec(2, 1),
		opRec(1, 0, 1, 2, 0, 1, 1), opRec(3, 0, 2, 1, 0, 1, 2), opRec(1, 0, 2, 0, 5, 2, 1),
		opRec(2, 2, 1, 0, 0, 1, 1),
		rootsRec(0, 1), rootsRec(2),
	}
	rows := 0
	var walk func(m model, h api.Hub, row []api.Rec)
	walk = func(m model, h api.Hub, row []api.Rec) {
		rows++
		if got, e := hub.Replay(row); e != api.OK || !alike(got, h) {
			t.Fatalf("Replay of %v: %v, %v, want %v", row, got, e, h)
		}
		if len(row) == 6 {
			return
		}
		for _, r := range alphabet {
			next, wantE := m.take(r)
			got, e := hub.Next(h, r)
			if e != wantE {
				t.Fatalf("%v, then %v: %v, want %v", row, r, e, wantE)
			}
			if e != api.OK {
				if _, e := hub.Replay(append(slices.Clone(row), r)); e != wantE || !noHub(got) {
					t.Fatalf("Replay of %v and %v: %v, want %v", row, r, e, wantE)
				}
				continue
			}
			if want := next.hub(t); !alike(got, want) {
				t.Fatalf("%v, then %v: %v, want %v", row, r, got, want)
			}
			walk(next, got, append(slices.Clone(row), r))
		}
	}
	walk(model{}, hub.New(), nil)
	if rows < 1000 {
		t.Errorf("only %d rows were walked", rows)
	}
}

// roomy answers a list of l's values, with other ones in the room behind it, and all of that.
func roomy[T any](l []T, other T) ([]T, []T) {
	all := append(slices.Clone(l), other, other, other)
	return all[:len(l)], all
}

// memory of a hub that is handed in, the room behind its lists and all.
type memory struct {
	steps  []api.Step
	places []api.Place
	peers  []api.Peer
	roots  [][]int
}

func laid(h api.Hub) (api.Hub, memory) {
	var m memory
	h.H.L, m.steps = roomy(h.H.L, api.Step{O: op(99, 9, 9, 9, 9, 9, 9)})
	h.H.T.P, m.places = roomy(h.H.T.P, at(99, 99, 99))
	h.Peers, m.peers = roomy(h.Peers, api.Peer{Life: 99})
	for k := range h.Peers {
		var all []int
		h.Peers[k].Roots, all = roomy(h.Peers[k].Roots, 99)
		m.roots = append(m.roots, all)
	}
	return h, m
}

func (m memory) is(n memory) bool {
	return slices.Equal(m.steps, n.steps) && slices.Equal(m.places, n.places) &&
		slices.EqualFunc(m.peers, n.peers, likePeer) && slices.EqualFunc(m.roots, n.roots, slices.Equal[[]int])
}

// fill writes over a list, and all room behind it.
func fill[T any](l []T, x T) {
	l = l[:cap(l)]
	for k := range l {
		l[k] = x
	}
}

// spoil writes over all memory of an answer, one list at a time, and asks that the others stay as they were.
func spoil(t *testing.T, h api.Hub) {
	t.Helper()
	steps, places := slices.Clone(h.H.L), slices.Clone(h.H.T.P)
	var roots [][]int
	for _, p := range h.Peers {
		roots = append(roots, slices.Clone(p.Roots))
	}
	for k, p := range h.Peers {
		fill(p.Roots, 1000+k)
		for j := k + 1; j < len(h.Peers); j++ {
			if !slices.Equal(h.Peers[j].Roots, roots[j]) {
				t.Errorf("roots %d and %d of an answer share memory", k, j)
			}
		}
	}
	fill(h.Peers, api.Peer{Life: 1000})
	if !slices.Equal(h.H.L, steps) || !slices.Equal(h.H.T.P, places) {
		t.Errorf("peers and history of an answer share memory")
	}
	fill(h.H.L, api.Step{O: api.Op{Node: 1000}})
	fill(h.H.T.P, at(1000, 1000, 1000))
}

// TestOnlyReads: neither a list that is handed in nor the room behind it changes, and what is answered is not of that memory.
func TestOnlyReads(t *testing.T) {
	recs := append(log(), lifeRec(0, 2), rootsRec(1, 0, 5), rootsRec(2), opRec(1, 1, 3, 4, 5, 1, 3), opRec(9, 2, 2, 3, 1, 2, 1),
		opRec(6, 1, 4, 0, 0, 1, 3), rootsRec(1, 5, 5), api.Rec{})
	hubs := good()
	hubs["full"] = full(t)
	for name, x := range refused() {
		hubs["refused: "+name] = x.h
	}
	for name, h := range hubs {
		in, is := laid(h)
		_, was := laid(h)
		for _, r := range recs {
			roots, all := roomy(r.Roots, 99)
			before := slices.Clone(all)
			handed := r
			handed.Roots = roots
			got, _ := hub.Next(in, handed)
			spoil(t, got)
			if !is.is(was) || !slices.Equal(all, before) {
				t.Fatalf("%s: Next of %v left %v, %v", name, r, is, all)
			}
		}
		for who := -1; who <= 3; who++ {
			v, _ := hub.Sees(in, who)
			way := slices.Clone(v.Way)
			fill(v.Roots, 1000)
			fill(v.Known, at(1000, 1000, 1000))
			if !slices.Equal(v.Way, way) {
				t.Fatalf("%s: Sees of %d: Known and Way share memory", name, who)
			}
			fill(v.Way, at(1000, 1000, 1000))
			if !is.is(was) {
				t.Fatalf("%s: Sees of %d left %v", name, who, is)
			}
		}
		hub.Check(in)
		hub.Same(in, in)
		hub.Same(in, h)
		if !is.is(was) {
			t.Fatalf("%s: Check or Same left %v", name, is)
		}
	}
}

// TestReplayOnlyReads: the roots of its records are not kept, either, nor shared where two records have the same ones.
func TestReplayOnlyReads(t *testing.T) {
	shared, all := roomy([]int{1, 2}, 99)
	l, room := roomy([]api.Rec{lifeRec(0, 1), lifeRec(1, 1), lifeRec(2, 1), rootsRec(0, shared...), rootsRec(1, shared...), rootsRec(2, shared...), opRec(1, 0, 1, 0, 0, 1, 1)}, lifeRec(9, 9))
	was, before := slices.Clone(room), slices.Clone(all)
	for n := range len(l) + 1 {
		h, e := hub.Replay(l[:n])
		if e != api.OK {
			t.Fatalf("%d records: %v", n, e)
		}
		spoil(t, h)
		alikeRec := func(a, b api.Rec) bool {
			return a.Kind == b.Kind && a.Who == b.Who && a.Life == b.Life && a.O == b.O && slices.Equal(a.Roots, b.Roots)
		}
		if !slices.EqualFunc(room, was, alikeRec) || !slices.Equal(all, before) {
			t.Fatalf("%d records: left %v, %v", n, room, all)
		}
	}
}

// TestSharedRootsArePulledApart: peers that are handed in with one list of roots have three in the answer.
func TestSharedRootsArePulledApart(t *testing.T) {
	shared := []int{1, 2}
	h := api.Hub{Peers: []api.Peer{{Life: 1, Roots: shared}, {Life: 1, Roots: shared}, {Life: 1, Roots: shared}}}
	for _, r := range []api.Rec{lifeRec(0, 2), rootsRec(0, shared...), opRec(1, 0, 1, 0, 0, 1, 1)} {
		got, e := hub.Next(h, r)
		if e != api.OK {
			t.Fatalf("%v: %v", r, e)
		}
		spoil(t, got)
		if !slices.Equal(shared, []int{1, 2}) {
			t.Fatalf("%v left %v", r, shared)
		}
	}
}

// TestAnswersAgain: what is answered hangs on what is handed in alone.
func TestAnswersAgain(t *testing.T) {
	for name, h := range good() {
		for _, r := range log() {
			a, e := hub.Next(h, r)
			b, f := hub.Next(h, r)
			if e != f || !alike(a, b) {
				t.Errorf("%s: Next of %v: %v, %v, then %v, %v", name, r, a, e, b, f)
			}
		}
		for who := -1; who <= 3; who++ {
			v, e := hub.Sees(h, who)
			w, f := hub.Sees(h, who)
			if e != f || !likeView(v, w) {
				t.Errorf("%s: Sees of %d: %v, %v, then %v, %v", name, who, v, e, w, f)
			}
		}
	}
}
