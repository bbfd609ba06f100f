package view_test

import (
	"fmt"
	"math"
	"slices"
	"testing"

	"orangery/api"
	"orangery/view"
)

func at(node, parent, name int) api.Place {
	return api.Place{Node: node, Parent: parent, Name: name}
}

// places are good ones of a family; those that are asked for, by node.
func places(nodes ...int) []api.Place {
	var l []api.Place
	for _, p := range family().P {
		if slices.Contains(nodes, p.Node) {
			l = append(l, p)
		}
	}
	return l
}

// family: 2 and 3 below 1, 4 and 7 below 2, 8 below 7, 1 below the root; 6 below 5, below the bin; 10 below 9, below 12, which stands nowhere.
func family() api.Tree {
	return api.Tree{P: []api.Place{at(1, 0, 5), at(2, 1, 7), at(3, 1, 6), at(4, 2, 0), at(5, 16, 1), at(6, 5, 99), at(7, 2, 0), at(8, 7, 3), at(9, 12, 3), at(10, 9, 4)}}
}

// chain of all nodes, each below the next one, the last one below last.
func chain(last int) api.Tree {
	var t api.Tree
	for n := 1; n < api.MaxNode-1; n++ {
		t.P = append(t.P, at(n, n+1, n))
	}
	t.P = append(t.P, at(api.MaxNode-1, last, 0))
	return t
}

// alike holds two views against each other without the package's help.
func alike(a, b api.View) bool {
	return slices.Equal(a.Roots, b.Roots) && slices.Equal(a.Known, b.Known) && slices.Equal(a.Way, b.Way)
}

func nothing(v api.View) bool {
	return len(v.Roots) == 0 && len(v.Known) == 0 && len(v.Way) == 0
}

func of(t *testing.T, x api.Tree, roots ...int) api.View {
	t.Helper()
	v, e := view.Of(x, roots)
	if e != api.OK {
		t.Fatalf("Of %v and %v: %v", x.P, roots, e)
	}
	return v
}

// subsets of l with at most as many as there may be of roots, each in l's order.
func subsets(l []int) [][]int {
	all := [][]int{nil}
	for _, n := range l {
		for _, s := range slices.Clone(all) {
			if len(s) < api.MaxRoots {
				all = append(all, append(slices.Clone(s), n))
			}
		}
	}
	return all
}

type wrongRoots struct {
	l []int
	e api.Errno
}

func refusedRoots() map[string]wrongRoots {
	return map[string]wrongRoots{
		"one more than there may be": {[]int{0, 1, 2, 3, 4}, api.ErrMany},
		"very many":                  {make([]int, 100000), api.ErrMany},
		"many ahead of who":          {[]int{-1, 17, 2, 3, 4}, api.ErrMany},
		"many ahead of twice":        {[]int{5, 5, 5, 5, 5}, api.ErrMany},
		"below the root":             {[]int{-1}, api.ErrWho},
		"above the bin":              {[]int{17}, api.ErrWho},
		"least":                      {[]int{math.MinInt}, api.ErrWho},
		"greatest":                   {[]int{math.MaxInt}, api.ErrWho},
		"the last one of many":       {[]int{1, 2, 3, 17}, api.ErrWho},
		"who, though it falls, too":  {[]int{3, -1}, api.ErrWho},
		"twice":                      {[]int{2, 2}, api.ErrTwice},
		"twice the root":             {[]int{0, 0}, api.ErrTwice},
		"twice the bin":              {[]int{16, 16}, api.ErrTwice},
		"falling":                    {[]int{3, 2}, api.ErrTwice},
		"falling to the root":        {[]int{1, 0}, api.ErrTwice},
		"above the first alone":      {[]int{1, 7, 5}, api.ErrTwice},
		"falling last":               {[]int{1, 2, 3, 3}, api.ErrTwice},
		"first one: who":             {[]int{17, 2, 2}, api.ErrWho},
		"second one: twice":          {[]int{2, 2, 17}, api.ErrTwice},
	}
}

type wrongTree struct {
	l []api.Place
	e api.Errno
}

func refusedTrees() map[string]wrongTree {
	return map[string]wrongTree{
		"the root's place":     {[]api.Place{at(0, 1, 1)}, api.ErrRange},
		"the bin's place":      {[]api.Place{at(16, 1, 1)}, api.ErrRange},
		"parent below 0":       {[]api.Place{at(1, -1, 0)}, api.ErrRange},
		"parent above the bin": {[]api.Place{at(1, 17, 0)}, api.ErrRange},
		"name below 0":         {[]api.Place{at(1, 0, -1)}, api.ErrRange},
		"name above the last":  {[]api.Place{at(1, 0, 100)}, api.ErrRange},
		"far out":              {[]api.Place{at(math.MinInt, math.MaxInt, math.MinInt)}, api.ErrRange},
		"very many":            {make([]api.Place, 100000), api.ErrRange},
		"twice":                {[]api.Place{at(1, 0, 0), at(1, 0, 0)}, api.ErrTwice},
		"falling":              {[]api.Place{at(2, 0, 0), at(1, 0, 0)}, api.ErrTwice},
		"below itself":         {[]api.Place{at(1, 1, 0)}, api.ErrForm},
		"a ring of all":        {chain(1).P, api.ErrForm},
	}
}

func TestRootsTakes(t *testing.T) {
	for _, l := range [][]int{nil, {}, {0}, {16}, {0, 16}, {7}, {0, 1, 2, 3}, {13, 14, 15, 16}, {0, 5, 9, 16}} {
		if e := view.Roots(l); e != api.OK {
			t.Errorf("%v: %v, want OK", l, e)
		}
	}
}

func TestRootsRefusesTheRest(t *testing.T) {
	for name, x := range refusedRoots() {
		if e := view.Roots(x.l); e != x.e {
			t.Errorf("%s: %v, want %v", name, e, x.e)
		}
	}
}

func TestOf(t *testing.T) {
	for name, x := range map[string]struct {
		t          api.Tree
		roots      []int
		known, way []api.Place
	}{
		"below one, and the way up":        {family(), []int{2}, places(2, 4, 7, 8), places(1)},
		"a long way":                       {family(), []int{8}, places(8), places(1, 2, 7)},
		"no way":                           {family(), []int{1}, places(1, 2, 3, 4, 7, 8), nil},
		"nil roots":                        {family(), nil, nil, nil},
		"no roots":                         {family(), []int{}, nil, nil},
		"the root":                         {family(), []int{0}, places(1, 2, 3, 4, 7, 8), nil},
		"the bin":                          {family(), []int{16}, places(5, 6), nil},
		"the root and the bin":             {family(), []int{0, 16}, places(1, 2, 3, 4, 5, 6, 7, 8), nil},
		"all, and a parent without place":  {family(), []int{0, 12, 16}, family().P, nil},
		"below the bin":                    {family(), []int{6}, places(6), places(5)},
		"stands nowhere, none below":       {family(), []int{13}, nil, nil},
		"stands nowhere, some below":       {family(), []int{12}, places(9, 10), nil},
		"the way ends at no place":         {family(), []int{10}, places(10), places(9)},
		"nowhere beside somewhere":         {family(), []int{3, 13}, places(3), places(1)},
		"root below root":                  {family(), []int{1, 7}, places(1, 2, 3, 4, 7, 8), nil},
		"root far below root, and a way":   {family(), []int{2, 8}, places(2, 4, 7, 8), places(1)},
		"greater root above lesser one":    {family(), []int{4, 7, 8}, places(4, 7, 8), places(1, 2)},
		"root below the root":              {family(), []int{0, 2}, places(1, 2, 3, 4, 7, 8), nil},
		"root below the bin":               {family(), []int{5, 16}, places(5, 6), nil},
		"two ways that meet":               {family(), []int{3, 8}, places(3, 8), places(1, 2, 7)},
		"two ways that do not":             {family(), []int{6, 10}, places(6, 10), places(5, 9)},
		"as many as there may be":          {family(), []int{3, 4, 6, 10}, places(3, 4, 6, 10), places(1, 2, 5, 9)},
		"as many, and none of them stands": {family(), []int{11, 13, 14, 15}, nil, nil},
		"of nothing":                       {api.Tree{}, []int{0, 3, 16}, nil, nil},
		"of an empty list":                 {api.Tree{P: []api.Place{}}, []int{3}, nil, nil},
		"foot of a chain":                  {chain(0), []int{1}, chain(0).P[:1], chain(0).P[1:]},
		"head of a chain":                  {chain(16), []int{15}, chain(16).P, nil},
		"midst of a chain":                 {chain(16), []int{8, 9}, chain(16).P[:9], chain(16).P[9:]},
		"the wrong end of a chain":         {chain(16), []int{0}, nil, nil},
		"parent above its kid by number":   {api.Tree{P: []api.Place{at(2, 9, 1), at(5, 2, 1), at(9, 0, 1)}}, []int{2}, []api.Place{at(2, 9, 1), at(5, 2, 1)}, []api.Place{at(9, 0, 1)}},
	} {
		want := api.View{Roots: x.roots, Known: x.known, Way: x.way}
		if v, e := view.Of(x.t, x.roots); e != api.OK || !alike(v, want) {
			t.Errorf("%s: %v, %v, want %v", name, v, e, want)
		}
	}
}

func TestOfRefuses(t *testing.T) {
	refused := func(name string, x api.Tree, roots []int, want api.Errno) {
		t.Helper()
		if v, e := view.Of(x, roots); e != want || !nothing(v) {
			t.Errorf("%s: %v, %v, want %v alone", name, v, e, want)
		}
	}
	for name, r := range refusedRoots() {
		refused(name, family(), r.l, r.e)
		refused(name+", of nothing", api.Tree{}, r.l, r.e)
	}
	for name, x := range refusedTrees() {
		refused(name, api.Tree{P: x.l}, nil, x.e)
		refused(name, api.Tree{P: x.l}, []int{0, 1}, x.e)
		for _, r := range refusedRoots() {
			refused(name+", ahead of roots", api.Tree{P: x.l}, r.l, x.e)
		}
	}
}

func TestCheckTakesWhatOfMakes(t *testing.T) {
	for _, roots := range [][]int{nil, {}, {0}, {16}, {0, 16}, {2}, {8}, {12}, {10}, {13}, {1, 7}, {3, 4, 6, 10}, {11, 13, 14, 15}} {
		for _, x := range []api.Tree{{}, family(), chain(0), chain(16)} {
			if v := of(t, x, roots...); view.Check(v) != api.OK {
				t.Errorf("%v: %v, want OK", v, view.Check(v))
			}
		}
	}
	if e := view.Check(api.View{Roots: []int{}, Known: []api.Place{}, Way: []api.Place{}}); e != api.OK {
		t.Errorf("empty lists: %v, want OK", e)
	}
}

// TestCheckRefusesForm: each part is a tree, but they are not what they make by these roots, of which 7 is below 2, below 1.
func TestCheckRefusesForm(t *testing.T) {
	for name, wrong := range map[string]func(v *api.View){
		"a hole in Known":               func(v *api.View) { v.Known = places(4, 7, 8) },
		"a hole deep in Known":          func(v *api.View) { v.Roots, v.Known = []int{2}, places(2, 4, 8) },
		"a hole in Way":                 func(v *api.View) { *v = api.View{Roots: []int{8}, Known: places(8), Way: places(1, 7)} },
		"Known in Way":                  func(v *api.View) { v.Known, v.Way = nil, places(1, 2, 4, 7, 8) },
		"one of Known in Way":           func(v *api.View) { v.Known, v.Way = places(2, 4, 7), places(1, 8) },
		"Way in Known":                  func(v *api.View) { v.Known, v.Way = places(1, 2, 4, 7, 8), nil },
		"the parts for each other":      func(v *api.View) { v.Known, v.Way = v.Way, v.Known },
		"one beside the roots in Known": func(v *api.View) { v.Known = places(2, 3, 4, 7, 8) },
		"one beside the roots in Way":   func(v *api.View) { v.Way = places(1, 3) },
		"one below the bin in Known":    func(v *api.View) { v.Known = places(2, 4, 5, 7, 8) },
		"one below the bin in Way":      func(v *api.View) { v.Way = places(1, 5) },
		"in both, alike":                func(v *api.View) { v.Way = places(1, 2) },
		"in both, alike, of the way":    func(v *api.View) { v.Known = places(1, 2, 4, 7, 8) },
		"in both, unlike":               func(v *api.View) { v.Way = []api.Place{at(1, 0, 5), at(8, 0, 3)} },
		"in both, a ring by Way":        func(v *api.View) { v.Way = []api.Place{at(1, 0, 5), at(2, 8, 7)} },
		"in both, a ring but for Way":   func(v *api.View) { v.Known[0].Parent = 9; v.Way = append(places(1, 2), at(9, 2, 0)) },
		"a ring through both":           func(v *api.View) { v.Way = []api.Place{at(1, 8, 5)} },
		"the way leads elsewhere":       func(v *api.View) { v.Known[0].Parent = 3 },
		"no roots":                      func(v *api.View) { v.Roots = nil },
		"another root":                  func(v *api.View) { v.Roots = []int{3} },
		"a root less":                   func(v *api.View) { v.Roots = []int{7} },
		"a root of the way":             func(v *api.View) { v.Roots = []int{1, 2, 7} },
		"the root, too":                 func(v *api.View) { v.Roots = []int{0, 2, 7} },
	} {
		v := of(t, family(), 2, 7)
		wrong(&v)
		if e := view.Check(v); e != api.ErrForm {
			t.Errorf("%s: %v: %v, want ErrForm", name, v, e)
		}
	}
}

// TestCheckTakesOtherViews: what looks changed, but is what its places and roots make.
func TestCheckTakesOtherViews(t *testing.T) {
	for name, change := range map[string]func(v *api.View){
		"a leaf less":              func(v *api.View) { v.Known = places(2, 4, 7) },
		"another name":             func(v *api.View) { v.Known[0].Name = 50 },
		"the way in the bin":       func(v *api.View) { v.Way[0].Parent = 16 },
		"the way leads elsewhere":  func(v *api.View) { v.Known[0].Parent, v.Way = 9, nil },
		"the way ends sooner":      func(v *api.View) { v.Way = nil },
		"a root stands nowhere":    func(v *api.View) { v.Known = places(2, 4, 8) },
		"a root that is nowhere":   func(v *api.View) { v.Roots = []int{2, 7, 13} },
		"a root less, known still": func(v *api.View) { v.Roots = []int{2} },
		"nothing of it":            func(v *api.View) { v.Known, v.Way = nil, nil },
	} {
		v := of(t, family(), 2, 7)
		change(&v)
		if e := view.Check(v); e != api.OK {
			t.Errorf("%s: %v: %v, want OK", name, v, e)
		}
	}
}

// TestCheckTellsTheFirst: roots, then Known, then Way, then the form.
func TestCheckTellsTheFirst(t *testing.T) {
	refused := func(name string, v api.View, want api.Errno) {
		t.Helper()
		if e := view.Check(v); e != want {
			t.Errorf("%s: %v: %v, want %v", name, v, e, want)
		}
	}
	for name, x := range refusedTrees() {
		refused(name+": Known", api.View{Roots: []int{0}, Known: x.l}, x.e)
		refused(name+": Way", api.View{Roots: []int{0}, Known: places(1), Way: x.l}, x.e)
		refused(name+": Known ahead of form", api.View{Known: x.l, Way: places(1)}, x.e)
		refused(name+": Way ahead of form", api.View{Known: places(4), Way: x.l}, x.e)
		for second, y := range refusedTrees() {
			refused(name+" ahead of "+second, api.View{Roots: []int{0}, Known: x.l, Way: y.l}, x.e)
		}
	}
	for name, r := range refusedRoots() {
		refused(name, api.View{Roots: r.l}, r.e)
		refused(name+": ahead of form", api.View{Roots: r.l, Known: places(4), Way: places(4)}, r.e)
		for _, x := range refusedTrees() {
			refused(name+": ahead of Known", api.View{Roots: r.l, Known: x.l}, r.e)
			refused(name+": ahead of Way", api.View{Roots: r.l, Way: x.l}, r.e)
		}
	}
}

func TestSame(t *testing.T) {
	good := of(t, family(), 2, 8)
	if !view.Same(good, of(t, family(), 2, 8)) || !view.Same(api.View{}, api.View{Roots: []int{}, Known: []api.Place{}, Way: []api.Place{}}) {
		t.Errorf("like ones are not the same")
	}
	for name, change := range map[string]func(v *api.View){
		"first root":      func(v *api.View) { v.Roots[0] = 1 },
		"last root":       func(v *api.View) { v.Roots[1] = -900 },
		"order of roots":  func(v *api.View) { slices.Reverse(v.Roots) },
		"a root more":     func(v *api.View) { v.Roots = append(v.Roots, 0) },
		"a root less":     func(v *api.View) { v.Roots = v.Roots[:1] },
		"no roots":        func(v *api.View) { v.Roots = nil },
		"Known: node":     func(v *api.View) { v.Known[0].Node = 99 },
		"Known: parent":   func(v *api.View) { v.Known[3].Parent = math.MinInt },
		"Known: name":     func(v *api.View) { v.Known[1].Name++ },
		"Known: order":    func(v *api.View) { slices.Reverse(v.Known) },
		"Known: one more": func(v *api.View) { v.Known = append(v.Known, api.Place{}) },
		"Known: one less": func(v *api.View) { v.Known = v.Known[:3] },
		"Known: none":     func(v *api.View) { v.Known = nil },
		"Way: node":       func(v *api.View) { v.Way[0].Node = 0 },
		"Way: parent":     func(v *api.View) { v.Way[0].Parent = 77 },
		"Way: name":       func(v *api.View) { v.Way[0].Name = -1 },
		"Way: one more":   func(v *api.View) { v.Way = append(v.Way, v.Way[0]) },
		"Way: none":       func(v *api.View) { v.Way = nil },
		"from Way over":   func(v *api.View) { v.Known, v.Way = append(v.Known, v.Way...), nil },
		"for each other":  func(v *api.View) { v.Known, v.Way = v.Way, v.Known },
	} {
		a, b := of(t, family(), 2, 8), of(t, family(), 2, 8)
		change(&a)
		if view.Same(a, good) || view.Same(good, a) {
			t.Errorf("%s: the same, though it changed", name)
		}
		// Two that are no views may be the same all the same.
		change(&b)
		if !view.Same(a, b) {
			t.Errorf("%s: not the same, though both changed alike", name)
		}
	}
}

// TestOfAgainstATable holds Of, for every way in which three nodes may stand and all roots of some, against a table of who is below whom;
// and a view of the places of each view is the same.
func TestOfAgainstATable(t *testing.T) {
	parents := []int{-1, 0, 1, 2, 3, 5, 16} // -1: it stands nowhere
	for k := range 7 * 7 * 7 {
		var x api.Tree
		var below [api.MaxNode + 1][api.MaxNode + 1]bool
		for n, rest := 1, k; n <= 3; n, rest = n+1, rest/7 {
			if p := parents[rest%7]; p >= 0 {
				x.P = append(x.P, at(n, p, n))
				below[n][p] = true
			}
		}
		for m := range below {
			for a := range below {
				for b := range below {
					below[a][b] = below[a][b] || below[a][m] && below[m][b]
				}
			}
		}
		if below[1][1] || below[2][2] || below[3][3] {
			continue
		}
		for _, roots := range subsets(parents[1:]) {
			want := api.View{Roots: roots}
			for _, p := range x.P {
				if slices.ContainsFunc(roots, func(r int) bool { return r == p.Node || below[p.Node][r] }) {
					want.Known = append(want.Known, p)
				} else if slices.ContainsFunc(roots, func(r int) bool { return below[r][p.Node] }) {
					want.Way = append(want.Way, p)
				}
			}
			v := of(t, x, roots...)
			if !alike(v, want) || view.Check(v) != api.OK {
				t.Fatalf("%v and %v: %v, %v, want %v", x.P, roots, v, view.Check(v), want)
			}
			places := slices.Concat(v.Way, v.Known)
			slices.SortFunc(places, func(a, b api.Place) int { return a.Node - b.Node })
			if w := of(t, api.Tree{P: places}, roots...); !view.Same(v, w) {
				t.Fatalf("%v and %v: of %v a view is %v", x.P, roots, v, w)
			}
		}
	}
}

// TestCheckAgainstAllViews: of all that two nodes may be in, Check takes just what Of makes of some tree.
func TestCheckAgainstAllViews(t *testing.T) {
	parents := []int{-1, 0, 1, 2, 5, 16} // -1: it is not there
	made := map[string]bool{}
	var lists [][]api.Place
	for _, a := range parents {
		for _, b := range parents {
			l := slices.DeleteFunc([]api.Place{at(1, a, 0), at(2, b, 0)}, func(p api.Place) bool { return p.Parent < 0 })
			lists = append(lists, l)
			for _, roots := range subsets(parents[1:]) {
				if v, e := view.Of(api.Tree{P: l}, roots); e == api.OK {
					made[fmt.Sprint(v)] = true
				}
			}
		}
	}
	for _, known := range lists {
		for _, way := range lists {
			for _, roots := range subsets(parents[1:]) {
				v := api.View{Roots: roots, Known: known, Way: way}
				want := api.ErrForm
				if made[fmt.Sprint(v)] {
					want = api.OK
				}
				if e := view.Check(v); e != want {
					t.Fatalf("%v: %v, want %v", v, e, want)
				}
			}
		}
	}
}

// TestOnlyReads: neither a list that is handed in nor the room behind it changes, and what is answered is not of that memory.
func TestOnlyReads(t *testing.T) {
	good := of(t, family(), 2, 8)
	tree := slices.Concat(family().P, make([]api.Place, 3))
	roots := slices.Concat(good.Roots, []int{70, 80, 90, 100})
	known := slices.Concat(good.Known, make([]api.Place, 3))
	way := slices.Concat(good.Way, make([]api.Place, 9))
	treeWas, rootsWere, knownWas, wayWas := slices.Clone(tree), slices.Clone(roots), slices.Clone(known), slices.Clone(way)
	untouched := func(what string) {
		t.Helper()
		if !slices.Equal(tree, treeWas) || !slices.Equal(roots, rootsWere) || !slices.Equal(known, knownWas) || !slices.Equal(way, wayWas) {
			t.Fatalf("%s left %v, %v, %v, %v", what, tree, roots, known, way)
		}
	}
	in := api.View{Roots: roots[:2], Known: known[:len(good.Known)], Way: way[:len(good.Way)]}
	view.Roots(in.Roots)
	untouched("Roots")
	view.Check(in)
	untouched("Check")
	view.Check(api.View{Roots: roots[:2], Known: known[:2], Way: known[1:4]})
	untouched("Check of one that is in both")
	view.Same(in, in)
	untouched("Same")
	for n := range roots {
		for m := range tree {
			v, _ := view.Of(api.Tree{P: tree[:m]}, roots[:n])
			untouched("Of")
			overwrite(t, v)
			untouched("writing over an answer of Of")
		}
	}
}

// overwrite fills all room of each list of v, and looks whether the lists beside it stay.
func overwrite(t *testing.T, v api.View) {
	t.Helper()
	known, way := slices.Clone(v.Known), slices.Clone(v.Way)
	for i := range v.Roots[:cap(v.Roots)] {
		v.Roots[:cap(v.Roots)][i] = 1000
	}
	for i := range v.Known[:cap(v.Known)] {
		v.Known[:cap(v.Known)][i] = at(1000, 1000, 1000)
	}
	if !slices.Equal(v.Way, way) {
		t.Fatalf("Way shares memory with Known")
	}
	copy(v.Known, known)
	for i := range v.Way[:cap(v.Way)] {
		v.Way[:cap(v.Way)][i] = at(2000, 2000, 2000)
	}
	if !slices.Equal(v.Known, known) {
		t.Fatalf("Known shares memory with Way")
	}
}
