package tree_test

import (
	"math"
	"slices"
	"testing"

	"orangery/api"
	"orangery/tree"
)

// of makes a tree of places, written as node, parent, name.
func of(l ...[3]int) api.Tree {
	var t api.Tree
	for _, x := range l {
		t.P = append(t.P, api.Place{Node: x[0], Parent: x[1], Name: x[2]})
	}
	return t
}

// chain of all nodes, each below the next one, the last one below last.
func chain(last int) api.Tree {
	var t api.Tree
	for n := 1; n < api.MaxNode-1; n++ {
		t.P = append(t.P, api.Place{Node: n, Parent: n + 1})
	}
	t.P = append(t.P, api.Place{Node: api.MaxNode - 1, Parent: last})
	return t
}

// family: 1 below the root, 5 below the bin, 9 below 12, which stands nowhere.
func family() api.Tree {
	return of([3]int{1, 0, 5}, [3]int{2, 1, 7}, [3]int{3, 1, 6}, [3]int{4, 2, 0}, [3]int{5, 16, 1}, [3]int{6, 5, 1}, [3]int{9, 12, 3})
}

// wrong are trees that Check refuses, and how.
func wrong() map[string]struct {
	t api.Tree
	e api.Errno
} {
	type row = struct {
		t api.Tree
		e api.Errno
	}
	return map[string]row{
		"node of the root":           {of([3]int{0, 1, 1}), api.ErrRange},
		"node of the bin":            {of([3]int{16, 1, 1}), api.ErrRange},
		"node below 0":               {of([3]int{-1, 1, 1}), api.ErrRange},
		"least node":                 {of([3]int{math.MinInt, 0, 0}), api.ErrRange},
		"greatest node":              {of([3]int{math.MaxInt, 0, 0}), api.ErrRange},
		"parent below 0":             {of([3]int{1, -1, 1}), api.ErrRange},
		"parent above the bin":       {of([3]int{1, 17, 1}), api.ErrRange},
		"least parent":               {of([3]int{1, math.MinInt, 0}), api.ErrRange},
		"greatest parent":            {of([3]int{1, math.MaxInt, 0}), api.ErrRange},
		"name below 0":               {of([3]int{1, 0, -1}), api.ErrRange},
		"name above the last":        {of([3]int{1, 0, 100}), api.ErrRange},
		"range of a later place":     {of([3]int{1, 0, 0}, [3]int{2, 0, 0}, [3]int{3, 0, 100}), api.ErrRange},
		"twice":                      {of([3]int{1, 0, 0}, [3]int{1, 0, 0}), api.ErrTwice},
		"twice, elsewhere":           {of([3]int{3, 0, 0}, [3]int{3, 1, 4}), api.ErrTwice},
		"falling":                    {of([3]int{2, 0, 0}, [3]int{1, 0, 0}), api.ErrTwice},
		"falling late":               {of([3]int{1, 0, 0}, [3]int{4, 0, 0}, [3]int{3, 0, 0}), api.ErrTwice},
		"above the first alone":      {of([3]int{2, 0, 0}, [3]int{5, 0, 0}, [3]int{4, 0, 0}), api.ErrTwice},
		"below itself":               {of([3]int{1, 1, 0}), api.ErrForm},
		"last below itself":          {of([3]int{1, 0, 0}, [3]int{15, 15, 0}), api.ErrForm},
		"ring of two":                {of([3]int{1, 2, 0}, [3]int{2, 1, 0}), api.ErrForm},
		"ring of three":              {of([3]int{1, 2, 0}, [3]int{2, 3, 0}, [3]int{3, 1, 0}), api.ErrForm},
		"ring of all":                {chain(1), api.ErrForm},
		"way that ends in a ring":    {chain(14), api.ErrForm},
		"ring beside a tree":         {of([3]int{1, 0, 0}, [3]int{2, 1, 0}, [3]int{7, 8, 0}, [3]int{8, 7, 0}), api.ErrForm},
		"range ahead of twice":       {of([3]int{2, 0, 0}, [3]int{1, 17, 0}), api.ErrRange},
		"first place: range":         {of([3]int{1, 0, 100}, [3]int{1, 0, 0}), api.ErrRange},
		"second place: twice":        {of([3]int{2, 0, 0}, [3]int{2, 0, 0}, [3]int{0, 0, 0}), api.ErrTwice},
		"range ahead of form":        {of([3]int{1, 1, 0}, [3]int{2, 0, 100}), api.ErrRange},
		"twice ahead of form":        {of([3]int{1, 1, 0}, [3]int{1, 0, 0}), api.ErrTwice},
		"one more than nodes: range": {api.Tree{P: append(chain(0).P, api.Place{Node: 16})}, api.ErrRange},
		"one more than nodes: twice": {api.Tree{P: append(chain(0).P, api.Place{Node: 15})}, api.ErrTwice},
		"very many":                  {api.Tree{P: make([]api.Place, 100000)}, api.ErrRange},
	}
}

func TestCheckTakesTrees(t *testing.T) {
	for name, good := range map[string]api.Tree{
		"nil":                        {},
		"empty":                      {P: []api.Place{}},
		"family":                     family(),
		"least of all":               of([3]int{1, 0, 0}),
		"greatest of all":            of([3]int{15, 16, 99}),
		"parent that stands nowhere": of([3]int{3, 7, 1}),
		"gaps":                       of([3]int{2, 0, 1}, [3]int{9, 2, 1}, [3]int{14, 2, 1}),
		"like names":                 of([3]int{1, 0, 1}, [3]int{2, 0, 1}),
		"all nodes, up to the root":  chain(0),
		"all nodes, up to the bin":   chain(16),
	} {
		if e := tree.Check(good); e != api.OK {
			t.Errorf("%s: %v, want OK", name, e)
		}
	}
}

func TestCheckRefusesTheRest(t *testing.T) {
	for name, x := range wrong() {
		if e := tree.Check(x.t); e != x.e {
			t.Errorf("%s: %v, want %v", name, e, x.e)
		}
	}
}

func TestUnderAndKidsSayChecksErrorFirst(t *testing.T) {
	for name, x := range wrong() {
		for _, node := range []int{1, -1, 17} {
			if u, e := tree.Under(x.t, node, node); u || e != x.e {
				t.Errorf("%s: Under %d: %v, %v, want false, %v", name, node, u, e, x.e)
			}
			if k, e := tree.Kids(x.t, node); len(k) != 0 || e != x.e {
				t.Errorf("%s: Kids %d: %v, %v, want none, %v", name, node, k, e, x.e)
			}
		}
	}
}

func TestFind(t *testing.T) {
	twice := of([3]int{4, 1, 1}, [3]int{2, 1, 2}, [3]int{4, 3, 3}, [3]int{2, 1, 9})
	odd := of([3]int{0, 8, 9}, [3]int{-3, 40, -7}, [3]int{math.MaxInt, 1, 2})
	for name, x := range map[string]struct {
		t    api.Tree
		node int
		want api.Place
	}{
		"first":                {family(), 1, api.Place{Node: 1, Parent: 0, Name: 5}},
		"inner":                {family(), 4, api.Place{Node: 4, Parent: 2, Name: 0}},
		"last":                 {family(), 9, api.Place{Node: 9, Parent: 12, Name: 3}},
		"parent, but no place": {family(), 12, api.Place{}},
		"root":                 {family(), 0, api.Place{}},
		"bin":                  {family(), 16, api.Place{}},
		"no node at all":       {family(), math.MinInt, api.Place{}},
		"of nothing":           {api.Tree{}, 1, api.Place{}},
		"first of two":         {twice, 4, api.Place{Node: 4, Parent: 1, Name: 1}},
		"first of two, later":  {twice, 2, api.Place{Node: 2, Parent: 1, Name: 2}},
		"a place of node 0":    {odd, 0, api.Place{Node: 0, Parent: 8, Name: 9}},
		"a place below 0":      {odd, -3, api.Place{Node: -3, Parent: 40, Name: -7}},
		"a place far above":    {odd, math.MaxInt, api.Place{Node: math.MaxInt, Parent: 1, Name: 2}},
		"in a ring":            {of([3]int{1, 1, 3}), 1, api.Place{Node: 1, Parent: 1, Name: 3}},
	} {
		if p := tree.Find(x.t, x.node); p != x.want {
			t.Errorf("%s: %v, want %v", name, p, x.want)
		}
	}
}

func TestUnder(t *testing.T) {
	for _, x := range []struct {
		t         api.Tree
		node, top int
		want      bool
	}{
		{family(), 2, 1, true},
		{family(), 4, 1, true},
		{family(), 4, 0, true},
		{family(), 1, 4, false},
		{family(), 3, 2, false},
		{family(), 4, 16, false},
		{family(), 6, 16, true},
		{family(), 6, 0, false},
		{family(), 9, 12, true},
		{family(), 9, 0, false},
		{family(), 12, 9, false},
		{family(), 12, 0, false},
		{family(), 12, 12, true},
		{family(), 4, 4, true},
		{family(), 0, 0, true},
		{family(), 16, 16, true},
		{family(), 0, 16, false},
		{family(), 16, 0, false},
		{family(), 0, 1, false},
		{api.Tree{}, 3, 3, true},
		{api.Tree{}, 3, 0, false},
		{chain(0), 1, 0, true},
		{chain(0), 1, 15, true},
		{chain(0), 1, 16, false},
		{chain(16), 1, 16, true},
	} {
		if got, e := tree.Under(x.t, x.node, x.top); got != x.want || e != api.OK {
			t.Errorf("%v: %d under %d: %v, %v, want %v, OK", x.t.P, x.node, x.top, got, e, x.want)
		}
	}
}

func TestUnderRefusesOthers(t *testing.T) {
	for _, bad := range []int{-1, 17, math.MinInt, math.MaxInt} {
		for _, x := range [][2]int{{bad, 0}, {0, bad}, {1, bad}, {bad, 1}, {bad, bad}} {
			if u, e := tree.Under(family(), x[0], x[1]); u || e != api.ErrWho {
				t.Errorf("%v: %v, %v, want false, ErrWho", x, u, e)
			}
		}
	}
}

// TestUnderAgainstAllPairs holds Check and Under, for every way in which four nodes may stand, against a table of who is below whom.
func TestUnderAgainstAllPairs(t *testing.T) {
	parents := []int{-1, 0, 1, 2, 3, 4, 5, 16} // -1: it stands nowhere
	for k := range 8 * 8 * 8 * 8 {
		var x api.Tree
		var below [api.MaxNode + 1][api.MaxNode + 1]bool
		for n, rest := 1, k; n <= 4; n, rest = n+1, rest/8 {
			if p := parents[rest%8]; p >= 0 {
				x.P = append(x.P, api.Place{Node: n, Parent: p})
				below[n][p] = true
			}
		}
		for m := range below {
			for a := range below {
				for b := range below {
					below[a][b] = below[a][b] || below[a][m] && below[m][b]
				}
			}
		}
		want := api.OK
		if below[1][1] || below[2][2] || below[3][3] || below[4][4] {
			want = api.ErrForm
		}
		if e := tree.Check(x); e != want {
			t.Fatalf("%v: %v, want %v", x.P, e, want)
		}
		for _, a := range parents[1:] {
			for _, b := range parents[1:] {
				u, e := tree.Under(x, a, b)
				if e != want || u != (want == api.OK && (a == b || below[a][b])) {
					t.Fatalf("%v: %d under %d: %v, %v", x.P, a, b, u, e)
				}
			}
		}
	}
}

func TestKids(t *testing.T) {
	names := of([3]int{1, 8, 9}, [3]int{2, 8, 4}, [3]int{3, 0, 4}, [3]int{4, 8, 99}, [3]int{5, 8, 4}, [3]int{6, 8, 0}, [3]int{7, 16, 1}, [3]int{8, 0, 4}, [3]int{9, 8, 10}, [3]int{15, 16, 0})
	for name, x := range map[string]struct {
		t    api.Tree
		node int
		want api.Tree
	}{
		"by name, then by node": {names, 8, of([3]int{6, 8, 0}, [3]int{2, 8, 4}, [3]int{5, 8, 4}, [3]int{1, 8, 9}, [3]int{9, 8, 10}, [3]int{4, 8, 99})},
		"of the root":           {names, 0, of([3]int{3, 0, 4}, [3]int{8, 0, 4})},
		"of the bin":            {names, 16, of([3]int{15, 16, 0}, [3]int{7, 16, 1})},
		"of one without":        {names, 4, api.Tree{}},
		"no kids' kids":         {family(), 1, of([3]int{3, 1, 6}, [3]int{2, 1, 7})},
		"stands nowhere":        {family(), 12, of([3]int{9, 12, 3})},
		"of nothing":            {api.Tree{}, 0, api.Tree{}},
		"of a chain":            {chain(0), 0, of([3]int{15, 0, 0})},
	} {
		if k, e := tree.Kids(x.t, x.node); !slices.Equal(k, x.want.P) || e != api.OK {
			t.Errorf("%s: %v, %v, want %v, OK", name, k, e, x.want.P)
		}
	}
}

// TestKidsOfAllNodes: as many kids as there may be, few of them of different names.
func TestKidsOfAllNodes(t *testing.T) {
	for many := 1; many <= api.MaxNode; many++ {
		var x api.Tree
		var want []api.Place
		for n := 1; n < api.MaxNode; n++ {
			x.P = append(x.P, api.Place{Node: n, Parent: api.MaxNode, Name: n * 7 % many})
		}
		for name := range many {
			for _, p := range x.P {
				if p.Name == name {
					want = append(want, p)
				}
			}
		}
		if k, e := tree.Kids(x, api.MaxNode); !slices.Equal(k, want) || e != api.OK {
			t.Errorf("%d names: %v, %v, want %v, OK", many, k, e, want)
		}
	}
}

func TestKidsRefusesOthers(t *testing.T) {
	for _, bad := range []int{-1, 17, math.MinInt, math.MaxInt} {
		if k, e := tree.Kids(family(), bad); len(k) != 0 || e != api.ErrWho {
			t.Errorf("%d: %v, %v, want none, ErrWho", bad, k, e)
		}
	}
}

// TestOnlyReads: neither a list that is handed in nor the room behind it changes, and what is answered is not of that memory.
func TestOnlyReads(t *testing.T) {
	room := of([3]int{1, 8, 9}, [3]int{2, 8, 4}, [3]int{3, 0, 4}, [3]int{4, 8, 1}, [3]int{77, 8, 0}, [3]int{-5, 8, 3}).P
	before := slices.Clone(room)
	x := api.Tree{P: room[:4]}
	untouched := func(what string) {
		t.Helper()
		if !slices.Equal(room, before) {
			t.Fatalf("%s left %v, want %v", what, room, before)
		}
	}
	tree.Check(x)
	untouched("Check")
	tree.Find(x, 2)
	untouched("Find")
	tree.Under(x, 2, 8)
	untouched("Under")
	for node := -1; node <= 17; node++ {
		kids, _ := tree.Kids(x, node)
		untouched("Kids")
		for i := range kids[:cap(kids)] {
			kids[:cap(kids)][i] = api.Place{Node: 1000, Parent: 1000, Name: 1000}
		}
		untouched("writing over an answer of Kids")
	}
}
