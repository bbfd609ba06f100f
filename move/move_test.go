package move_test

import (
	"math"
	"slices"
	"testing"

	"orangery/api"
	"orangery/move"
	"orangery/tree"
)

// of makes a tree of places, written as node, parent, name.
func of(l ...[3]int) api.Tree {
	var t api.Tree
	for _, x := range l {
		t.P = append(t.P, api.Place{Node: x[0], Parent: x[1], Name: x[2]})
	}
	return t
}

// op moves node below parent, by name; its other fields differ from each other.
func op(node, parent, name int) api.Op {
	return api.Op{S: api.Stamp{Time: 40, Who: 2}, Node: node, Parent: parent, Name: name, Life: 3, Seq: 4}
}

// did is a step that moved node below parent, by name.
func did(node, parent, name int, was api.Place) api.Step {
	return api.Step{O: op(node, parent, name), Did: true, Was: was}
}

// family: 2 and 3 below 1, 5 below the bin, 9 below 12, which stands nowhere.
func family() api.Tree {
	return of([3]int{1, 0, 5}, [3]int{2, 1, 7}, [3]int{3, 1, 6}, [3]int{4, 2, 0}, [3]int{5, 16, 1}, [3]int{9, 12, 3})
}

// chain of all nodes, each below the next one.
func chain() api.Tree {
	var t api.Tree
	for n := 1; n < api.MaxNode; n++ {
		t.P = append(t.P, api.Place{Node: n, Parent: n + 1})
	}
	return t
}

// with is family, but that some places are others, or further ones; a Parent of -1: it stands nowhere.
func with(l ...[3]int) api.Tree {
	var at [api.MaxNode]api.Place
	for _, p := range append(family().P, of(l...).P...) {
		at[p.Node] = p
	}
	var t api.Tree
	for _, p := range at {
		if p.Node != 0 && p.Parent != -1 {
			t.P = append(t.P, p)
		}
	}
	return t
}

// wrongTrees are what chapter 1 refuses, and how.
func wrongTrees() []struct {
	t api.Tree
	e api.Errno
} {
	return []struct {
		t api.Tree
		e api.Errno
	}{
		{of([3]int{0, 1, 1}), api.ErrRange},
		{of([3]int{1, 17, 1}), api.ErrRange},
		{of([3]int{1, 0, 0}, [3]int{2, 0, 100}), api.ErrRange},
		{of([3]int{1, 0, 0}, [3]int{1, 0, 0}), api.ErrTwice},
		{of([3]int{2, 0, 0}, [3]int{1, 0, 0}), api.ErrTwice},
		{of([3]int{3, 3, 0}), api.ErrForm},
		{of([3]int{1, 2, 0}, [3]int{2, 1, 0}), api.ErrForm},
	}
}

// wrongOps are good ones of which one field, or all of them, may not be.
func wrongOps() []api.Op {
	var l []api.Op
	for _, f := range []struct {
		set   func(o *api.Op, n int)
		wrong []int
	}{
		{func(o *api.Op, n int) { o.S.Time = n }, []int{0, -1, 10001}},
		{func(o *api.Op, n int) { o.S.Who = n }, []int{-1, 3}},
		{func(o *api.Op, n int) { o.Node = n }, []int{0, -1, 16, 17}},
		{func(o *api.Op, n int) { o.Parent = n }, []int{-1, 17}},
		{func(o *api.Op, n int) { o.Name = n }, []int{-1, 100}},
		{func(o *api.Op, n int) { o.Life = n }, []int{0, -1, 51}},
		{func(o *api.Op, n int) { o.Seq = n }, []int{0, -1, 31}},
	} {
		for _, n := range append(f.wrong, math.MinInt, math.MaxInt) {
			o := op(2, 3, 8)
			f.set(&o, n)
			l = append(l, o)
		}
	}
	return append(l, api.Op{}, api.Op{S: api.Stamp{Time: -1, Who: -1}, Node: -1, Parent: -1, Name: -1, Life: -1, Seq: -1})
}

func TestCheckTakesOperations(t *testing.T) {
	for name, o := range map[string]api.Op{
		"ordinary":            op(2, 3, 8),
		"least of all":        {S: api.Stamp{Time: 1, Who: 0}, Node: 1, Parent: 0, Name: 0, Life: 1, Seq: 1},
		"greatest of all":     {S: api.Stamp{Time: 10000, Who: 2}, Node: 15, Parent: 16, Name: 99, Life: 50, Seq: 30},
		"below itself":        op(7, 7, 1),
		"greater than parent": op(15, 1, 1),
	} {
		if e := move.Check(o); e != api.OK {
			t.Errorf("%s: %v, want OK", name, e)
		}
	}
}

func TestCheckRefusesTheRest(t *testing.T) {
	for _, o := range wrongOps() {
		if e := move.Check(o); e != api.ErrRange {
			t.Errorf("%v: %v, want ErrRange", o, e)
		}
	}
}

func TestDoMoves(t *testing.T) {
	for name, x := range map[string]struct {
		t    api.Tree
		o    api.Op
		was  api.Place
		want api.Tree
	}{
		"below a sibling":             {family(), op(2, 3, 8), api.Place{Node: 2, Parent: 1, Name: 7}, with([3]int{2, 3, 8})},
		"up":                          {family(), op(4, 1, 0), api.Place{Node: 4, Parent: 2, Name: 0}, with([3]int{4, 1, 0})},
		"to the root":                 {family(), op(4, 0, 2), api.Place{Node: 4, Parent: 2, Name: 0}, with([3]int{4, 0, 2})},
		"to the bin, with those kids": {family(), op(1, 16, 5), api.Place{Node: 1, Parent: 0, Name: 5}, with([3]int{1, 16, 5})},
		"out of the bin":              {family(), op(5, 4, 99), api.Place{Node: 5, Parent: 16, Name: 1}, with([3]int{5, 4, 99})},
		"another name alone":          {family(), op(3, 1, 9), api.Place{Node: 3, Parent: 1, Name: 6}, with([3]int{3, 1, 9})},
		"a name that a sibling has":   {family(), op(3, 1, 7), api.Place{Node: 3, Parent: 1, Name: 6}, with([3]int{3, 1, 7})},
		"where it stands":             {family(), op(3, 1, 6), api.Place{Node: 3, Parent: 1, Name: 6}, family()},
		"new, between":                {family(), op(7, 4, 1), api.Place{}, with([3]int{7, 4, 1})},
		"new, last":                   {family(), op(15, 16, 0), api.Place{}, with([3]int{15, 16, 0})},
		"new, with kids ahead of it":  {family(), op(12, 4, 1), api.Place{}, with([3]int{12, 4, 1})},
		"new, first":                  {of([3]int{2, 0, 1}), op(1, 2, 3), api.Place{}, of([3]int{1, 2, 3}, [3]int{2, 0, 1})},
		"new, of nothing":             {api.Tree{}, op(8, 0, 3), api.Place{}, of([3]int{8, 0, 3})},
		"new, of an empty list":       {api.Tree{P: []api.Place{}}, op(8, 16, 3), api.Place{}, of([3]int{8, 16, 3})},
		"below one that is nowhere":   {family(), op(2, 12, 1), api.Place{Node: 2, Parent: 1, Name: 7}, with([3]int{2, 12, 1})},
		"both nowhere":                {family(), op(7, 8, 1), api.Place{}, with([3]int{7, 8, 1})},
		"the lowest of all":           {chain(), op(1, 15, 0), api.Place{Node: 1, Parent: 2, Name: 0}, of(append([][3]int{{1, 15, 0}}, rows(chain().P[1:])...)...)},
	} {
		u, s, e := move.Do(x.t, x.o)
		if !slices.Equal(u.P, x.want.P) || s != (api.Step{O: x.o, Did: true, Was: x.was}) || e != api.OK {
			t.Errorf("%s: %v, %v, %v, want %v, was %v", name, u.P, s, e, x.want.P, x.was)
		}
	}
}

func rows(l []api.Place) [][3]int {
	var r [][3]int
	for _, p := range l {
		r = append(r, [3]int{p.Node, p.Parent, p.Name})
	}
	return r
}

func TestDoLetsNoNodeStandBelowItself(t *testing.T) {
	for name, x := range map[string]struct {
		t   api.Tree
		o   api.Op
		was api.Place
	}{
		"below itself":                   {family(), op(3, 3, 1), api.Place{Node: 3, Parent: 1, Name: 6}},
		"below its kid":                  {family(), op(1, 2, 1), api.Place{Node: 1, Parent: 0, Name: 5}},
		"below its kid's kid":            {family(), op(1, 4, 1), api.Place{Node: 1, Parent: 0, Name: 5}},
		"nowhere, below itself":          {family(), op(7, 7, 1), api.Place{}},
		"nowhere, below its kid":         {family(), op(12, 9, 1), api.Place{}},
		"of nothing, below itself":       {api.Tree{}, op(7, 7, 1), api.Place{}},
		"highest of all, below the last": {chain(), op(15, 1, 1), api.Place{Node: 15, Parent: 16, Name: 0}},
	} {
		u, s, e := move.Do(x.t, x.o)
		if !slices.Equal(u.P, x.t.P) || s != (api.Step{O: x.o, Was: x.was}) || e != api.OK {
			t.Errorf("%s: %v, %v, %v, want the tree as it is, was %v", name, u.P, s, e, x.was)
		}
	}
}

func TestDoRefuses(t *testing.T) {
	refused := func(x api.Tree, o api.Op, want api.Errno) {
		t.Helper()
		if u, s, e := move.Do(x, o); len(u.P) != 0 || s != (api.Step{}) || e != want {
			t.Errorf("%v, %v: %v, %v, %v, want %v alone", x.P, o, u.P, s, e, want)
		}
	}
	for _, o := range wrongOps() {
		refused(family(), o, api.ErrRange)
	}
	for _, x := range wrongTrees() {
		refused(x.t, op(2, 3, 8), x.e)
		refused(x.t, op(0, 3, 8), x.e) // of both, the tree's
	}
}

func TestUndo(t *testing.T) {
	moved := with([3]int{2, 3, 8})
	for name, x := range map[string]struct {
		t    api.Tree
		s    api.Step
		want api.Tree
	}{
		"back":                                {moved, did(2, 3, 8, api.Place{Node: 2, Parent: 1, Name: 7}), family()},
		"back to the root":                    {moved, did(2, 3, 8, api.Place{Node: 2}), with([3]int{2, 0, 0})},
		"back to the bin":                     {moved, did(2, 3, 8, api.Place{Node: 2, Parent: 16, Name: 99}), with([3]int{2, 16, 99})},
		"back below one that is nowhere":      {moved, did(2, 3, 8, api.Place{Node: 2, Parent: 13, Name: 1}), with([3]int{2, 13, 1})},
		"back to where it stands":             {moved, did(2, 3, 8, api.Place{Node: 2, Parent: 3, Name: 8}), moved},
		"it stood nowhere":                    {moved, did(2, 3, 8, api.Place{}), with([3]int{2, -1, 0})},
		"nowhere, whatever else is told":      {moved, did(2, 3, 8, api.Place{Node: 0, Parent: 99, Name: -7}), with([3]int{2, -1, 0})},
		"nowhere by a Parent below 0":         {moved, did(2, 3, 8, api.Place{Node: 2, Parent: -1, Name: 4}), with([3]int{2, -1, 0})},
		"nowhere by a Parent far below 0":     {moved, did(2, 3, 8, api.Place{Node: 2, Parent: math.MinInt, Name: 400}), with([3]int{2, -1, 0})},
		"the only one":                        {of([3]int{8, 0, 3}), did(8, 0, 3, api.Place{}), api.Tree{}},
		"it did nothing":                      {family(), api.Step{O: op(1, 4, 0), Was: api.Place{Node: 1, Parent: 0, Name: 5}}, family()},
		"it did nothing, of nothing":          {api.Tree{}, api.Step{O: op(7, 7, 0)}, api.Tree{}},
		"it did nothing, Was is another's":    {family(), api.Step{O: op(2, 3, 8), Was: api.Place{Node: 4, Parent: 2}}, family()},
		"it did nothing, Was may not be":      {family(), api.Step{O: op(2, 3, 8), Was: api.Place{Node: 77, Parent: 77, Name: 777}}, family()},
		"it did nothing, though it is target": {moved, api.Step{O: op(2, 3, 8), Was: api.Place{Node: 2, Parent: 1, Name: 7}}, moved},
	} {
		if u, e := move.Undo(x.t, x.s); !slices.Equal(u.P, x.want.P) || e != api.OK {
			t.Errorf("%s: %v, %v, want %v", name, u.P, e, x.want.P)
		}
	}
}

func TestUndoRefuses(t *testing.T) {
	moved := with([3]int{2, 3, 8})
	was := api.Place{Node: 2, Parent: 1, Name: 7}
	for name, x := range map[string]struct {
		t api.Tree
		s api.Step
		e api.Errno
	}{
		"Was of another node":              {moved, did(2, 3, 8, api.Place{Node: 4, Parent: 2}), api.ErrForm},
		"Was of a node below 0":            {moved, did(2, 3, 8, api.Place{Node: -2, Parent: 1}), api.ErrForm},
		"Was of no node at all":            {moved, did(2, 3, 8, api.Place{Node: math.MaxInt, Parent: -1}), api.ErrForm},
		"form ahead of Was' range":         {moved, did(2, 3, 8, api.Place{Node: 4, Parent: 17, Name: -1}), api.ErrForm},
		"it stands below another":          {with([3]int{2, 4, 8}, [3]int{4, 0, 0}), did(2, 3, 8, was), api.ErrForm},
		"it stands by another name":        {with([3]int{2, 3, 9}), did(2, 3, 8, was), api.ErrForm},
		"it stands where it stood":         {family(), did(2, 3, 8, was), api.ErrForm},
		"it stands nowhere":                {family(), did(7, 3, 8, api.Place{}), api.ErrForm},
		"of nothing":                       {api.Tree{}, did(7, 0, 0, api.Place{}), api.ErrForm},
		"not the last, Was' range":         {family(), did(2, 3, 8, api.Place{Node: 2, Parent: 17}), api.ErrForm},
		"Was' Parent too great":            {moved, did(2, 3, 8, api.Place{Node: 2, Parent: 17, Name: 7}), api.ErrRange},
		"Was' Parent greatest":             {moved, did(2, 3, 8, api.Place{Node: 2, Parent: math.MaxInt}), api.ErrRange},
		"Was' Name below 0":                {moved, did(2, 3, 8, api.Place{Node: 2, Parent: 1, Name: -1}), api.ErrRange},
		"Was' Name too great":              {moved, did(2, 3, 8, api.Place{Node: 2, Parent: 1, Name: 100}), api.ErrRange},
		"Was below itself":                 {moved, did(2, 3, 8, api.Place{Node: 2, Parent: 2, Name: 7}), api.ErrForm},
		"Was below its kid":                {moved, did(2, 3, 8, api.Place{Node: 2, Parent: 4, Name: 7}), api.ErrForm},
		"Was below itself, and not a name": {moved, did(2, 3, 8, api.Place{Node: 2, Parent: 2, Name: 100}), api.ErrRange},
	} {
		if u, e := move.Undo(x.t, x.s); len(u.P) != 0 || e != x.e {
			t.Errorf("%s: %v, %v, want %v alone", name, u.P, e, x.e)
		}
	}
}

// TestUndoLooksAtTreeAndOperationFirst: whether the step did anything, and whatever Was is.
func TestUndoLooksAtTreeAndOperationFirst(t *testing.T) {
	for _, s := range []api.Step{{}, {Did: true}, {Did: true, Was: api.Place{Node: 4, Parent: 2}}, {Was: api.Place{Node: 77}}} {
		for _, o := range wrongOps() {
			s.O = o
			if u, e := move.Undo(family(), s); len(u.P) != 0 || e != api.ErrRange {
				t.Errorf("%v: %v, %v, want ErrRange alone", s, u.P, e)
			}
		}
		for _, x := range wrongTrees() {
			for _, o := range []api.Op{op(2, 3, 8), {}} {
				s.O = o
				if u, e := move.Undo(x.t, s); len(u.P) != 0 || e != x.e {
					t.Errorf("%v, %v: %v, %v, want %v alone", x.t.P, s, u.P, e, x.e)
				}
			}
		}
	}
}

// TestWhatIsDoneIsUndone, for every way in which four nodes may stand, and every operation on one of them or a fifth.
func TestWhatIsDoneIsUndone(t *testing.T) {
	parents := []int{-1, 0, 1, 2, 3, 4, 5, 16} // -1: it stands nowhere
	for k := range 8 * 8 * 8 * 8 {
		var x api.Tree
		var at [api.MaxNode + 1]api.Place
		for n, rest := 1, k; n <= 4; n, rest = n+1, rest/8 {
			if p := parents[rest%8]; p >= 0 {
				at[n] = api.Place{Node: n, Parent: p, Name: n}
				x.P = append(x.P, at[n])
			}
		}
		if tree.Check(x) != api.OK {
			continue
		}
		for node := 1; node <= 5; node++ {
			for _, parent := range parents[1:] {
				ring := parent == node
				for up := at[parent]; up.Node != 0; up = at[up.Parent] {
					ring = ring || up.Parent == node
				}
				u, s, e := move.Do(x, op(node, parent, 9))
				if e != api.OK || tree.Check(u) != api.OK || s != (api.Step{O: op(node, parent, 9), Did: !ring, Was: at[node]}) {
					t.Fatalf("%v: %d below %d: %v, %v, %v", x.P, node, parent, u.P, s, e)
				}
				for n := 1; n <= 5; n++ {
					want := at[n]
					if n == node && !ring {
						want = api.Place{Node: node, Parent: parent, Name: 9}
					}
					if got := tree.Find(u, n); got != want {
						t.Fatalf("%v: %d below %d: %d stands at %v, want %v", x.P, node, parent, n, got, want)
					}
				}
				if v, e := move.Undo(u, s); e != api.OK || !slices.Equal(v.P, x.P) {
					t.Fatalf("%v: %d below %d, undone: %v, %v", x.P, node, parent, v.P, e)
				}
			}
		}
	}
}

// TestStepsAreUndoneFromTheLastOn: all trees between come back, one by one.
func TestStepsAreUndoneFromTheLastOn(t *testing.T) {
	trees := []api.Tree{{}}
	var steps []api.Step
	for k := range 300 {
		u, s, e := move.Do(trees[k], op(1+k*k*7%15, k*5%17, k%100))
		if e != api.OK {
			t.Fatalf("step %d: %v", k, e)
		}
		trees, steps = append(trees, u), append(steps, s)
	}
	x := trees[len(steps)]
	for k := len(steps) - 1; k >= 0; k-- {
		var e api.Errno
		if x, e = move.Undo(x, steps[k]); e != api.OK || !slices.Equal(x.P, trees[k].P) {
			t.Fatalf("step %d undone: %v, %v, want %v", k, x.P, e, trees[k].P)
		}
	}
}

// TestOnlyReads: neither a list that is handed in nor the room behind it changes, and what is answered is not of that memory.
func TestOnlyReads(t *testing.T) {
	room := with([3]int{2, 3, 8}, [3]int{14, 2, 1}, [3]int{15, 16, 0}).P
	before := slices.Clone(room)
	x := api.Tree{P: room[:len(room)-2]}
	untouched := func(what string, answer api.Tree) {
		t.Helper()
		if !slices.Equal(room, before) {
			t.Fatalf("%s left %v, want %v", what, room, before)
		}
		for i := range answer.P[:cap(answer.P)] {
			answer.P[:cap(answer.P)][i] = api.Place{Node: 1000, Parent: 1000, Name: 1000}
		}
		if !slices.Equal(room, before) {
			t.Fatalf("writing over an answer of %s left %v, want %v", what, room, before)
		}
	}
	for node := 0; node <= api.MaxNode; node++ {
		for parent := -1; parent <= api.MaxNode+1; parent++ {
			u, _, _ := move.Do(x, op(node, parent, 1))
			untouched("Do", u)
			for _, s := range []api.Step{{O: op(2, 3, 8)}, did(2, 3, 8, api.Place{Node: 2, Parent: parent}), did(2, 3, 8, api.Place{Node: node}), did(node, parent, 8, api.Place{})} {
				v, _ := move.Undo(x, s)
				untouched("Undo", v)
			}
		}
	}
}
