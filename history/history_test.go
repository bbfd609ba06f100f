package history_test

import (
	"math"
	"slices"
	"testing"

	"orangery/api"
	"orangery/history"
	"orangery/tree"
)

// op of a stamp moves node below parent, by name; its other fields are of no matter to a history.
func op(time, who, node, parent, name int) api.Op {
	return api.Op{S: api.Stamp{Time: time, Who: who}, Node: node, Parent: parent, Name: name, Life: 7, Seq: 9}
}

// did and idle are steps that moved their node, and that left it where it stood.
func did(o api.Op, was api.Place) api.Step  { return api.Step{O: o, Did: true, Was: was} }
func idle(o api.Op, was api.Place) api.Step { return api.Step{O: o, Was: was} }

func at(node, parent, name int) api.Place {
	return api.Place{Node: node, Parent: parent, Name: name}
}

func of(places []api.Place, steps ...api.Step) api.History {
	return api.History{L: steps, T: api.Tree{P: places}}
}

// alike holds two histories against each other without the package's help.
func alike(a, b api.History) bool {
	return slices.Equal(a.L, b.L) && slices.Equal(a.T.P, b.T.P)
}

func fold(t *testing.T, l ...api.Op) api.History {
	t.Helper()
	h, e := history.Fold(l)
	if e != api.OK {
		t.Fatalf("Fold of %v: %v", l, e)
	}
	return h
}

// many operations, the k-th of time k+1.
func many(n int) []api.Op {
	var l []api.Op
	for k := range n {
		l = append(l, op(k+1, k%api.MaxClients, 1+k*k*7%15, k*5%17, k%100))
	}
	return l
}

// tangle has rings that are begun, refused, and set free again, and like times of unlike clients.
func tangle() []api.Op {
	return []api.Op{op(1, 0, 1, 2, 1), op(1, 2, 2, 1, 2), op(2, 0, 1, 16, 3), op(3, 1, 2, 1, 4), op(3, 2, 1, 2, 5), op(9, 0, 2, 0, 6)}
}

// orders are all in which the numbers below n may stand.
func orders(n int) [][]int {
	if n == 0 {
		return [][]int{nil}
	}
	var all [][]int
	for _, l := range orders(n - 1) {
		for k := range n {
			all = append(all, slices.Insert(slices.Clone(l), k, n-1))
		}
	}
	return all
}

// inOrder answers l's operations as the numbers stand.
func inOrder(l []api.Op, order []int) []api.Op {
	var r []api.Op
	for _, k := range order {
		r = append(r, l[k])
	}
	return r
}

// wrongOps are good ones of which one field may not be.
func wrongOps() []api.Op {
	var l []api.Op
	for _, f := range []struct {
		set   func(o *api.Op, n int)
		wrong []int
	}{
		{func(o *api.Op, n int) { o.S.Time = n }, []int{0, api.MaxTime + 1}},
		{func(o *api.Op, n int) { o.S.Who = n }, []int{-1, api.MaxClients}},
		{func(o *api.Op, n int) { o.Node = n }, []int{0, api.MaxNode}},
		{func(o *api.Op, n int) { o.Parent = n }, []int{-1, api.MaxNode + 1}},
		{func(o *api.Op, n int) { o.Name = n }, []int{-1, api.MaxName + 1}},
		{func(o *api.Op, n int) { o.Life = n }, []int{0, api.MaxLife + 1}},
		{func(o *api.Op, n int) { o.Seq = n }, []int{0, api.MaxOps + 1}},
	} {
		for _, n := range append(f.wrong, math.MinInt, math.MaxInt) {
			o := op(5000, 1, 3, 4, 5)
			f.set(&o, n)
			l = append(l, o)
		}
	}
	return append(l, api.Op{})
}

func TestFold(t *testing.T) {
	one, two, three := op(1, 0, 1, 2, 4), op(2, 1, 1, 0, 5), op(3, 0, 2, 1, 6)
	for name, x := range map[string]struct {
		l    []api.Op
		want api.History
	}{
		"nil":      {nil, api.History{}},
		"empty":    {[]api.Op{}, api.History{}},
		"one":      {[]api.Op{one}, of([]api.Place{at(1, 2, 4)}, did(one, api.Place{}))},
		"a ring":   {[]api.Op{one, three}, of([]api.Place{at(1, 2, 4)}, did(one, api.Place{}), idle(three, api.Place{}))},
		"set free": {[]api.Op{one, two, three}, of([]api.Place{at(1, 0, 5), at(2, 1, 6)}, did(one, api.Place{}), did(two, at(1, 2, 4)), did(three, api.Place{}))},
		"falling":  {[]api.Op{three, two, one}, of([]api.Place{at(1, 0, 5), at(2, 1, 6)}, did(one, api.Place{}), did(two, at(1, 2, 4)), did(three, api.Place{}))},
		"below itself": {[]api.Op{op(1, 1, 5, 5, 0)},
			of(nil, idle(op(1, 1, 5, 5, 0), api.Place{}))},
		"to where it stands": {[]api.Op{op(2, 1, 5, 3, 1), op(1, 1, 5, 3, 1)},
			of([]api.Place{at(5, 3, 1)}, did(op(1, 1, 5, 3, 1), api.Place{}), did(op(2, 1, 5, 3, 1), at(5, 3, 1)))},
		"like times by who": {[]api.Op{op(4, 2, 6, 2, 2), op(4, 0, 6, 0, 0), op(4, 1, 6, 1, 1)},
			of([]api.Place{at(6, 2, 2)}, did(op(4, 0, 6, 0, 0), api.Place{}), did(op(4, 1, 6, 1, 1), at(6, 0, 0)), did(op(4, 2, 6, 2, 2), at(6, 1, 1)))},
		"time ahead of who": {[]api.Op{op(5, 0, 6, 0, 0), op(4, 2, 6, 2, 2)},
			of([]api.Place{at(6, 0, 0)}, did(op(4, 2, 6, 2, 2), api.Place{}), did(op(5, 0, 6, 0, 0), at(6, 2, 2)))},
		"times by number, not by digits": {[]api.Op{op(10000, 0, 6, 3, 3), op(10, 0, 6, 2, 2), op(9, 0, 6, 1, 1)},
			of([]api.Place{at(6, 3, 3)}, did(op(9, 0, 6, 1, 1), api.Place{}), did(op(10, 0, 6, 2, 2), at(6, 1, 1)), did(op(10000, 0, 6, 3, 3), at(6, 2, 2)))},
	} {
		if h, e := history.Fold(x.l); e != api.OK || !alike(h, x.want) {
			t.Errorf("%s: %v, %v, want %v", name, h, e, x.want)
		}
	}
}

// TestFoldLooksAtStampsAlone: a Life or Seq that falls is the hub's matter.
func TestFoldLooksAtStampsAlone(t *testing.T) {
	first, second := op(1, 0, 1, 0, 0), op(2, 0, 1, 16, 0)
	first.Life, first.Seq = 50, 30
	second.Life, second.Seq = 1, 1
	h := fold(t, second, first)
	if !alike(h, of([]api.Place{at(1, 16, 0)}, did(first, api.Place{}), did(second, at(1, 0, 0)))) {
		t.Errorf("%v", h)
	}
}

func TestFoldTakesAsManyAsThereMayBe(t *testing.T) {
	l := many(api.MaxOps)
	if h := fold(t, l...); len(h.L) != api.MaxOps || history.Check(h) != api.OK {
		t.Errorf("%v", h)
	}
}

func TestFoldRefuses(t *testing.T) {
	refused := func(name string, l []api.Op, want api.Errno) {
		t.Helper()
		if h, e := history.Fold(l); e != want || len(h.L) != 0 || len(h.T.P) != 0 {
			t.Errorf("%s: %v, %v, want %v alone", name, h, e, want)
		}
	}
	again := many(api.MaxOps)
	again[api.MaxOps-1].S = again[0].S
	for name, x := range map[string]struct {
		l []api.Op
		e api.Errno
	}{
		"one more than there may be":    {many(api.MaxOps + 1), api.ErrMany},
		"very many":                     {make([]api.Op, 100000), api.ErrMany},
		"many ahead of twice":           {append(slices.Clone(again), op(99, 0, 1, 0, 0)), api.ErrMany},
		"twice the same":                {[]api.Op{op(1, 0, 1, 0, 0), op(1, 0, 1, 0, 0)}, api.ErrTwice},
		"twice the stamp, of others":    {[]api.Op{op(1, 0, 1, 0, 0), op(1, 0, 2, 16, 7)}, api.ErrTwice},
		"twice, apart":                  {[]api.Op{op(3, 1, 1, 0, 0), op(1, 0, 1, 0, 0), op(7, 0, 1, 0, 0), op(3, 1, 2, 0, 0)}, api.ErrTwice},
		"twice, first and last of many": {again, api.ErrTwice},
		"range ahead of twice":          {[]api.Op{op(1, 0, 1, 0, 0), op(1, 0, 1, 0, 0), op(2, 0, 16, 0, 0)}, api.ErrRange},
		"range of the twice":            {[]api.Op{{}, {}}, api.ErrRange},
	} {
		refused(name, x.l, x.e)
	}
	for _, o := range wrongOps() {
		refused("alone", []api.Op{o}, api.ErrRange)
		refused("first", []api.Op{o, op(1, 0, 1, 0, 0)}, api.ErrRange)
		refused("last", append(many(api.MaxOps-1), o), api.ErrRange)
	}
}

func TestCheckTakesWhatFoldMakes(t *testing.T) {
	for _, h := range []api.History{
		{},
		{L: []api.Step{}, T: api.Tree{P: []api.Place{}}},
		fold(t, op(1, 0, 1, 2, 4)),
		fold(t, op(1, 0, 1, 1, 4)),
		fold(t, tangle()...),
		fold(t, many(api.MaxOps)...),
	} {
		if e := history.Check(h); e != api.OK {
			t.Errorf("%v: %v, want OK", h, e)
		}
	}
}

func TestCheckRefusesTheRest(t *testing.T) {
	for name, x := range map[string]struct {
		wrong func(h *api.History)
		e     api.Errno
	}{
		"did nothing, it says":       {func(h *api.History) { h.L[5].Did = false }, api.ErrForm},
		"did something, it says":     {func(h *api.History) { h.L[1].Did = true }, api.ErrForm},
		"another Was":                {func(h *api.History) { h.L[2].Was.Name = 2 }, api.ErrForm},
		"no Was":                     {func(h *api.History) { h.L[2].Was = api.Place{} }, api.ErrForm},
		"a Was where there was none": {func(h *api.History) { h.L[0].Was = at(1, 2, 1) }, api.ErrForm},
		"a Was that may not be":      {func(h *api.History) { h.L[0].Was = at(-1, 99, 999) }, api.ErrForm},
		"another name was told":      {func(h *api.History) { h.L[5].O.Name = 7 }, api.ErrForm},
		"stamps out of order":        {func(h *api.History) { h.L[0], h.L[1] = h.L[1], h.L[0] }, api.ErrForm},
		"a stamp that is too late":   {func(h *api.History) { h.L[0].O.S.Time = 10000 }, api.ErrForm},
		"a step less":                {func(h *api.History) { h.L = h.L[:5] }, api.ErrForm},
		"no step":                    {func(h *api.History) { h.L = nil }, api.ErrForm},
		"no tree":                    {func(h *api.History) { h.T.P = nil }, api.ErrForm},
		"a place less":               {func(h *api.History) { h.T.P = h.T.P[:1] }, api.ErrForm},
		"a place more":               {func(h *api.History) { h.T.P = append(h.T.P, at(15, 0, 0)) }, api.ErrForm},
		"another place":              {func(h *api.History) { h.T.P[1].Parent = 16 }, api.ErrForm},
		"places out of order":        {func(h *api.History) { slices.Reverse(h.T.P) }, api.ErrForm},
		"a tree that may not be":     {func(h *api.History) { h.T.P[0] = at(0, -1, -1) }, api.ErrForm},
		"a step twice":               {func(h *api.History) { h.L = append(h.L, h.L[5]) }, api.ErrTwice},
		"a stamp twice":              {func(h *api.History) { h.L[3].O.S = h.L[4].O.S }, api.ErrTwice},
		"twice ahead of form":        {func(h *api.History) { h.L[3].O.S = h.L[4].O.S; h.T.P = nil }, api.ErrTwice},
		"range":                      {func(h *api.History) { h.L[3].O.Node = 0 }, api.ErrRange},
		"range ahead of twice":       {func(h *api.History) { h.L[0].O.S = h.L[1].O.S; h.L[5].O.Parent = 17 }, api.ErrRange},
		"too many":                   {func(h *api.History) { h.L = make([]api.Step, api.MaxOps+1) }, api.ErrMany},
		"very many":                  {func(h *api.History) { h.L = make([]api.Step, 100000) }, api.ErrMany},
		"very many places":           {func(h *api.History) { h.T.P = make([]api.Place, 100000) }, api.ErrForm},
	} {
		h := fold(t, tangle()...)
		x.wrong(&h)
		if e := history.Check(h); e != x.e {
			t.Errorf("%s: %v, want %v", name, e, x.e)
		}
		// Whatever else is wrong, the history is looked at first.
		for _, o := range []api.Op{op(4, 0, 3, 0, 0), tangle()[0], {}} {
			if g, e := history.Insert(h, o); e != x.e || len(g.L) != 0 || len(g.T.P) != 0 {
				t.Errorf("%s: Insert of %v: %v, %v, want %v alone", name, o, g, e, x.e)
			}
		}
	}
}

func TestSame(t *testing.T) {
	good := fold(t, tangle()...)
	if !history.Same(good, fold(t, tangle()...)) || !history.Same(api.History{}, api.History{L: []api.Step{}, T: api.Tree{P: []api.Place{}}}) {
		t.Errorf("like ones are not the same")
	}
	for name, change := range map[string]func(h *api.History){
		"time":        func(h *api.History) { h.L[5].O.S.Time++ },
		"who":         func(h *api.History) { h.L[5].O.S.Who++ },
		"node":        func(h *api.History) { h.L[5].O.Node++ },
		"parent":      func(h *api.History) { h.L[5].O.Parent++ },
		"name":        func(h *api.History) { h.L[5].O.Name++ },
		"life":        func(h *api.History) { h.L[5].O.Life++ },
		"seq":         func(h *api.History) { h.L[5].O.Seq++ },
		"did":         func(h *api.History) { h.L[5].Did = false },
		"was' node":   func(h *api.History) { h.L[5].Was.Node++ },
		"was' parent": func(h *api.History) { h.L[5].Was.Parent++ },
		"was' name":   func(h *api.History) { h.L[5].Was.Name++ },
		"first step":  func(h *api.History) { h.L[0].O.Seq++ },
		"a step less": func(h *api.History) { h.L = h.L[:5] },
		"a step more": func(h *api.History) { h.L = append(h.L, api.Step{}) },
		"order":       func(h *api.History) { h.L[0], h.L[1] = h.L[1], h.L[0] },
		"node there":  func(h *api.History) { h.T.P[1].Node++ },
		"place":       func(h *api.History) { h.T.P[1].Parent++ },
		"place' name": func(h *api.History) { h.T.P[0].Name++ },
		"place less":  func(h *api.History) { h.T.P = h.T.P[:1] },
		"place more":  func(h *api.History) { h.T.P = append(h.T.P, api.Place{}) },
		"no steps":    func(h *api.History) { h.L = nil },
		"no places":   func(h *api.History) { h.T.P = nil },
	} {
		a, b := fold(t, tangle()...), fold(t, tangle()...)
		change(&a)
		if history.Same(a, good) || history.Same(good, a) {
			t.Errorf("%s: the same, though it changed", name)
		}
		// Two that are no histories may be the same all the same.
		change(&b)
		if !history.Same(a, b) {
			t.Errorf("%s: not the same, though both changed alike", name)
		}
	}
}

func TestInsert(t *testing.T) {
	one, two, three := op(1, 0, 1, 2, 4), op(2, 1, 1, 0, 5), op(3, 0, 2, 1, 6)
	for name, x := range map[string]struct {
		h    api.History
		o    api.Op
		want api.History
	}{
		"into nothing": {api.History{}, one, of([]api.Place{at(1, 2, 4)}, did(one, api.Place{}))},
		"last, a ring": {fold(t, one), three, of([]api.Place{at(1, 2, 4)}, did(one, api.Place{}), idle(three, api.Place{}))},
		"late: the ring is none after all": {fold(t, one, three), two,
			of([]api.Place{at(1, 0, 5), at(2, 1, 6)}, did(one, api.Place{}), did(two, at(1, 2, 4)), did(three, api.Place{}))},
		"late: a ring after all": {fold(t, three), one, of([]api.Place{at(1, 2, 4)}, did(one, api.Place{}), idle(three, api.Place{}))},
		"late: where it was":     {fold(t, two), one, of([]api.Place{at(1, 0, 5)}, did(one, api.Place{}), did(two, at(1, 2, 4)))},
		"like time, lesser who": {fold(t, two), op(2, 0, 1, 3, 3),
			of([]api.Place{at(1, 0, 5)}, did(op(2, 0, 1, 3, 3), api.Place{}), did(two, at(1, 3, 3)))},
		"like time, greater who": {fold(t, two), op(2, 2, 1, 3, 3),
			of([]api.Place{at(1, 3, 3)}, did(two, api.Place{}), did(op(2, 2, 1, 3, 3), at(1, 0, 5)))},
	} {
		if g, e := history.Insert(x.h, x.o); e != api.OK || !alike(g, x.want) {
			t.Errorf("%s: %v, %v, want %v", name, g, e, x.want)
		}
	}
}

func TestInsertRefuses(t *testing.T) {
	refused := func(h api.History, o api.Op, want api.Errno) {
		t.Helper()
		if g, e := history.Insert(h, o); e != want || len(g.L) != 0 || len(g.T.P) != 0 {
			t.Errorf("%v into %v: %v, %v, want %v alone", o, h, g, e, want)
		}
	}
	some, full := fold(t, tangle()...), fold(t, many(api.MaxOps)...)
	for _, o := range wrongOps() {
		refused(api.History{}, o, api.ErrRange)
		refused(some, o, api.ErrRange)
		refused(full, o, api.ErrRange)
	}
	for _, h := range []api.History{some, full} {
		for _, s := range h.L {
			refused(h, s.O, api.ErrTwice)
			refused(h, op(s.O.S.Time, s.O.S.Who, 9, 16, 50), api.ErrTwice)
			refused(h, op(s.O.S.Time, s.O.S.Who, 9, 17, 50), api.ErrRange)
		}
	}
	refused(full, op(api.MaxTime, 0, 1, 0, 0), api.ErrMany)
	refused(full, op(1, 2, 1, 0, 0), api.ErrMany)
}

func TestInsertFillsTheLastPlace(t *testing.T) {
	l := many(api.MaxOps)
	want := fold(t, l...)
	for k, o := range l {
		h := fold(t, slices.Concat(l[:k], l[k+1:])...)
		if g, e := history.Insert(h, o); e != api.OK || !alike(g, want) {
			t.Errorf("number %d comes last: %v, %v", k, g, e)
		}
	}
}

// TestInWhateverOrder: Fold, and Insert one by one, with each history between a good one.
func TestInWhateverOrder(t *testing.T) {
	want := fold(t, tangle()...)
	for _, order := range orders(len(tangle())) {
		l := inOrder(tangle(), order)
		if h := fold(t, l...); !alike(h, want) {
			t.Fatalf("%v: %v, want %v", order, h, want)
		}
		var h api.History
		for _, o := range l {
			var e api.Errno
			if h, e = history.Insert(h, o); e != api.OK || history.Check(h) != api.OK || tree.Check(h.T) != api.OK {
				t.Fatalf("%v: %v comes: %v, %v", order, o, h, e)
			}
		}
		if !alike(h, want) {
			t.Fatalf("%v: %v, want %v", order, h, want)
		}
	}
}

// TestFoldAgainstATable holds Fold, for all triples of operations on three nodes, against parents in an array.
func TestFoldAgainstATable(t *testing.T) {
	parents := []int{0, 1, 2, 3, 16}
	var moves [][2]int
	for node := 1; node <= 3; node++ {
		for _, p := range parents {
			moves = append(moves, [2]int{node, p})
		}
	}
	for _, a := range moves {
		for _, b := range moves {
			for _, c := range moves {
				above := [4]int{-1, -1, -1, -1} // -1: it stands nowhere
				var l []api.Op
				var want []bool
				for k, m := range [][2]int{a, b, c} {
					l = append(l, op(1, k, m[0], m[1], k))
					free := true
					for up := m[1]; free && up >= 1 && up <= 3; up = above[up] {
						free = up != m[0]
					}
					if free {
						above[m[0]] = m[1]
					}
					want = append(want, free)
				}
				h := fold(t, l[2], l[0], l[1])
				for k, s := range h.L {
					if s.O != l[k] || s.Did != want[k] {
						t.Fatalf("%v: step %d is %v, want Did %v", l, k, s, want[k])
					}
				}
				for n := 1; n <= 3; n++ {
					p := tree.Find(h.T, n)
					if (p.Node == 0) != (above[n] < 0) || p.Node != 0 && p.Parent != above[n] {
						t.Fatalf("%v: %d stands at %v, want below %d", l, n, p, above[n])
					}
				}
			}
		}
	}
}

// TestOnlyReads: neither a list that is handed in nor the room behind it changes, and what is answered is not of that memory.
func TestOnlyReads(t *testing.T) {
	ops := slices.Concat(tangle(), many(3))
	slices.Reverse(ops)
	good := fold(t, tangle()...)
	steps := slices.Concat(good.L, make([]api.Step, 3))
	places := slices.Concat(good.T.P, make([]api.Place, 3))
	opsWere, stepsWere, placesWere := slices.Clone(ops), slices.Clone(steps), slices.Clone(places)
	in := api.History{L: steps[:len(good.L)], T: api.Tree{P: places[:len(good.T.P)]}}
	untouched := func(what string, answer api.History) {
		t.Helper()
		stamped := answer.L[:cap(answer.L)]
		for i := range stamped {
			stamped[i] = api.Step{O: api.Op{Node: 1000}}
		}
		placed := answer.T.P[:cap(answer.T.P)]
		for i := range placed {
			placed[i] = at(1000, 1000, 1000)
		}
		if !slices.Equal(ops, opsWere) || !slices.Equal(steps, stepsWere) || !slices.Equal(places, placesWere) {
			t.Fatalf("%s left %v, %v, %v", what, ops, steps, places)
		}
	}
	for n := range ops {
		h, _ := history.Fold(ops[:n])
		untouched("Fold", h)
	}
	for _, o := range []api.Op{op(1, 1, 3, 4, 5), op(10000, 2, 3, 4, 5), tangle()[0], {}} {
		h, _ := history.Insert(in, o)
		untouched("Insert", h)
	}
	history.Check(in)
	untouched("Check", api.History{})
	history.Same(in, in)
	untouched("Same", api.History{})
}
