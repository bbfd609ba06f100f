package delta_test

import (
	"math"
	"slices"
	"testing"

	"orangery/api"
	"orangery/delta"
	"orangery/view"
)

func at(node, parent, name int) api.Place {
	return api.Place{Node: node, Parent: parent, Name: name}
}

// family: 2 and 3 below 1, 4 and 7 below 2, 8 below 7, 1 below the root; 6 below 5, below the bin.
func family() []api.Place {
	return []api.Place{at(1, 0, 5), at(2, 1, 7), at(3, 1, 6), at(4, 2, 0), at(5, 16, 1), at(6, 5, 99), at(7, 2, 0), at(8, 7, 3)}
}

// with answers the family, but those of the given places stand so.
func with(moved ...api.Place) []api.Place {
	l := slices.DeleteFunc(family(), func(p api.Place) bool {
		return slices.ContainsFunc(moved, func(m api.Place) bool { return m.Node == p.Node })
	})
	l = append(l, moved...)
	slices.SortFunc(l, func(a, b api.Place) int { return a.Node - b.Node })
	return l
}

// without answers the family, but the given nodes stand nowhere.
func without(nodes ...int) []api.Place {
	return slices.DeleteFunc(family(), func(p api.Place) bool { return slices.Contains(nodes, p.Node) })
}

// chain of all nodes, each below the next one, the last one below the root; all of a name.
func chain(name int) []api.Place {
	var l []api.Place
	for n := 1; n < api.MaxNode-1; n++ {
		l = append(l, at(n, n+1, name))
	}
	return append(l, at(api.MaxNode-1, 0, name))
}

func nodes(from, to int) []int {
	var l []int
	for n := from; n <= to; n++ {
		l = append(l, n)
	}
	return l
}

func of(t *testing.T, l []api.Place, roots ...int) api.View {
	t.Helper()
	v, e := view.Of(api.Tree{P: l}, roots)
	if e != api.OK {
		t.Fatalf("view of %v and %v: %v", l, roots, e)
	}
	return v
}

// alike holds two deltas against each other without the package's help.
func alike(a, b api.Delta) bool {
	return slices.Equal(a.Gone, b.Gone) && slices.Equal(a.Here, b.Here) && slices.Equal(a.WayGone, b.WayGone) && slices.Equal(a.WayHere, b.WayHere)
}

func noDelta(d api.Delta) bool {
	return alike(d, api.Delta{})
}

func noView(v api.View) bool {
	return view.Same(v, api.View{})
}

type wrongView struct {
	v api.View
	e api.Errno
}

// refusedViews: what chapter 4's Check refuses, by each of its errors.
func refusedViews() map[string]wrongView {
	return map[string]wrongView{
		"roots: many":        {api.View{Roots: []int{0, 1, 2, 3, 4}}, api.ErrMany},
		"roots: who":         {api.View{Roots: []int{17}}, api.ErrWho},
		"roots: twice":       {api.View{Roots: []int{2, 2}}, api.ErrTwice},
		"Known: range":       {api.View{Roots: []int{0}, Known: []api.Place{at(1, 17, 0)}}, api.ErrRange},
		"Known: twice":       {api.View{Roots: []int{0}, Known: []api.Place{at(2, 0, 0), at(1, 0, 0)}}, api.ErrTwice},
		"Known: a ring":      {api.View{Roots: []int{0}, Known: []api.Place{at(1, 1, 0)}}, api.ErrForm},
		"Way: range":         {api.View{Roots: []int{2}, Way: []api.Place{at(16, 0, 0)}}, api.ErrRange},
		"Way: twice":         {api.View{Roots: []int{2}, Way: []api.Place{at(1, 0, 0), at(1, 0, 0)}}, api.ErrTwice},
		"Way: a ring":        {api.View{Roots: []int{2}, Way: []api.Place{at(1, 3, 0), at(3, 1, 0)}}, api.ErrForm},
		"a hole":             {api.View{Roots: []int{1}, Known: []api.Place{at(1, 0, 0), at(3, 2, 0)}}, api.ErrForm},
		"beside the roots":   {api.View{Roots: []int{1}, Known: []api.Place{at(1, 0, 0), at(2, 0, 0)}}, api.ErrForm},
		"very many, no tree": {api.View{Known: make([]api.Place, 100000)}, api.ErrRange},
	}
}

type wrongChange struct {
	gone []int
	here []api.Place
	e    api.Errno
}

// refusedChanges: what goes, and what is here, that may not be of either part of a delta.
func refusedChanges() map[string]wrongChange {
	return map[string]wrongChange{
		"one more goes than may":        {nodes(1, 17), nil, api.ErrMany},
		"one more is here than may":     {nil, append(chain(0), at(16, 0, 0), at(17, 0, 0)), api.ErrMany},
		"very many":                     {make([]int, 100000), make([]api.Place, 100000), api.ErrMany},
		"many go, ahead of who":         {make([]int, 17), nil, api.ErrMany},
		"many are here, ahead of range": {nil, make([]api.Place, 17), api.ErrMany},
		"many are here, ahead of who":   {[]int{0}, make([]api.Place, 17), api.ErrMany},
		"the root goes":                 {[]int{0}, nil, api.ErrWho},
		"the bin goes":                  {[]int{16}, nil, api.ErrWho},
		"as many as may, the last: who": {nodes(1, 16), nil, api.ErrWho},
		"below 0 goes":                  {[]int{-1}, nil, api.ErrWho},
		"least goes":                    {[]int{math.MinInt}, nil, api.ErrWho},
		"greatest goes":                 {[]int{math.MaxInt}, nil, api.ErrWho},
		"who, though it falls, too":     {[]int{3, 0}, nil, api.ErrWho},
		"first one: who":                {[]int{16, 2, 2}, nil, api.ErrWho},
		"second one: twice":             {[]int{2, 2, 16}, nil, api.ErrTwice},
		"goes twice":                    {[]int{15, 15}, nil, api.ErrTwice},
		"goes falling":                  {[]int{2, 1}, nil, api.ErrTwice},
		"above the first alone":         {[]int{1, 7, 5}, nil, api.ErrTwice},
		"who ahead of range":            {[]int{16}, []api.Place{at(0, 0, 0)}, api.ErrWho},
		"twice ahead of range":          {[]int{2, 2}, []api.Place{at(0, 0, 0)}, api.ErrTwice},
		"the root is here":              {nil, []api.Place{at(0, 0, 0)}, api.ErrRange},
		"the bin is here":               {nil, []api.Place{at(16, 0, 0)}, api.ErrRange},
		"as many as may, one: range":    {nil, append(chain(0), at(16, 0, 0)), api.ErrRange},
		"as many as may, one: twice":    {nil, append(chain(0), at(15, 0, 0)), api.ErrTwice},
		"node below 0":                  {nil, []api.Place{at(-1, 0, 0)}, api.ErrRange},
		"parent below 0":                {nil, []api.Place{at(1, -1, 0)}, api.ErrRange},
		"parent above the bin":          {nil, []api.Place{at(1, 17, 0)}, api.ErrRange},
		"name below 0":                  {nil, []api.Place{at(1, 0, -1)}, api.ErrRange},
		"name above the last":           {nil, []api.Place{at(1, 0, 100)}, api.ErrRange},
		"far out":                       {nil, []api.Place{at(math.MaxInt, math.MinInt, math.MaxInt)}, api.ErrRange},
		"range of a later one":          {nil, []api.Place{at(1, 0, 0), at(2, 0, 0), at(3, 0, 100)}, api.ErrRange},
		"range, though it falls, too":   {nil, []api.Place{at(3, 0, 0), at(2, 17, 0)}, api.ErrRange},
		"range, though it goes, too":    {[]int{2}, []api.Place{at(2, 17, 0)}, api.ErrRange},
		"first place: range":            {nil, []api.Place{at(2, 0, 100), at(2, 0, 0)}, api.ErrRange},
		"second place: twice":           {nil, []api.Place{at(2, 0, 0), at(2, 0, 0), at(0, 0, 0)}, api.ErrTwice},
		"here twice":                    {nil, []api.Place{at(3, 0, 0), at(3, 1, 4)}, api.ErrTwice},
		"here falling":                  {nil, []api.Place{at(2, 0, 0), at(1, 0, 0)}, api.ErrTwice},
		"here: above the first alone":   {nil, []api.Place{at(2, 0, 0), at(5, 0, 0), at(4, 0, 0)}, api.ErrTwice},
		"goes and is here":              {[]int{2}, []api.Place{at(2, 0, 0)}, api.ErrTwice},
		"the last goes and is here":     {[]int{2, 3, 15}, []api.Place{at(1, 0, 0), at(15, 0, 0)}, api.ErrTwice},
		"goes, is here, ahead of range": {[]int{2}, []api.Place{at(2, 0, 0), at(3, 17, 0)}, api.ErrTwice},
		"below itself, and goes":        {[]int{2}, []api.Place{at(2, 2, 0)}, api.ErrTwice},
		"many of both, but not of one":  {nodes(1, 15), chain(0), api.ErrTwice},
	}
}

type wrongDelta struct {
	d api.Delta
	e api.Errno
}

// refusedDeltas: each wrong change in each of both parts.
func refusedDeltas() map[string]wrongDelta {
	all := map[string]wrongDelta{}
	for name, x := range refusedChanges() {
		all["Known: "+name] = wrongDelta{api.Delta{Gone: x.gone, Here: x.here, WayGone: []int{5}, WayHere: []api.Place{at(6, 0, 0)}}, x.e}
		all["Way: "+name] = wrongDelta{api.Delta{Gone: []int{5}, Here: []api.Place{at(6, 0, 0)}, WayGone: x.gone, WayHere: x.here}, x.e}
	}
	return all
}

func TestOfAndApply(t *testing.T) {
	for name, x := range map[string]struct {
		from, to []api.Place
		roots    []int
		want     api.Delta
	}{
		"alike":                     {family(), family(), []int{2}, api.Delta{}},
		"nothing to nothing":        {nil, nil, nil, api.Delta{}},
		"no roots":                  {family(), chain(3), nil, api.Delta{}},
		"beside what is seen":       {family(), with(at(3, 0, 9), at(6, 0, 8)), []int{2}, api.Delta{}},
		"another name":              {family(), with(at(4, 2, 1)), []int{2}, api.Delta{Here: []api.Place{at(4, 2, 1)}}},
		"another parent":            {family(), with(at(4, 7, 0)), []int{2}, api.Delta{Here: []api.Place{at(4, 7, 0)}}},
		"out of it":                 {family(), with(at(7, 3, 0)), []int{2}, api.Delta{Gone: []int{7, 8}}},
		"into it":                   {family(), with(at(3, 8, 6)), []int{2}, api.Delta{Here: []api.Place{at(3, 8, 6)}}},
		"some come, some go":        {family(), with(at(3, 4, 6), at(7, 16, 0)), []int{2}, api.Delta{Gone: []int{7, 8}, Here: []api.Place{at(3, 4, 6)}}},
		"stands nowhere now":        {family(), without(4), []int{2}, api.Delta{Gone: []int{4}}},
		"the root itself nowhere":   {family(), without(2), []int{2}, api.Delta{Gone: []int{2}, WayGone: []int{1}}},
		"another name on the way":   {family(), with(at(1, 0, 6)), []int{2}, api.Delta{WayHere: []api.Place{at(1, 0, 6)}}},
		"another way":               {family(), with(at(2, 6, 7)), []int{2}, api.Delta{Here: []api.Place{at(2, 6, 7)}, WayGone: []int{1}, WayHere: []api.Place{at(5, 16, 1), at(6, 5, 99)}}},
		"a longer way":              {family(), with(at(2, 3, 7)), []int{2}, api.Delta{Here: []api.Place{at(2, 3, 7)}, WayHere: []api.Place{at(3, 1, 6)}}},
		"a shorter way":             {family(), with(at(7, 1, 0)), []int{7}, api.Delta{Here: []api.Place{at(7, 1, 0)}, WayGone: []int{2}}},
		"from the way to known":     {family(), with(at(2, 0, 7), at(1, 4, 5)), []int{2}, api.Delta{Here: []api.Place{at(1, 4, 5), at(2, 0, 7), at(3, 1, 6)}, WayGone: []int{1}}},
		"from known to the way":     {with(at(2, 0, 7), at(1, 4, 5)), family(), []int{2}, api.Delta{Gone: []int{1, 3}, Here: []api.Place{at(2, 1, 7)}, WayHere: []api.Place{at(1, 0, 5)}}},
		"two roots":                 {family(), with(at(8, 6, 3)), []int{2, 5}, api.Delta{Here: []api.Place{at(8, 6, 3)}}},
		"all there may be come":     {nil, chain(1), []int{0}, api.Delta{Here: chain(1)}},
		"all there may be go":       {chain(1), nil, []int{0}, api.Delta{Gone: nodes(1, 15)}},
		"all of them change":        {chain(1), chain(2), []int{0}, api.Delta{Here: chain(2)}},
		"all of the way but one":    {chain(1), chain(2), []int{1}, api.Delta{Here: chain(2)[:1], WayHere: chain(2)[1:]}},
		"all of the way but a root": {chain(1), without(1, 2, 3, 4, 5, 6, 7, 8), []int{1}, api.Delta{Gone: []int{1}, WayGone: nodes(2, 15)}},
	} {
		from, to := of(t, x.from, x.roots...), of(t, x.to, x.roots...)
		d, e := delta.Of(from, to)
		if e != api.OK || !alike(d, x.want) {
			t.Errorf("%s: %v, %v, want %v", name, d, e, x.want)
		}
		if e := delta.Check(x.want); e != api.OK {
			t.Errorf("%s: %v: %v, want OK", name, x.want, e)
		}
		if v, e := delta.Apply(from, x.want); e != api.OK || !view.Same(v, to) {
			t.Errorf("%s: applied: %v, %v, want %v", name, v, e, to)
		}
	}
}

func TestOfTakesEmptyLists(t *testing.T) {
	empty := api.View{Roots: []int{}, Known: []api.Place{}, Way: []api.Place{}}
	for _, x := range [][2]api.View{{{}, empty}, {empty, {}}, {empty, empty}} {
		if d, e := delta.Of(x[0], x[1]); e != api.OK || !noDelta(d) {
			t.Errorf("%v, %v, want nothing, OK", d, e)
		}
	}
}

func TestOfRefusesOtherRoots(t *testing.T) {
	for _, x := range [][2][]int{{{2}, {3}}, {{2}, nil}, {nil, {2}}, {{2}, {2, 4}}, {{2, 4}, {2}}, {{0}, {16}}, {{1, 2}, {1, 3}}, {{13}, {14}}, {nil, {0}}} {
		for _, l := range [][]api.Place{family(), nil} {
			if d, e := delta.Of(of(t, l, x[0]...), of(t, l, x[1]...)); e != api.ErrForm || !noDelta(d) {
				t.Errorf("%v: %v, %v, want ErrForm alone", x, d, e)
			}
		}
	}
}

func TestOfRefusesNoViews(t *testing.T) {
	good := of(t, family(), 2)
	for name, x := range refusedViews() {
		if d, e := delta.Of(x.v, good); e != x.e || !noDelta(d) {
			t.Errorf("from: %s: %v, %v, want %v alone", name, d, e, x.e)
		}
		if d, e := delta.Of(good, x.v); e != x.e || !noDelta(d) {
			t.Errorf("to: %s: %v, %v, want %v alone", name, d, e, x.e)
		}
		if d, e := delta.Of(x.v, x.v); e != x.e || !noDelta(d) {
			t.Errorf("both: %s: %v, %v, want %v alone", name, d, e, x.e)
		}
		for second, y := range refusedViews() {
			if d, e := delta.Of(x.v, y.v); e != x.e || !noDelta(d) {
				t.Errorf("%s ahead of %s: %v, %v, want %v alone", name, second, d, e, x.e)
			}
		}
	}
}

func TestCheckTakes(t *testing.T) {
	for name, d := range map[string]api.Delta{
		"nothing":                       {},
		"empty lists":                   {Gone: []int{}, Here: []api.Place{}, WayGone: []int{}, WayHere: []api.Place{}},
		"least of all":                  {Gone: []int{1}, WayHere: []api.Place{at(1, 0, 0)}},
		"greatest of all":               {WayGone: []int{15}, Here: []api.Place{at(15, 16, 99)}},
		"all go":                        {Gone: nodes(1, 15), WayGone: nodes(1, 15)},
		"all are here":                  {Here: chain(0), WayHere: chain(99)},
		"goes, and is on the way":       {Gone: []int{2}, WayHere: []api.Place{at(2, 0, 0)}},
		"goes from the way, and is":     {WayGone: []int{2}, Here: []api.Place{at(2, 0, 0)}},
		"goes from both":                {Gone: []int{2}, WayGone: []int{2}},
		"is in both, unlike":            {Here: []api.Place{at(2, 0, 0)}, WayHere: []api.Place{at(2, 1, 1)}},
		"goes, though what is here not": {Gone: []int{2, 9}, Here: []api.Place{at(1, 0, 0), at(3, 2, 0)}},
		"below itself":                  {Here: []api.Place{at(2, 2, 0)}, WayHere: []api.Place{at(15, 15, 0)}},
		"a ring":                        {Here: []api.Place{at(1, 2, 0), at(2, 1, 0)}},
	} {
		if e := delta.Check(d); e != api.OK {
			t.Errorf("%s: %v, want OK", name, e)
		}
	}
}

func TestCheckRefusesTheRest(t *testing.T) {
	for name, x := range refusedDeltas() {
		if e := delta.Check(x.d); e != x.e {
			t.Errorf("%s: %v, want %v", name, e, x.e)
		}
	}
	for name, x := range refusedChanges() {
		for second, y := range refusedChanges() {
			d := api.Delta{Gone: x.gone, Here: x.here, WayGone: y.gone, WayHere: y.here}
			if e := delta.Check(d); e != x.e {
				t.Errorf("Known: %s, ahead of Way: %s: %v, want %v", name, second, e, x.e)
			}
		}
	}
}

func TestSame(t *testing.T) {
	some := func() api.Delta {
		return api.Delta{Gone: []int{1, 2}, Here: []api.Place{at(3, 0, 0), at(4, 3, 1)}, WayGone: []int{5, 6}, WayHere: []api.Place{at(7, 0, 0), at(8, 7, 1)}}
	}
	if !delta.Same(some(), some()) || !delta.Same(api.Delta{}, api.Delta{Gone: []int{}, Here: []api.Place{}, WayGone: []int{}, WayHere: []api.Place{}}) {
		t.Errorf("like ones are not the same")
	}
	for name, change := range map[string]func(d *api.Delta){
		"Gone: last":        func(d *api.Delta) { d.Gone[1] = math.MinInt },
		"Gone: order":       func(d *api.Delta) { slices.Reverse(d.Gone) },
		"Gone: one more":    func(d *api.Delta) { d.Gone = append(d.Gone, 0) },
		"Gone: none":        func(d *api.Delta) { d.Gone = nil },
		"Here: node":        func(d *api.Delta) { d.Here[0].Node = 99 },
		"Here: parent":      func(d *api.Delta) { d.Here[1].Parent = -7 },
		"Here: name":        func(d *api.Delta) { d.Here[1].Name = math.MaxInt },
		"Here: order":       func(d *api.Delta) { slices.Reverse(d.Here) },
		"Here: one less":    func(d *api.Delta) { d.Here = d.Here[:1] },
		"Here: none":        func(d *api.Delta) { d.Here = nil },
		"WayGone: first":    func(d *api.Delta) { d.WayGone[0] = 0 },
		"WayGone: one less": func(d *api.Delta) { d.WayGone = d.WayGone[:1] },
		"WayGone: none":     func(d *api.Delta) { d.WayGone = nil },
		"WayHere: node":     func(d *api.Delta) { d.WayHere[1].Node = 0 },
		"WayHere: parent":   func(d *api.Delta) { d.WayHere[0].Parent++ },
		"WayHere: name":     func(d *api.Delta) { d.WayHere[1].Name-- },
		"WayHere: one more": func(d *api.Delta) { d.WayHere = append(d.WayHere, api.Place{}) },
		"WayHere: none":     func(d *api.Delta) { d.WayHere = nil },
		"what goes swapped": func(d *api.Delta) { d.Gone, d.WayGone = d.WayGone, d.Gone },
		"what is swapped":   func(d *api.Delta) { d.Here, d.WayHere = d.WayHere, d.Here },
		"from Way over":     func(d *api.Delta) { d.Gone, d.WayGone = append(d.Gone, d.WayGone...), nil },
	} {
		a, b := some(), some()
		change(&a)
		if delta.Same(a, some()) || delta.Same(some(), a) {
			t.Errorf("%s: the same, though it changed", name)
		}
		// Two that are no deltas may be the same all the same.
		change(&b)
		if !delta.Same(a, b) {
			t.Errorf("%s: not the same, though both changed alike", name)
		}
	}
}

// TestApplyOthers: deltas that Of makes of no two views, or of two others, but they lead to a view all the same.
func TestApplyOthers(t *testing.T) {
	for name, x := range map[string]struct {
		d    api.Delta
		want []api.Place
	}{
		"nothing":                     {api.Delta{}, family()},
		"goes, but isn't there":       {api.Delta{Gone: []int{3, 9, 15}, WayGone: []int{2, 4, 12}}, family()},
		"all but one isn't there":     {api.Delta{Gone: []int{1, 3, 4, 5, 6, 9, 10, 11, 12, 13, 14, 15}}, without(4)},
		"stands so already":           {api.Delta{Here: []api.Place{at(2, 1, 7), at(8, 7, 3)}, WayHere: []api.Place{at(1, 0, 5)}}, family()},
		"the way's end goes":          {api.Delta{WayGone: []int{1}}, without(1)},
		"the way grows":               {api.Delta{WayHere: []api.Place{at(1, 9, 5), at(9, 0, 1)}}, with(at(1, 9, 5), at(9, 0, 1))},
		"new ones, by node":           {api.Delta{Here: []api.Place{at(3, 2, 1), at(9, 3, 1)}}, with(at(3, 2, 1), at(9, 3, 1))},
		"new ones ahead and between":  {api.Delta{Here: []api.Place{at(5, 2, 1), at(6, 5, 1)}}, with(at(5, 2, 1), at(6, 5, 1))},
		"all goes":                    {api.Delta{Gone: []int{2, 4, 7, 8}, WayGone: []int{1}}, nil},
		"as much as may goes and is":  {api.Delta{Gone: append(nodes(1, 1), nodes(3, 15)...), Here: []api.Place{at(2, 0, 0)}, WayGone: nodes(1, 15)}, []api.Place{at(2, 0, 0)}},
		"from the one to the other":   {api.Delta{Here: []api.Place{at(1, 2, 5), at(2, 0, 7)}, WayGone: []int{1}}, []api.Place{at(1, 2, 5), at(2, 0, 7), at(4, 2, 0), at(7, 2, 0), at(8, 7, 3)}},
		"below the bin from now on":   {api.Delta{Here: []api.Place{at(2, 16, 99)}, WayGone: []int{1}}, with(at(2, 16, 99))},
		"only a root that is nowhere": {api.Delta{Gone: []int{2}, WayGone: []int{1}}, without(2)},
	} {
		want := of(t, x.want, 2)
		if v, e := delta.Apply(of(t, family(), 2), x.d); e != api.OK || !view.Same(v, want) {
			t.Errorf("%s: %v, %v, want %v", name, v, e, want)
		}
	}
}

// TestApplyRefusesWhatIsNoView: the view is right, and the delta, but not what they make.
func TestApplyRefusesWhatIsNoView(t *testing.T) {
	for name, d := range map[string]api.Delta{
		"a hole":                         {Gone: []int{7}},
		"the root goes, not its way":     {Gone: []int{2}},
		"beside the root":                {Here: []api.Place{at(3, 1, 6)}},
		"beside the way":                 {WayHere: []api.Place{at(3, 1, 6)}},
		"the way leads elsewhere":        {Here: []api.Place{at(2, 3, 7)}},
		"another way, and the elder one": {Here: []api.Place{at(2, 3, 7)}, WayHere: []api.Place{at(3, 0, 6)}},
		"below itself":                   {Here: []api.Place{at(4, 4, 0)}},
		"the way below itself":           {WayHere: []api.Place{at(1, 1, 0)}},
		"a ring in Known":                {Here: []api.Place{at(7, 8, 0)}},
		"a ring through both":            {WayHere: []api.Place{at(1, 8, 5)}},
		"in both, alike":                 {WayHere: []api.Place{at(2, 1, 7)}},
		"in both, of the way":            {Here: []api.Place{at(1, 0, 5)}},
		"from Known to Way":              {Gone: []int{4}, WayHere: []api.Place{at(4, 2, 0)}},
		"from Way to Known":              {Here: []api.Place{at(1, 0, 5)}, WayGone: []int{1}},
		"out of it, but not gone":        {Here: []api.Place{at(4, 1, 0)}},
	} {
		if e := delta.Check(d); e != api.OK {
			t.Errorf("%s: %v, want a delta that may be", name, e)
		}
		if v, e := delta.Apply(of(t, family(), 2), d); e != api.ErrForm || !noView(v) {
			t.Errorf("%s: %v, %v, want ErrForm alone", name, v, e)
		}
	}
}

func TestApplyRefusesWrongInputs(t *testing.T) {
	refused := func(name string, v api.View, d api.Delta, want api.Errno) {
		t.Helper()
		if w, e := delta.Apply(v, d); e != want || !noView(w) {
			t.Errorf("%s: %v, %v, want %v alone", name, w, e, want)
		}
	}
	for name, x := range refusedDeltas() {
		refused(name, of(t, family(), 2), x.d, x.e)
		refused(name+", of nothing", api.View{}, x.d, x.e)
	}
	for name, x := range refusedViews() {
		refused(name, x.v, api.Delta{}, x.e)
		// A delta can't mend what is no view.
		refused(name+", all goes", x.v, api.Delta{Gone: nodes(1, 15), WayGone: nodes(1, 15)}, x.e)
		for second, y := range refusedDeltas() {
			refused(name+", ahead of "+second, x.v, y.d, x.e)
		}
	}
}

// rootsToTry: those that stand, that may stand nowhere, and the root and the bin.
func rootsToTry() [][]int {
	return [][]int{nil, {0}, {16}, {1}, {2}, {3}, {5}, {1, 2}, {2, 3}, {0, 5}, {1, 3, 16}, {0, 1, 2, 3}}
}

// smallViews: all that is seen by these roots of three nodes, each once.
func smallViews(t *testing.T, roots []int) []api.View {
	parents := []int{-1, 0, 1, 2, 3, 16} // -1: it stands nowhere
	var l []api.View
	for k := range 6 * 6 * 6 {
		var x api.Tree
		for n, rest := 1, k; n <= 3; n, rest = n+1, rest/6 {
			if p := parents[rest%6]; p >= 0 {
				x.P = append(x.P, at(n, p, (n+k)%2))
			}
		}
		v, e := view.Of(x, roots)
		if e == api.OK && !slices.ContainsFunc(l, func(w api.View) bool { return view.Same(v, w) }) {
			l = append(l, v)
		}
	}
	if len(l) == 0 {
		t.Fatalf("%v: no view", roots)
	}
	return l
}

// TestOfAgainstATable holds Of, for all pairs of small views, against where each node is in each of them; and what it makes leads from the one to the other.
func TestOfAgainstATable(t *testing.T) {
	for _, roots := range rootsToTry() {
		l := smallViews(t, roots)
		for _, from := range l {
			for _, to := range l {
				var want api.Delta
				want.Gone, want.Here = expected(from.Known, to.Known)
				want.WayGone, want.WayHere = expected(from.Way, to.Way)
				d, e := delta.Of(from, to)
				if e != api.OK || !alike(d, want) || delta.Check(d) != api.OK {
					t.Fatalf("%v to %v: %v, %v, want %v", from, to, d, e, want)
				}
				if v, e := delta.Apply(from, d); e != api.OK || !view.Same(v, to) {
					t.Fatalf("%v, applied to %v: %v, %v, want %v", d, from, v, e, to)
				}
			}
		}
	}
}

// expected looks at nodes one by one; a place of Node 0: none.
func expected(before, after []api.Place) (gone []int, here []api.Place) {
	var was, is [api.MaxNode]api.Place
	for _, p := range before {
		was[p.Node] = p
	}
	for _, p := range after {
		is[p.Node] = p
	}
	for n := range was {
		switch {
		case is[n] == was[n]:
		case is[n].Node == 0:
			gone = append(gone, n)
		default:
			here = append(here, is[n])
		}
	}
	return gone, here
}

// TestApplyAgainstATable holds Apply, for small views and all that may be told of two nodes, against lists written node by node.
func TestApplyAgainstATable(t *testing.T) {
	const left, goes = -2, -1 // others: the parent below which it is here
	told := []int{left, goes, 0, 1, 2, 3}
	for _, roots := range [][]int{nil, {1}, {2}, {0, 2}} {
		for k, v := range smallViews(t, roots) {
			if k%3 != 0 { // a third of them will do
				continue
			}
			for x := range 6 * 6 * 6 * 6 {
				var d api.Delta
				lists := [2][api.MaxNode]api.Place{}
				for _, p := range v.Known {
					lists[0][p.Node] = p
				}
				for _, p := range v.Way {
					lists[1][p.Node] = p
				}
				for n, rest := 0, x; n < 4; n, rest = n+1, rest/6 {
					part, node, parent := n/2, n%2+1, told[rest%6]
					gone, here := []*[]int{&d.Gone, &d.WayGone}[part], []*[]api.Place{&d.Here, &d.WayHere}[part]
					switch parent {
					case left:
					case goes:
						*gone = append(*gone, node)
						lists[part][node] = api.Place{}
					default:
						*here = append(*here, at(node, parent, 9))
						lists[part][node] = at(node, parent, 9)
					}
				}
				want := api.View{Roots: v.Roots, Known: standing(lists[0]), Way: standing(lists[1])}
				we := view.Check(want)
				if we != api.OK {
					want = api.View{}
				}
				if w, e := delta.Apply(v, d); e != we || !view.Same(w, want) {
					t.Fatalf("%v, applied to %v: %v, %v, want %v, %v", d, v, w, e, want, we)
				}
			}
		}
	}
}

func standing(list [api.MaxNode]api.Place) []api.Place {
	return slices.DeleteFunc(list[:], func(p api.Place) bool { return p.Node == 0 })
}

// roomy answers v with spare room behind each list, and a look at whether lists and room are as they were.
func roomy(v api.View) (api.View, func() bool) {
	roots := slices.Concat(v.Roots, []int{70, 80, 90})
	known := slices.Concat(v.Known, []api.Place{at(70, 70, 70), at(80, 80, 80)})
	way := slices.Concat(v.Way, []api.Place{at(90, 90, 90), at(91, 91, 91)})
	rootsWere, knownWas, wayWas := slices.Clone(roots), slices.Clone(known), slices.Clone(way)
	in := api.View{Roots: roots[:len(v.Roots)], Known: known[:len(v.Known)], Way: way[:len(v.Way)]}
	return in, func() bool {
		return slices.Equal(roots, rootsWere) && slices.Equal(known, knownWas) && slices.Equal(way, wayWas)
	}
}

// roomyDelta does the same of a delta.
func roomyDelta(d api.Delta) (api.Delta, func() bool) {
	gone, wayGone := slices.Concat(d.Gone, []int{70, 80, 90}), slices.Concat(d.WayGone, []int{71, 81, 91})
	here, wayHere := slices.Concat(d.Here, []api.Place{at(70, 70, 70), at(80, 80, 80)}), slices.Concat(d.WayHere, []api.Place{at(90, 90, 90)})
	was := api.Delta{Gone: slices.Clone(gone), Here: slices.Clone(here), WayGone: slices.Clone(wayGone), WayHere: slices.Clone(wayHere)}
	in := api.Delta{Gone: gone[:len(d.Gone)], Here: here[:len(d.Here)], WayGone: wayGone[:len(d.WayGone)], WayHere: wayHere[:len(d.WayHere)]}
	return in, func() bool {
		return alike(was, api.Delta{Gone: gone, Here: here, WayGone: wayGone, WayHere: wayHere})
	}
}

// fill writes over a whole list, and all room behind it.
func fill[T any](l []T, x T) {
	l = l[:cap(l)]
	for i := range l {
		l[i] = x
	}
}

// TestOnlyReads: neither a list that is handed in nor the room behind it changes, what is answered is not of that memory, and no two lists of it share any.
func TestOnlyReads(t *testing.T) {
	from, fromStays := roomy(of(t, family(), 2))
	for name, l := range map[string][]api.Place{
		"alike":      family(),
		"nothing":    nil,
		"more":       with(at(3, 2, 1), at(9, 3, 1), at(1, 5, 5)),
		"less":       without(1, 8),
		"all of it":  with(at(2, 6, 7), at(4, 2, 9), at(7, 3, 0)),
		"other ways": with(at(2, 0, 7), at(1, 4, 5)),
	} {
		to, toStays := roomy(of(t, l, 2))
		made, e := delta.Of(from, to)
		want, _ := delta.Of(from, to)
		if e != api.OK || !fromStays() || !toStays() {
			t.Fatalf("%s: Of: %v, or it left %v, %v", name, e, from, to)
		}
		d, deltaStays := roomyDelta(made)
		delta.Check(d)
		delta.Same(d, d)
		v, e := delta.Apply(from, d)
		if e != api.OK || !view.Same(v, to) || !fromStays() || !deltaStays() {
			t.Fatalf("%s: Apply: %v, or it left %v, %v", name, e, from, d)
		}
		overwriteDelta(t, made, want)
		overwriteView(t, v, to)
		if !fromStays() || !toStays() || !deltaStays() {
			t.Fatalf("%s: writing over an answer left %v, %v, %v", name, from, to, d)
		}
	}
	// A delta that leads to no view changes nothing either.
	d, deltaStays := roomyDelta(api.Delta{Gone: []int{2, 7}, Here: []api.Place{at(1, 1, 1)}, WayHere: []api.Place{at(3, 3, 3)}})
	if _, e := delta.Apply(from, d); e != api.ErrForm || !fromStays() || !deltaStays() {
		t.Fatalf("Apply: %v, or it left %v, %v", e, from, d)
	}
}

// overwriteDelta fills one list after the other, and looks whether those that aren't filled as yet stay.
func overwriteDelta(t *testing.T, d, want api.Delta) {
	t.Helper()
	fill(d.Gone, 1000)
	if !slices.Equal(d.WayGone, want.WayGone) {
		t.Fatalf("WayGone shares memory with Gone")
	}
	fill(d.Here, at(1000, 1000, 1000))
	if !slices.Equal(d.WayHere, want.WayHere) {
		t.Fatalf("WayHere shares memory with Here")
	}
	copy(d.Gone, want.Gone)
	copy(d.Here, want.Here)
	fill(d.WayGone, 2000)
	fill(d.WayHere, at(2000, 2000, 2000))
	if !slices.Equal(d.Gone, want.Gone) || !slices.Equal(d.Here, want.Here) {
		t.Fatalf("the lists of Known share memory with those of Way")
	}
}

func overwriteView(t *testing.T, v, want api.View) {
	t.Helper()
	fill(v.Roots, 1000)
	fill(v.Known, at(1000, 1000, 1000))
	if !slices.Equal(v.Way, want.Way) {
		t.Fatalf("Way shares memory with Known")
	}
	copy(v.Known, want.Known)
	fill(v.Way, at(2000, 2000, 2000))
	if !slices.Equal(v.Known, want.Known) {
		t.Fatalf("Known shares memory with Way")
	}
}

// TestSharedMemoryIn: lists that are handed in may share memory with each other.
func TestSharedMemoryIn(t *testing.T) {
	v := of(t, family(), 2)
	if d, e := delta.Of(v, v); e != api.OK || !noDelta(d) {
		t.Errorf("a view and itself: %v, %v, want nothing, OK", d, e)
	}
	all := api.View{Roots: []int{0}, Known: chain(1)}
	w, e := delta.Apply(all, api.Delta{Here: all.Known})
	if e != api.OK || !view.Same(w, all) {
		t.Fatalf("its own places: %v, %v, want %v", w, e, all)
	}
	fill(w.Known, at(1000, 1000, 1000))
	if !slices.Equal(all.Known, chain(1)) {
		t.Errorf("writing over an answer left %v", all.Known)
	}
}
