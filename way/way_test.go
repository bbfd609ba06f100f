package way_test

import (
	"fmt"
	"math"
	"slices"
	"strconv"
	"testing"

	"orangery/api"
	"orangery/way"
)

func at(node, parent, name int) api.Place {
	return api.Place{Node: node, Parent: parent, Name: name}
}

// op of client who, whose other fields differ from each other.
func op(who int) api.Op {
	return api.Op{S: api.Stamp{Time: 40, Who: who}, Node: 5, Parent: 3, Name: 8, Life: 2, Seq: 4}
}

// opMail, viewMail and deltaMail are ordinary mail of each kind: no two of their numbers are alike.
func opMail() api.Mail {
	return api.Mail{Kind: api.MOp, Who: 1, O: op(1)}
}

func viewMail() api.Mail {
	return api.Mail{Kind: api.MView, Who: 0, Life: 4, Seq: 6, Time: 70, Version: 9, V: someView()}
}

func deltaMail() api.Mail {
	return api.Mail{Kind: api.MDelta, Who: 2, Life: 5, Seq: 7, Time: 80, Version: 12, From: 10, D: someDelta()}
}

func someView() api.View {
	return api.View{Roots: []int{2, 9}, Known: []api.Place{at(2, 1, 7), at(4, 2, 3)}, Way: []api.Place{at(1, 0, 5)}}
}

func someDelta() api.Delta {
	return api.Delta{Gone: []int{4, 6}, Here: []api.Place{at(2, 3, 7)}, WayGone: []int{1}, WayHere: []api.Place{at(3, 16, 2), at(8, 3, 1)}}
}

// with answers m, but for one change.
func with(m api.Mail, change func(m *api.Mail)) api.Mail {
	change(&m)
	return m
}

// text tells all fields, and makes no difference of lists that are nil and ones that are empty.
func text(x any) string {
	return fmt.Sprint(x)
}

func noMail(l []api.Mail, m api.Mail) bool {
	return l == nil && text(m) == text(api.Mail{})
}

// row answers so many mails, of each kind in turn, each of another Time.
func row(n int) []api.Mail {
	var l []api.Mail
	for k := range n {
		m := []api.Mail{opMail(), viewMail(), deltaMail()}[k%3]
		if m.Kind == api.MOp {
			m.O.S.Time = 100 + k
		} else {
			m.Time = 100 + k
		}
		l = append(l, m)
	}
	return l
}

// numbers are fields that both kinds of the hub's mail have, and their ends.
func numbers() map[string]struct {
	set             func(m *api.Mail, n int)
	least, greatest int
} {
	return map[string]struct {
		set             func(m *api.Mail, n int)
		least, greatest int
	}{
		"Life":    {func(m *api.Mail, n int) { m.Life = n }, 1, 50},
		"Seq":     {func(m *api.Mail, n int) { m.Seq = n }, 0, 30},
		"Time":    {func(m *api.Mail, n int) { m.Time = n }, 0, 10000},
		"Version": {func(m *api.Mail, n int) { m.Version = n }, 1, 60},
	}
}

// good is mail that Check takes.
func good() map[string]api.Mail {
	all := map[string]api.Mail{
		"an operation": opMail(),
		"a view":       viewMail(),
		"a delta":      deltaMail(),
		"an operation, its lists empty": with(opMail(), func(m *api.Mail) {
			m.V = api.View{Roots: []int{}, Known: []api.Place{}, Way: []api.Place{}}
			m.D = api.Delta{Gone: []int{}, Here: []api.Place{}, WayGone: []int{}, WayHere: []api.Place{}}
		}),
		"a view, a delta's lists empty": with(viewMail(), func(m *api.Mail) {
			m.D = api.Delta{Gone: []int{}, Here: []api.Place{}, WayGone: []int{}, WayHere: []api.Place{}}
		}),
		"a delta, a view's lists empty": with(deltaMail(), func(m *api.Mail) {
			m.V = api.View{Roots: []int{}, Known: []api.Place{}, Way: []api.Place{}}
		}),
		"a view of nothing":        with(viewMail(), func(m *api.Mail) { m.V = api.View{} }),
		"a delta of nothing":       with(deltaMail(), func(m *api.Mail) { m.D = api.Delta{} }),
		"a delta to no view":       with(deltaMail(), func(m *api.Mail) { m.D = api.Delta{Here: []api.Place{at(1, 2, 0), at(2, 1, 0)}} }),
		"least of all operations":  {Kind: api.MOp, O: api.Op{S: api.Stamp{Time: 1}, Node: 1, Life: 1, Seq: 1}},
		"greatest of all of these": {Kind: api.MOp, Who: 2, O: api.Op{S: api.Stamp{Time: 10000, Who: 2}, Node: 15, Parent: 16, Name: 99, Life: 50, Seq: 30}},
		"least of all views":       {Kind: api.MView, Life: 1, Version: 1},
		"greatest of all views":    {Kind: api.MView, Who: 2, Life: 50, Seq: 30, Time: 10000, Version: 60},
		"least of all deltas":      {Kind: api.MDelta, Life: 1, Version: 1},
		"greatest of all deltas":   {Kind: api.MDelta, Who: 2, Life: 50, Seq: 30, Time: 10000, Version: 60, From: 59},
	}
	for who := range 3 {
		all["an operation of "+strconv.Itoa(who)] = api.Mail{Kind: api.MOp, Who: who, O: op(who)}
		all["a view to "+strconv.Itoa(who)] = with(viewMail(), func(m *api.Mail) { m.Who = who })
		all["a delta to "+strconv.Itoa(who)] = with(deltaMail(), func(m *api.Mail) { m.Who = who })
	}
	for name, x := range numbers() {
		for _, n := range []int{x.least, x.least + 1, x.greatest - 1, x.greatest} {
			what := name + " " + strconv.Itoa(n)
			all["a view: "+what] = with(viewMail(), func(m *api.Mail) { x.set(m, n) })
			all["a delta: "+what] = with(deltaMail(), func(m *api.Mail) { m.From = 0; x.set(m, n) })
		}
	}
	for _, n := range []int{0, 1, 10, 11} { // up to one below Version
		all["a delta: From "+strconv.Itoa(n)] = with(deltaMail(), func(m *api.Mail) { m.From = n })
	}
	return all
}

type wrongMail struct {
	m api.Mail
	e api.Errno
}

// refused is mail that Check refuses.
func refused() map[string]wrongMail {
	all := map[string]wrongMail{"zero": {api.Mail{}, api.ErrForm}}
	refusedHeads(all)
	refusedUses(all)
	refusedOps(all)
	refusedNumbers(all)
	refusedParts(all)
	return all
}

// refusedHeads: kinds that there aren't, and clients.
func refusedHeads(all map[string]wrongMail) {
	for name, m := range map[string]api.Mail{"an operation": opMail(), "a view": viewMail(), "a delta": deltaMail()} {
		for _, kind := range []int{-1, 0, 4, 5, math.MinInt, math.MaxInt} {
			what := name + ", Kind " + strconv.Itoa(kind)
			all[what] = wrongMail{with(m, func(m *api.Mail) { m.Kind = kind }), api.ErrForm}
			all[what+", ahead of Who"] = wrongMail{with(m, func(m *api.Mail) { m.Kind = kind; m.Who = 3 }), api.ErrForm}
		}
		for _, who := range []int{-2, -1, 3, 4, math.MinInt, math.MaxInt} {
			what := name + ", Who " + strconv.Itoa(who)
			all[what] = wrongMail{with(m, func(m *api.Mail) { m.Who = who }), api.ErrWho}
			all[what+", its operation's, too"] = wrongMail{with(m, func(m *api.Mail) { m.Who = who; m.O = op(who) }), api.ErrWho}
			all[what+", ahead of what it has no use for"] = wrongMail{with(m, func(m *api.Mail) { m.Who = who; m.Life, m.From, m.O.Node = -1, -1, -1 }), api.ErrWho}
		}
	}
}

// fields sets one thing after the other that isn't zero.
func fields() map[string]func(m *api.Mail) {
	return map[string]func(m *api.Mail){
		"Life":        func(m *api.Mail) { m.Life = 1 },
		"Life below":  func(m *api.Mail) { m.Life = -1 },
		"Seq":         func(m *api.Mail) { m.Seq = 1 },
		"Seq below":   func(m *api.Mail) { m.Seq = math.MinInt },
		"Time":        func(m *api.Mail) { m.Time = 1 },
		"Time far":    func(m *api.Mail) { m.Time = math.MaxInt },
		"Version":     func(m *api.Mail) { m.Version = 1 },
		"Version far": func(m *api.Mail) { m.Version = 61 },
		"From":        func(m *api.Mail) { m.From = 1 },
		"From below":  func(m *api.Mail) { m.From = -1 },
		"O":           func(m *api.Mail) { m.O = op(m.Who) },
		"O: Time":     func(m *api.Mail) { m.O.S.Time = 1 },
		"O: Who":      func(m *api.Mail) { m.O.S.Who = 1 },
		"O: Node":     func(m *api.Mail) { m.O.Node = 1 },
		"O: Parent":   func(m *api.Mail) { m.O.Parent = 1 },
		"O: Name":     func(m *api.Mail) { m.O.Name = 1 },
		"O: Life":     func(m *api.Mail) { m.O.Life = -1 },
		"O: Seq":      func(m *api.Mail) { m.O.Seq = 1 },
		"V":           func(m *api.Mail) { m.V = someView() },
		"V: Roots":    func(m *api.Mail) { m.V.Roots = []int{0} },
		"V: Known":    func(m *api.Mail) { m.V.Known = []api.Place{{}} },
		"V: Way":      func(m *api.Mail) { m.V.Way = []api.Place{{}} },
		"D":           func(m *api.Mail) { m.D = someDelta() },
		"D: Gone":     func(m *api.Mail) { m.D.Gone = []int{0} },
		"D: Here":     func(m *api.Mail) { m.D.Here = []api.Place{{}} },
		"D: WayGone":  func(m *api.Mail) { m.D.WayGone = []int{4} },
		"D: WayHere":  func(m *api.Mail) { m.D.WayHere = []api.Place{at(1, 0, 0)} },
		"V: too many": func(m *api.Mail) { m.V.Roots = make([]int, 1000) },
		"D: too many": func(m *api.Mail) { m.D.Gone = make([]int, 1000) },
	}
}

// uses tells what mail of a kind has a use for, by how the names of fields begin.
func uses(kind int, field string) bool {
	begins := map[int][]string{
		api.MOp:    {"O"},
		api.MView:  {"Life", "Seq", "Time", "Version", "V:", "V"},
		api.MDelta: {"Life", "Seq", "Time", "Version", "From", "D:", "D"},
	}
	word := field
	for k, c := range field {
		if c == ' ' || c == ':' {
			word = field[:k]
			break
		}
	}
	return slices.Contains(begins[kind], word)
}

// refusedUses: what mail of a kind has no use for, one at a time, and ahead of what is wrong with the rest.
func refusedUses(all map[string]wrongMail) {
	for kind, m := range map[int]api.Mail{api.MOp: opMail(), api.MView: viewMail(), api.MDelta: deltaMail()} {
		for name, set := range fields() {
			if uses(kind, name) {
				continue
			}
			what := "kind " + strconv.Itoa(kind) + " has no use for " + name
			all[what] = wrongMail{with(m, set), api.ErrForm}
			switch kind {
			case api.MOp:
				all[what+", ahead of the operation"] = wrongMail{with(m, func(m *api.Mail) { m.O.Node = 16; set(m) }), api.ErrForm}
			default:
				all[what+", ahead of Life"] = wrongMail{with(m, func(m *api.Mail) { m.Life = 0; set(m) }), api.ErrForm}
				all[what+", ahead of Version"] = wrongMail{with(m, func(m *api.Mail) { m.Version = 0; set(m) }), api.ErrForm}
			}
		}
	}
	all["a view's From, ahead of V"] = wrongMail{with(viewMail(), func(m *api.Mail) { m.From = 1; m.V.Roots = []int{17} }), api.ErrForm}
	all["a delta's V, ahead of D"] = wrongMail{with(deltaMail(), func(m *api.Mail) { m.V = someView(); m.D.Gone = []int{0} }), api.ErrForm}
	all["a delta's V that is none"] = wrongMail{with(deltaMail(), func(m *api.Mail) { m.V.Roots = []int{17} }), api.ErrForm}
}

// refusedOps: operations of another one, and ones that chapter 2's Check refuses.
func refusedOps(all map[string]wrongMail) {
	for who := range 3 {
		for _, other := range []int{-1, 0, 1, 2, 3, math.MinInt, math.MaxInt} {
			if other != who {
				what := "an operation of " + strconv.Itoa(other) + ", told by " + strconv.Itoa(who)
				all[what] = wrongMail{api.Mail{Kind: api.MOp, Who: who, O: op(other)}, api.ErrForm}
				all[what+", and out of range"] = wrongMail{with(api.Mail{Kind: api.MOp, Who: who, O: op(other)}, func(m *api.Mail) { m.O.S.Time = 0 }), api.ErrForm}
			}
		}
	}
	for name, x := range map[string]struct {
		set             func(o *api.Op, n int)
		least, greatest int
	}{
		"Time":   {func(o *api.Op, n int) { o.S.Time = n }, 1, 10000},
		"Node":   {func(o *api.Op, n int) { o.Node = n }, 1, 15},
		"Parent": {func(o *api.Op, n int) { o.Parent = n }, 0, 16},
		"Name":   {func(o *api.Op, n int) { o.Name = n }, 0, 99},
		"Life":   {func(o *api.Op, n int) { o.Life = n }, 1, 50},
		"Seq":    {func(o *api.Op, n int) { o.Seq = n }, 1, 30},
	} {
		for _, n := range []int{x.least - 1, x.greatest + 1, math.MinInt, math.MaxInt} {
			all["an operation: "+name+" "+strconv.Itoa(n)] = wrongMail{with(opMail(), func(m *api.Mail) { x.set(&m.O, n) }), api.ErrRange}
		}
	}
	all["no operation"] = wrongMail{api.Mail{Kind: api.MOp}, api.ErrRange}
	all["no operation, of a client"] = wrongMail{api.Mail{Kind: api.MOp, Who: 1}, api.ErrForm}
}

// refusedNumbers: each just outside, and ahead of what is wrong with V or D.
func refusedNumbers(all map[string]wrongMail) {
	outside := func(what string, set func(m *api.Mail)) {
		all["a delta: "+what] = wrongMail{with(deltaMail(), set), api.ErrRange}
		all["a delta: "+what+", ahead of D"] = wrongMail{with(deltaMail(), func(m *api.Mail) { m.D.Gone = []int{0}; set(m) }), api.ErrRange}
	}
	for name, x := range numbers() {
		for _, n := range []int{x.least - 1, x.greatest + 1, math.MinInt, math.MaxInt} {
			what := name + " " + strconv.Itoa(n)
			set := func(m *api.Mail) { x.set(m, n) }
			outside(what, set)
			all["a view: "+what] = wrongMail{with(viewMail(), set), api.ErrRange}
			all["a view: "+what+", ahead of V"] = wrongMail{with(viewMail(), func(m *api.Mail) { m.V.Roots = []int{17}; set(m) }), api.ErrRange}
		}
	}
	for _, n := range []int{math.MinInt, -1, 12, 13, 60, math.MaxInt} { // Version is 12
		outside("From "+strconv.Itoa(n), func(m *api.Mail) { m.From = n })
	}
	outside("From at the first Version", func(m *api.Mail) { m.Version, m.From = 1, 1 })
	outside("From at the last Version", func(m *api.Mail) { m.Version, m.From = 60, 60 })
	outside("From below Version, below both", func(m *api.Mail) { m.Version, m.From = math.MinInt, math.MaxInt })
	outside("From below Version, that is too great", func(m *api.Mail) { m.Version, m.From = 61, 60 })
	all["a view of nothing at Version 0"] = wrongMail{api.Mail{Kind: api.MView, Life: 1}, api.ErrRange}
	all["a delta of nothing at Version 0"] = wrongMail{api.Mail{Kind: api.MDelta, Life: 1}, api.ErrRange}
}

// refusedParts: views that chapter 4's Check refuses, and deltas that chapter 5's does, by each of their errors.
func refusedParts(all map[string]wrongMail) {
	for name, x := range map[string]struct {
		v api.View
		e api.Errno
	}{
		"many roots":        {api.View{Roots: []int{0, 1, 2, 3, 4}}, api.ErrMany},
		"a root: who":       {api.View{Roots: []int{17}}, api.ErrWho},
		"a root twice":      {api.View{Roots: []int{2, 2}}, api.ErrTwice},
		"Known: range":      {api.View{Roots: []int{0}, Known: []api.Place{at(1, 17, 0)}}, api.ErrRange},
		"Known: twice":      {api.View{Roots: []int{0}, Known: []api.Place{at(2, 0, 0), at(1, 0, 0)}}, api.ErrTwice},
		"Known: a ring":     {api.View{Roots: []int{0}, Known: []api.Place{at(1, 1, 0)}}, api.ErrForm},
		"Way: range":        {api.View{Roots: []int{2}, Way: []api.Place{at(16, 0, 0)}}, api.ErrRange},
		"Way: twice":        {api.View{Roots: []int{2}, Way: []api.Place{at(1, 0, 0), at(1, 0, 0)}}, api.ErrTwice},
		"a ring of both":    {api.View{Roots: []int{2}, Known: []api.Place{at(2, 1, 0)}, Way: []api.Place{at(1, 2, 0)}}, api.ErrForm},
		"beside the roots":  {api.View{Roots: []int{1}, Known: []api.Place{at(1, 0, 0), at(2, 0, 0)}}, api.ErrForm},
		"a way to nowhere":  {api.View{Roots: []int{2}, Known: []api.Place{at(2, 1, 0)}, Way: []api.Place{at(3, 0, 0)}}, api.ErrForm},
		"very many of each": {api.View{Known: make([]api.Place, 1000), Way: make([]api.Place, 1000)}, api.ErrRange},
	} {
		all["a view: "+name] = wrongMail{with(viewMail(), func(m *api.Mail) { m.V = x.v }), x.e}
	}
	for name, x := range map[string]struct {
		d api.Delta
		e api.Errno
	}{
		"many go":             {api.Delta{Gone: make([]int, 17)}, api.ErrMany},
		"many are here":       {api.Delta{Here: make([]api.Place, 17)}, api.ErrMany},
		"many go of the way":  {api.Delta{WayGone: make([]int, 17)}, api.ErrMany},
		"many on the way":     {api.Delta{WayHere: make([]api.Place, 17)}, api.ErrMany},
		"the root goes":       {api.Delta{Gone: []int{0}}, api.ErrWho},
		"the bin goes":        {api.Delta{WayGone: []int{16}}, api.ErrWho},
		"goes twice":          {api.Delta{Gone: []int{2, 2}}, api.ErrTwice},
		"here: range":         {api.Delta{Here: []api.Place{at(1, 17, 0)}}, api.ErrRange},
		"here on the way":     {api.Delta{WayHere: []api.Place{at(1, 0, 100)}}, api.ErrRange},
		"here twice":          {api.Delta{WayHere: []api.Place{at(1, 0, 0), at(1, 0, 0)}}, api.ErrTwice},
		"goes, and is here":   {api.Delta{Gone: []int{2}, Here: []api.Place{at(2, 0, 0)}}, api.ErrTwice},
		"Known ahead of Way":  {api.Delta{Here: []api.Place{at(1, 17, 0)}, WayGone: []int{0}}, api.ErrRange},
		"very many of it all": {api.Delta{Gone: make([]int, 1000), WayHere: make([]api.Place, 1000)}, api.ErrMany},
	} {
		all["a delta: "+name] = wrongMail{with(deltaMail(), func(m *api.Mail) { m.D = x.d }), x.e}
	}
}

func TestCheckTakes(t *testing.T) {
	for name, m := range good() {
		for _, l := range [][]api.Mail{{m}, {m, m}, append(row(29), m), append([]api.Mail{m}, row(29)...)} {
			if e := way.Check(l); e != api.OK {
				t.Errorf("%s, of %d: %v, want OK", name, len(l), e)
			}
		}
	}
	for _, l := range [][]api.Mail{nil, {}} {
		if e := way.Check(l); e != api.OK {
			t.Errorf("no mail: %v, want OK", e)
		}
	}
}

func TestCheckOfAllCounts(t *testing.T) {
	for n := range 70 {
		want := api.OK
		if n > 30 {
			want = api.ErrMany
		}
		if e := way.Check(row(n)); e != want {
			t.Errorf("%d mails: %v, want %v", n, e, want)
		}
		if n > 30 {
			if e := way.Check(make([]api.Mail, n)); e != api.ErrMany {
				t.Errorf("%d that are none: %v, want ErrMany", n, e)
			}
		}
	}
	if e := way.Check(make([]api.Mail, 100000)); e != api.ErrMany {
		t.Errorf("very many: %v, want ErrMany", e)
	}
}

func TestCheckRefusesTheRest(t *testing.T) {
	for name, x := range refused() {
		if e := way.Check([]api.Mail{x.m}); e != x.e {
			t.Errorf("%s: %v, want %v", name, e, x.e)
		}
		for k := range 30 {
			if e := way.Check(slices.Concat(row(k), []api.Mail{x.m}, row(29-k))); e != x.e {
				t.Errorf("%s, as number %d of 30: %v, want %v", name, k, e, x.e)
			}
		}
		if e := way.Check(append([]api.Mail{x.m}, row(30)...)); e != api.ErrMany {
			t.Errorf("%s, of 31: %v, want ErrMany", name, e)
		}
	}
}

// TestCheckTellsTheFirstOne: of two that are wrong.
func TestCheckTellsTheFirstOne(t *testing.T) {
	all := refused()
	for name, x := range all {
		for other, y := range all {
			if e := way.Check([]api.Mail{opMail(), x.m, deltaMail(), y.m}); e != x.e {
				t.Errorf("%s ahead of %s: %v, want %v", name, other, e, x.e)
			}
		}
	}
}

// TestCheckAgainstRules holds Check, for mail at all ends of all fields, against a list of rules, of which the first that is broken is told.
func TestCheckAgainstRules(t *testing.T) {
	type rule struct {
		broken func(m api.Mail) bool
		e      api.Errno
	}
	outside := func(n, least, greatest int) bool { return n < least || n > greatest }
	hubs := func(m api.Mail) bool { return m.Kind != api.MOp }
	rules := []rule{
		{func(m api.Mail) bool { return outside(m.Kind, 1, 3) }, api.ErrForm},
		{func(m api.Mail) bool { return outside(m.Who, 0, 2) }, api.ErrWho},
		{func(m api.Mail) bool { return hubs(m) && m.O != api.Op{} }, api.ErrForm},
		{func(m api.Mail) bool { return !hubs(m) && [4]int{m.Life, m.Seq, m.Time, m.Version} != [4]int{} }, api.ErrForm},
		{func(m api.Mail) bool { return m.Kind != api.MDelta && (m.From != 0 || m.D.Gone != nil) }, api.ErrForm},
		{func(m api.Mail) bool { return m.Kind != api.MView && m.V.Roots != nil }, api.ErrForm},
		{func(m api.Mail) bool { return !hubs(m) && m.O.S.Who != m.Who }, api.ErrForm},
		{func(m api.Mail) bool { return !hubs(m) && outside(m.O.Node, 1, 15) }, api.ErrRange},
		{func(m api.Mail) bool { return hubs(m) && (outside(m.Life, 1, 50) || outside(m.Seq, 0, 30)) }, api.ErrRange},
		{func(m api.Mail) bool { return hubs(m) && (outside(m.Time, 0, 10000) || outside(m.Version, 1, 60)) }, api.ErrRange},
		{func(m api.Mail) bool { return hubs(m) && (m.From < 0 || m.From >= m.Version) }, api.ErrRange},
		{func(m api.Mail) bool { return m.V.Roots != nil && m.V.Roots[0] == 17 }, api.ErrWho},
		{func(m api.Mail) bool { return m.D.Gone != nil && m.D.Gone[0] == 0 }, api.ErrWho},
	}
	told := map[api.Errno]int{}
	each := func(m api.Mail) {
		want := api.OK
		for _, r := range rules {
			if r.broken(m) {
				want = r.e
				break
			}
		}
		told[want]++
		if e := way.Check([]api.Mail{m}); e != want {
			t.Fatalf("%v: %v, want %v", m, e, want)
		}
	}
	of := func(l []int, all func(n int)) {
		for _, n := range l {
			all(n)
		}
	}
	var m api.Mail
	rest := func(int) {
		of([]int{0, 10000, 10001}, func(n int) {
			m.Time = n
			of([]int{0, 1, 60, 61}, func(n int) {
				m.Version = n
				of([]int{-1, 0, 1, 59, 60}, func(n int) {
					m.From = n
					for _, m.O = range []api.Op{{}, op(0), op(2), {S: api.Stamp{Who: 2}}} {
						for _, m.V.Roots = range [][]int{nil, {3}, {17}} {
							for _, m.D.Gone = range [][]int{nil, {3}, {0}} {
								each(m)
							}
						}
					}
				})
			})
		})
	}
	of([]int{0, 1, 2, 3, 4}, func(n int) {
		m.Kind = n
		of([]int{-1, 0, 2, 3}, func(n int) {
			m.Who = n
			of([]int{0, 1, 50, 51}, func(n int) {
				m.Life = n
				of([]int{-1, 0, 30, 31}, func(n int) { m.Seq = n; rest(n) })
			})
		})
	})
	for _, e := range []api.Errno{api.OK, api.ErrForm, api.ErrWho, api.ErrRange} {
		if told[e] == 0 {
			t.Errorf("%v was never told", e)
		}
	}
}

// whole has all fields at once, which no mail may have.
func whole() api.Mail {
	return api.Mail{Kind: 1, Who: 2, Life: 3, Seq: 4, Time: 5, Version: 6, From: 7, O: op(1), V: someView(), D: someDelta()}
}

// changes are of one field each.
func changes() map[string]func(m *api.Mail) {
	return map[string]func(m *api.Mail){
		"Kind":              func(m *api.Mail) { m.Kind++ },
		"Who":               func(m *api.Mail) { m.Who = 0 },
		"Life":              func(m *api.Mail) { m.Life = math.MinInt },
		"Seq":               func(m *api.Mail) { m.Seq-- },
		"Time":              func(m *api.Mail) { m.Time = -5 },
		"Version":           func(m *api.Mail) { m.Version = math.MaxInt },
		"From":              func(m *api.Mail) { m.From++ },
		"O":                 func(m *api.Mail) { m.O = api.Op{} },
		"O: Time":           func(m *api.Mail) { m.O.S.Time++ },
		"O: Who":            func(m *api.Mail) { m.O.S.Who = -1 },
		"O: Node":           func(m *api.Mail) { m.O.Node = 0 },
		"O: Parent":         func(m *api.Mail) { m.O.Parent-- },
		"O: Name":           func(m *api.Mail) { m.O.Name++ },
		"O: Life":           func(m *api.Mail) { m.O.Life++ },
		"O: Seq":            func(m *api.Mail) { m.O.Seq++ },
		"V":                 func(m *api.Mail) { m.V = api.View{} },
		"V: first root":     func(m *api.Mail) { m.V.Roots[0] = 99 },
		"V: last root":      func(m *api.Mail) { m.V.Roots[1] = -9 },
		"V: roots' order":   func(m *api.Mail) { slices.Reverse(m.V.Roots) },
		"V: a root more":    func(m *api.Mail) { m.V.Roots = append(m.V.Roots, 0) },
		"V: no roots":       func(m *api.Mail) { m.V.Roots = nil },
		"V: Known, node":    func(m *api.Mail) { m.V.Known[1].Node++ },
		"V: Known, parent":  func(m *api.Mail) { m.V.Known[0].Parent-- },
		"V: Known, name":    func(m *api.Mail) { m.V.Known[1].Name = -1 },
		"V: Known, less":    func(m *api.Mail) { m.V.Known = m.V.Known[:1] },
		"V: Way, name":      func(m *api.Mail) { m.V.Way[0].Name++ },
		"V: Way, more":      func(m *api.Mail) { m.V.Way = append(m.V.Way, api.Place{}) },
		"V: parts swapped":  func(m *api.Mail) { m.V.Known, m.V.Way = m.V.Way, m.V.Known },
		"D":                 func(m *api.Mail) { m.D = api.Delta{} },
		"D: Gone":           func(m *api.Mail) { m.D.Gone[1]++ },
		"D: Gone, less":     func(m *api.Mail) { m.D.Gone = m.D.Gone[:1] },
		"D: Here, parent":   func(m *api.Mail) { m.D.Here[0].Parent++ },
		"D: Here, none":     func(m *api.Mail) { m.D.Here = nil },
		"D: WayGone":        func(m *api.Mail) { m.D.WayGone[0] = 0 },
		"D: WayGone, more":  func(m *api.Mail) { m.D.WayGone = append(m.D.WayGone, 0) },
		"D: WayHere, node":  func(m *api.Mail) { m.D.WayHere[1].Node++ },
		"D: WayHere, order": func(m *api.Mail) { slices.Reverse(m.D.WayHere) },
		"D: swapped":        func(m *api.Mail) { m.D.Gone, m.D.WayGone = m.D.WayGone, m.D.Gone },
		"all":               func(m *api.Mail) { *m = api.Mail{} },
	}
}

func TestSame(t *testing.T) {
	for _, x := range [][2][]api.Mail{{nil, nil}, {nil, {}}, {{}, nil}, {row(30), row(30)}, {row(31), row(31)}, {{whole()}, {whole()}}, {make([]api.Mail, 99), make([]api.Mail, 99)}} {
		if !way.Same(x[0], x[1]) {
			t.Errorf("%d like ones are not the same", len(x[0]))
		}
	}
	for name, change := range changes() {
		for k := range 3 {
			row := func() []api.Mail { return []api.Mail{whole(), whole(), whole()} }
			a, b := row(), row()
			change(&a[k])
			if way.Same(a, row()) || way.Same(row(), a) {
				t.Errorf("%s of number %d: the same, though it changed", name, k)
			}
			change(&b[k])
			if !way.Same(a, b) {
				t.Errorf("%s of number %d: not the same, though both changed alike", name, k)
			}
		}
	}
}

func TestSameOfLists(t *testing.T) {
	a, b := row(5), row(5)
	for name, l := range map[string][]api.Mail{
		"none":             nil,
		"one less":         b[:4],
		"the first less":   b[1:],
		"one more":         row(6),
		"one more, zero":   append(row(5), api.Mail{}),
		"twice":            append(row(5), row(5)...),
		"another order":    {b[1], b[0], b[2], b[3], b[4]},
		"the last another": append(row(4), b[3]),
	} {
		if way.Same(a, l) || way.Same(l, a) {
			t.Errorf("%s: the same", name)
		}
	}
	empty := api.Mail{
		V: api.View{Roots: []int{}, Known: []api.Place{}, Way: []api.Place{}},
		D: api.Delta{Gone: []int{}, Here: []api.Place{}, WayGone: []int{}, WayHere: []api.Place{}},
	}
	if !way.Same([]api.Mail{empty}, []api.Mail{{}}) || !way.Same([]api.Mail{{}}, []api.Mail{empty}) {
		t.Errorf("empty lists are not what nil ones are")
	}
	// Of mail that Check refuses, too, those alone are the same that are told alike.
	all, texts := refused(), map[string]string{}
	for name, x := range all {
		texts[name] = text(x.m)
	}
	for name, x := range all {
		for other, y := range refused() {
			if got := way.Same([]api.Mail{x.m}, []api.Mail{y.m}); got != (texts[name] == texts[other]) {
				t.Errorf("%s and %s: %v", name, other, got)
			}
		}
	}
}

func TestSend(t *testing.T) {
	for name, m := range good() {
		for n := range 31 {
			want := append(row(n), m)
			if n == 30 {
				want = row(n)
			}
			l, e := way.Send(row(n), m)
			if e != api.OK || text(l) != text(want) {
				t.Errorf("%s, to %d: %v, %v, want %v", name, n, l, e, want)
			}
			if way.Check(l) != api.OK || !way.Same(l, want) {
				t.Errorf("%s, to %d: Check or Same refuses %v", name, n, l)
			}
		}
	}
	for _, l := range [][]api.Mail{nil, {}} {
		if l, e := way.Send(l, opMail()); e != api.OK || text(l) != text([]api.Mail{opMail()}) {
			t.Errorf("to nothing: %v, %v", l, e)
		}
	}
}

// TestSendRefuses: what is on its way is told ahead of what is sent, and both ahead of whether there is room.
func TestSendRefuses(t *testing.T) {
	refuses := func(name string, l []api.Mail, m api.Mail, want api.Errno) {
		t.Helper()
		if got, e := way.Send(l, m); e != want || got != nil {
			t.Errorf("%s: %v, %v, want %v alone", name, got, e, want)
		}
	}
	for name, x := range refused() {
		for _, n := range []int{0, 1, 29, 30} {
			refuses(name+", sent", row(n), x.m, x.e)
		}
		refuses(name+", to too many", row(31), x.m, api.ErrMany)
		for k, m := range []api.Mail{opMail(), deltaMail(), {}, {Kind: api.MOp, Who: 3}, {Kind: api.MView}} {
			refuses(name+", ahead of "+strconv.Itoa(k), []api.Mail{x.m}, m, x.e)
			refuses(name+", the last one, ahead of "+strconv.Itoa(k), append(row(29), x.m), m, x.e)
			refuses("too many, ahead of "+strconv.Itoa(k), append(row(30), x.m), m, api.ErrMany)
		}
	}
	refuses("one too many already", row(31), opMail(), api.ErrMany)
	refuses("very many already", make([]api.Mail, 100000), opMail(), api.ErrMany)
}

func TestTake(t *testing.T) {
	for n := range 31 {
		for k := -2; k <= n+2; k++ {
			once, m, e := way.Take(row(n), k, false)
			twice, m2, e2 := way.Take(row(n), k, true)
			if k < 0 || k >= n {
				if e != api.ErrWho || e2 != api.ErrWho || !noMail(once, m) || !noMail(twice, m2) {
					t.Errorf("number %d of %d: %v, %v, %v, twice %v, %v, %v, want ErrWho alone", k, n, once, m, e, twice, m2, e2)
				}
				continue
			}
			others := slices.Concat(row(n)[:k], row(n)[k+1:])
			if e != api.OK || text(once) != text(others) || text(m) != text(row(n)[k]) {
				t.Errorf("number %d of %d: %v, %v, %v", k, n, once, m, e)
			}
			if e2 != api.OK || text(twice) != text(row(n)) || text(m2) != text(row(n)[k]) {
				t.Errorf("number %d of %d, twice: %v, %v, %v", k, n, twice, m2, e2)
			}
		}
	}
	for name, m := range good() {
		if l, got, e := way.Take([]api.Mail{m}, 0, false); e != api.OK || len(l) != 0 || text(got) != text(m) {
			t.Errorf("%s: %v, %v, %v", name, l, got, e)
		}
	}
}

func TestTakeRefuses(t *testing.T) {
	for name, x := range refused() {
		for _, k := range []int{-1, 0, 1, 2, 3, math.MinInt, math.MaxInt} {
			for _, twice := range []bool{false, true} {
				if l, m, e := way.Take([]api.Mail{opMail(), x.m, viewMail()}, k, twice); e != x.e || !noMail(l, m) {
					t.Errorf("%s, number %d: %v, %v, %v, want %v alone", name, k, l, m, e, x.e)
				}
				if l, m, e := way.Take(append(row(30), x.m), k, twice); e != api.ErrMany || !noMail(l, m) {
					t.Errorf("%s, of too many, number %d: %v, %v, %v, want ErrMany alone", name, k, l, m, e)
				}
			}
		}
	}
	for _, k := range []int{math.MinInt, math.MaxInt} {
		for _, l := range [][]api.Mail{nil, {}, row(1), row(30)} {
			if l, m, e := way.Take(l, k, true); e != api.ErrWho || !noMail(l, m) {
				t.Errorf("number %d: %v, %v, %v, want ErrWho alone", k, l, m, e)
			}
		}
	}
}

// TestAgainstAModel: all that may be sent and taken in so many steps, of which the model has the numbers alone.
func TestAgainstAModel(t *testing.T) {
	mails := []api.Mail{opMail(), viewMail(), deltaMail()}
	of := func(model []int) []api.Mail {
		var l []api.Mail
		for _, n := range model {
			l = append(l, mails[n])
		}
		return l
	}
	var walk func(l []api.Mail, model []int, steps int)
	walk = func(l []api.Mail, model []int, steps int) {
		if text(l) != text(of(model)) {
			t.Fatalf("%v, want %v", l, of(model))
		}
		if steps == 0 {
			return
		}
		for n, m := range mails {
			sent, e := way.Send(l, m)
			if e != api.OK {
				t.Fatalf("Send of %v to %v: %v", m, l, e)
			}
			walk(sent, append(slices.Clone(model), n), steps-1)
		}
		for k, n := range model {
			for _, twice := range []bool{false, true} {
				left, m, e := way.Take(l, k, twice)
				if e != api.OK || text(m) != text(mails[n]) {
					t.Fatalf("Take of %d of %v: %v, %v", k, l, m, e)
				}
				if twice {
					walk(left, model, steps-1)
				} else {
					walk(left, slices.Delete(slices.Clone(model), k, k+1), steps-1)
				}
			}
		}
	}
	walk(nil, nil, 5)
}

// TestFillAndEmpty: a way that is full loses what is sent, and has room again for one where one was taken.
func TestFillAndEmpty(t *testing.T) {
	var l []api.Mail
	for k, m := range row(33) {
		var e api.Errno
		if l, e = way.Send(l, m); e != api.OK || len(l) != min(k+1, 30) {
			t.Fatalf("number %d: %d on their way, %v", k, len(l), e)
		}
	}
	if text(l) != text(row(30)) {
		t.Fatalf("%v, want the first 30", l)
	}
	full, _, e := way.Take(l, 7, true)
	if e != api.OK || len(full) != 30 {
		t.Fatalf("twice: %d, %v", len(full), e)
	}
	if l, e := way.Send(full, opMail()); e != api.OK || text(l) != text(full) {
		t.Errorf("twice leaves room: %v, %v", l, e)
	}
	less, _, _ := way.Take(l, 7, false)
	if l, e := way.Send(less, opMail()); e != api.OK || text(l) != text(append(less, opMail())) {
		t.Errorf("once leaves no room: %v, %v", l, e)
	}
}

// roomy answers a list of l's values, with other ones in the room behind it, and all of that.
func roomy[T any](l []T, other T) ([]T, []T) {
	all := append(slices.Clone(l), other, other, other)
	return all[:len(l)], all
}

// laid answers m with room behind each of its lists, and a look at all of that memory.
func laid(m api.Mail) (api.Mail, func() string) {
	var ints [3][]int
	var places [4][]api.Place
	m.V.Roots, ints[0] = roomy(m.V.Roots, 70)
	m.D.Gone, ints[1] = roomy(m.D.Gone, 71)
	m.D.WayGone, ints[2] = roomy(m.D.WayGone, 72)
	m.V.Known, places[0] = roomy(m.V.Known, at(80, 80, 80))
	m.V.Way, places[1] = roomy(m.V.Way, at(81, 81, 81))
	m.D.Here, places[2] = roomy(m.D.Here, at(82, 82, 82))
	m.D.WayHere, places[3] = roomy(m.D.WayHere, at(83, 83, 83))
	return m, func() string { return text(ints) + text(places) }
}

// laidAll does the same of all of l, and of l itself.
func laidAll(l []api.Mail) ([]api.Mail, func() string) {
	in, room := roomy(l, whole())
	var looks []func() string
	for k, m := range room {
		m, look := laid(m)
		room[k], looks = m, append(looks, look)
	}
	return in, func() string {
		s := text(room)
		for _, look := range looks {
			s += look()
		}
		return s
	}
}

// spoil writes over all lists of an answer, and all room behind them, each with a number of its own, and asks that all of them have it then.
func spoil(t *testing.T, what string, l []api.Mail, others ...api.Mail) {
	t.Helper()
	var ints [][]int
	var places [][]api.Place
	for _, m := range slices.Concat(l[:cap(l)], others) {
		ints = append(ints, m.V.Roots, m.D.Gone, m.D.WayGone)
		places = append(places, m.V.Known, m.V.Way, m.D.Here, m.D.WayHere)
	}
	numbered(t, what, ints, func(n int) int { return 1000 + n })
	numbered(t, what, places, func(n int) api.Place { return at(1000+n, 0, 0) })
	l = l[:cap(l)]
	for k := range l {
		l[k] = api.Mail{Kind: 1000}
	}
}

func numbered[T comparable](t *testing.T, what string, lists [][]T, number func(n int) T) {
	t.Helper()
	for n, l := range lists {
		l = l[:cap(l)]
		for k := range l {
			l[k] = number(n)
		}
	}
	for n, l := range lists {
		for _, x := range l[:cap(l)] {
			if x != number(n) {
				t.Fatalf("%s: list %d of the answer shares memory with another one", what, n)
			}
		}
	}
}

// TestOnlyReads: neither a list that is handed in nor the room behind it changes, and what is answered is not of that memory, nor two lists of it of one.
func TestOnlyReads(t *testing.T) {
	rows := map[string][]api.Mail{"nothing": nil, "one": row(1), "three": row(3), "with room": row(29), "full": row(30), "too many": row(31), "no mail": {whole()}}
	for name, m := range good() {
		rows[name] = []api.Mail{m, deltaMail(), m}
	}
	for name, x := range refused() {
		rows["refused: "+name] = []api.Mail{viewMail(), x.m}
	}
	for name, l := range rows {
		in, look := laidAll(l)
		was := look()
		stays := func(what string) {
			t.Helper()
			if look() != was {
				t.Fatalf("%s: %s left %v", name, what, in)
			}
		}
		way.Check(in)
		stays("Check")
		way.Same(in, in)
		way.Same(in, row(3))
		way.Same(row(3), in)
		stays("Same")
		for _, m := range []api.Mail{opMail(), viewMail(), deltaMail(), whole()} {
			m, lookAtIt := laid(m)
			text, sentWas := text(m), lookAtIt()
			got, _ := way.Send(in, m)
			spoil(t, name+": Send", got)
			stays("Send")
			if fmt.Sprint(m) != text || lookAtIt() != sentWas {
				t.Fatalf("%s: Send left %v of what was sent", name, m)
			}
		}
		for k := -1; k <= len(l); k++ {
			for _, twice := range []bool{false, true} {
				got, m, _ := way.Take(in, k, twice)
				spoil(t, name+": Take", got, m)
				stays("Take")
			}
		}
	}
}

// TestSharedListsArePulledApart: mail that is handed in with lists that it shares has lists of its own in the answer.
func TestSharedListsArePulledApart(t *testing.T) {
	places := []api.Place{at(1, 0, 5), at(2, 1, 7)}
	v := api.Mail{Kind: api.MView, Life: 1, Version: 1, V: api.View{Roots: []int{2}, Known: places[1:], Way: places[:1]}}
	d := api.Mail{Kind: api.MDelta, Life: 1, Version: 1, D: api.Delta{Gone: []int{3}, Here: places, WayGone: v.V.Roots, WayHere: places[:1]}}
	for _, n := range []int{1, 3, 14, 15} {
		var l []api.Mail
		for range n {
			l = append(l, v, d)
		}
		was := text(l)
		for _, m := range []api.Mail{v, d, l[0]} {
			got, e := way.Send(l, m)
			if e != api.OK || len(got) != min(2*n+1, 30) {
				t.Fatalf("Send to %d: %v, %v", 2*n, got, e)
			}
			spoil(t, "Send", got)
			if text(l) != was {
				t.Fatalf("Send left %v", l)
			}
		}
		for k := range l {
			for _, twice := range []bool{false, true} {
				got, m, e := way.Take(l, k, twice)
				if e != api.OK {
					t.Fatalf("Take of %d: %v", k, e)
				}
				spoil(t, "Take", got, m)
				if text(l) != was {
					t.Fatalf("Take left %v", l)
				}
			}
		}
	}
}

// TestAnswersAgain: what a call answers hangs on its arguments alone, whatever was called ahead of it.
func TestAnswersAgain(t *testing.T) {
	for name, m := range good() {
		sent, e := way.Send(row(4), m)
		for _, x := range refused() {
			way.Send(row(4), x.m)
			way.Take([]api.Mail{x.m}, 0, true)
		}
		again, e2 := way.Send(row(4), m)
		if e != e2 || text(sent) != text(again) {
			t.Errorf("%s: %v, %v, and then %v, %v", name, sent, e, again, e2)
		}
		left, taken, e := way.Take(sent, 4, false)
		left2, taken2, e2 := way.Take(sent, 4, false)
		if e != e2 || text(left) != text(left2) || text(taken) != text(taken2) {
			t.Errorf("%s: %v, %v, %v, and then %v, %v, %v", name, left, taken, e, left2, taken2, e2)
		}
	}
}
