package client_test

import (
	"fmt"
	"math"
	"slices"
	"strconv"
	"testing"

	"orangery/api"
	"orangery/client"
	"orangery/delta"
	"orangery/history"
	"orangery/hub"
	"orangery/view"
	"orangery/way"
)

func at(node, parent, name int) api.Place {
	return api.Place{Node: node, Parent: parent, Name: name}
}

// op of a stamp moves node below parent, by name; it is of this life, and of this number in it.
func op(time, who, node, parent, name, life, seq int) api.Op {
	return api.Op{S: api.Stamp{Time: time, Who: who}, Node: node, Parent: parent, Name: name, Life: life, Seq: seq}
}

// text tells all fields, and makes no difference of lists that are nil and ones that are empty.
func text(x any) string {
	return fmt.Sprint(x)
}

func noClient(c api.Client) bool {
	return c.Pending == nil && c.V.Roots == nil && c.V.Known == nil && c.V.Way == nil && text(c) == text(api.Client{})
}

// me is which client the ones below are.
const me = 1

// begun is a client that did and heard nothing as yet.
func begun() api.Client {
	return api.Client{Life: 2, Time: 5}
}

// busy did something, and heard nothing as yet.
func busy() api.Client {
	return api.Client{Life: 2, Time: 9, Seq: 2, Pending: []api.Op{op(6, me, 3, 0, 9, 2, 1), op(9, me, 4, 3, 8, 2, 2)}}
}

// heard has a view, and did more than what was accepted by then; no two of its numbers are alike.
func heard() api.Client {
	return api.Client{
		Life: 3, Time: 40, Seq: 6,
		Pending: []api.Op{op(20, me, 4, 5, 1, 3, 4), op(21, me, 5, 2, 7, 3, 5), op(38, me, 2, 4, 0, 3, 6)},
		Version: 9, V: someView(),
	}
}

func someView() api.View {
	return api.View{Roots: []int{2, 10}, Known: []api.Place{at(2, 1, 7), at(4, 2, 3)}, Way: []api.Place{at(1, 0, 5)}}
}

// viewMail and deltaMail are news to heard: of what it did the first one is accepted, or the first two are.
func viewMail() api.Mail {
	v := api.View{Roots: []int{4}, Known: []api.Place{at(4, 5, 1)}, Way: []api.Place{at(5, 0, 2)}}
	return api.Mail{Kind: api.MView, Who: me, Life: 3, Seq: 4, Time: 50, Version: 12, V: v}
}

func deltaMail() api.Mail {
	d := api.Delta{Gone: []int{4}, Here: []api.Place{at(2, 6, 7)}, WayGone: []int{1}, WayHere: []api.Place{at(6, 0, 0)}}
	return api.Mail{Kind: api.MDelta, Who: me, Life: 3, Seq: 5, Time: 60, Version: 14, From: 9, D: d}
}

// changed is the view of heard after deltaMail, written out.
func changed() api.View {
	return api.View{Roots: []int{2, 10}, Known: []api.Place{at(2, 6, 7)}, Way: []api.Place{at(6, 0, 0)}}
}

// with answers what heard is, but for one change.
func with(change func(c *api.Client)) api.Client {
	c := heard()
	change(&c)
	return c
}

func mailWith(m api.Mail, change func(m *api.Mail)) api.Mail {
	change(&m)
	return m
}

// waiting answers a client of which n operations are pending, behind so many that are accepted.
func waiting(accepted, n int) api.Client {
	c := api.Client{Life: 1, Time: accepted + n, Seq: accepted + n}
	for k := range n {
		c.Pending = append(c.Pending, op(accepted+k+1, me, 1+k%15, k%17, k, 1, accepted+k+1))
	}
	return c
}

// numbers are a client's, and their ends.
func numbers() map[string]struct {
	set      func(c *api.Client, n int)
	greatest int
} {
	return map[string]struct {
		set      func(c *api.Client, n int)
		greatest int
	}{
		"Life":    {func(c *api.Client, n int) { c.Life = n }, 50},
		"Time":    {func(c *api.Client, n int) { c.Time = n }, 10000},
		"Seq":     {func(c *api.Client, n int) { c.Seq = n }, 30},
		"Version": {func(c *api.Client, n int) { c.Version = n }, 60},
	}
}

// good are clients that Check takes as me.
func good() map[string]api.Client {
	all := map[string]api.Client{
		"zero":                    {},
		"zero, its lists empty":   {Pending: []api.Op{}, V: api.View{Roots: []int{}, Known: []api.Place{}, Way: []api.Place{}}},
		"begun":                   begun(),
		"begun at no time":        {Life: 1},
		"busy":                    busy(),
		"heard":                   heard(),
		"nothing pending":         with(func(c *api.Client) { c.Pending = nil }),
		"no view":                 with(func(c *api.Client) { c.V = api.View{} }),
		"no view, at Version 0":   with(func(c *api.Client) { c.V, c.Version = api.View{}, 0 }),
		"roots that stand not":    with(func(c *api.Client) { c.V = api.View{Roots: []int{0, 1, 2, 16}} }),
		"first pending":           {Life: 1, Time: 1, Seq: 1, Pending: []api.Op{op(1, me, 1, 0, 0, 1, 1)}},
		"greatest of all":         {Life: 50, Time: 10000, Seq: 30, Pending: []api.Op{op(10000, me, 15, 16, 99, 50, 30)}, Version: 60},
		"the last one at Time":    with(func(c *api.Client) { c.Time = 38 }),
		"times one after another": with(func(c *api.Client) { c.Pending[0].S.Time, c.Pending[1].S.Time, c.Pending[2].S.Time = 38, 39, 40 }),
		"times far apart":         with(func(c *api.Client) { c.Time, c.Pending[0].S.Time, c.Pending[2].S.Time = 10000, 1, 10000 }),
		"as many as Seq":          waiting(0, 8),
		"one below Seq":           waiting(1, 7),
		"as many as may be":       waiting(22, 8),
		"the last of them":        waiting(29, 1),
		"a ring pending":          {Life: 1, Time: 2, Seq: 2, Pending: []api.Op{op(1, me, 1, 1, 0, 1, 1), op(2, me, 1, 1, 0, 1, 2)}},
		"parts that touch": with(func(c *api.Client) {
			c.V = api.View{Roots: []int{3}, Known: []api.Place{at(3, 2, 0)}, Way: []api.Place{at(2, 1, 0)}}
		}),
		"time without operations": {Life: 1, Time: 10000},
		"Version without Roots":   {Life: 1, Version: 1},
		"Roots at Version 1":      {Life: 1, Version: 1, V: api.View{Roots: []int{0}}},
	}
	for name, x := range numbers() {
		for _, n := range []int{1, x.greatest - 1, x.greatest} {
			c := api.Client{Life: 1}
			x.set(&c, n)
			all[name+" "+strconv.Itoa(n)] = c
		}
	}
	return all
}

type wrongClient struct {
	c  api.Client
	me int
	e  api.Errno
}

// refused are clients that Check refuses.
func refused() map[string]wrongClient {
	all := map[string]wrongClient{}
	refusedWho(all)
	refusedNumbers(all)
	refusedParts(all)
	refusedForms(all)
	refusedPending(all)
	return all
}

func refusedWho(all map[string]wrongClient) {
	for _, who := range []int{-2, -1, 3, 4, math.MinInt, math.MaxInt} {
		name := "me " + strconv.Itoa(who)
		for what, c := range good() {
			all[name+": "+what] = wrongClient{c, who, api.ErrWho}
		}
		all[name+", ahead of Life"] = wrongClient{with(func(c *api.Client) { c.Life = -1 }), who, api.ErrWho}
		all[name+", its operations, too"] = wrongClient{with(func(c *api.Client) { c.Pending = []api.Op{op(38, who, 2, 4, 0, 3, 6)} }), who, api.ErrWho}
	}
}

// refusedNumbers: each outside, and ahead of all that is told later.
func refusedNumbers(all map[string]wrongClient) {
	for name, x := range numbers() {
		for _, n := range []int{math.MinInt, -2, -1, x.greatest + 1, x.greatest + 2, math.MaxInt} {
			what := name + " " + strconv.Itoa(n)
			for ahead, c := range map[string]api.Client{
				"":                     {Life: 1},
				", else zero":          {},
				", of heard":           heard(),
				", ahead of too many":  with(func(c *api.Client) { c.Pending = make([]api.Op, 9) }),
				", ahead of V":         with(func(c *api.Client) { c.V.Roots = []int{17} }),
				", ahead of Life 0":    {Time: 1, Seq: 1, Version: 1},
				", ahead of Version 0": {V: api.View{Roots: []int{0}}},
				", ahead of Pending":   with(func(c *api.Client) { c.Pending[0].Node = 0 }),
			} {
				x.set(&c, n)
				all[what+ahead] = wrongClient{c, me, api.ErrRange}
			}
		}
	}
}

// wrongViews are views that chapter 4's Check refuses, by each of its errors.
func wrongViews() map[string]struct {
	v api.View
	e api.Errno
} {
	return map[string]struct {
		v api.View
		e api.Errno
	}{
		"many roots":        {api.View{Roots: []int{0, 1, 2, 3, 4}}, api.ErrMany},
		"a root: who":       {api.View{Roots: []int{17}}, api.ErrWho},
		"a root below":      {api.View{Roots: []int{-1}}, api.ErrWho},
		"a root twice":      {api.View{Roots: []int{2, 2}}, api.ErrTwice},
		"Known: range":      {api.View{Roots: []int{0}, Known: []api.Place{at(1, 17, 0)}}, api.ErrRange},
		"Known: twice":      {api.View{Roots: []int{0}, Known: []api.Place{at(2, 0, 0), at(1, 0, 0)}}, api.ErrTwice},
		"Known: a ring":     {api.View{Roots: []int{0}, Known: []api.Place{at(1, 1, 0)}}, api.ErrForm},
		"Way: range":        {api.View{Roots: []int{2}, Way: []api.Place{at(16, 0, 0)}}, api.ErrRange},
		"Way: twice":        {api.View{Roots: []int{2}, Way: []api.Place{at(1, 0, 0), at(1, 0, 0)}}, api.ErrTwice},
		"a ring of both":    {api.View{Roots: []int{2}, Known: []api.Place{at(2, 1, 0)}, Way: []api.Place{at(1, 2, 0)}}, api.ErrForm},
		"in both":           {api.View{Roots: []int{2}, Known: []api.Place{at(2, 0, 0)}, Way: []api.Place{at(2, 0, 0)}}, api.ErrForm},
		"beside the roots":  {api.View{Roots: []int{1}, Known: []api.Place{at(1, 0, 0), at(2, 0, 0)}}, api.ErrForm},
		"of no roots":       {api.View{Known: []api.Place{at(1, 0, 0)}}, api.ErrForm},
		"a way to nowhere":  {api.View{Roots: []int{2}, Known: []api.Place{at(2, 1, 0)}, Way: []api.Place{at(3, 0, 0)}}, api.ErrForm},
		"very many of each": {api.View{Known: make([]api.Place, 1000), Way: make([]api.Place, 1000)}, api.ErrRange},
	}
}

// refusedParts: too many Pending, and views that are none, each ahead of what is told later.
func refusedParts(all map[string]wrongClient) {
	for _, n := range []int{9, 10, 30, 31, 100000} {
		what := strconv.Itoa(n) + " Pending"
		all[what+", each all right"] = wrongClient{api.Client{Life: 1, Time: 30, Seq: 30, Pending: waiting(0, n).Pending}, me, api.ErrMany}
		all[what+", ahead of V"] = wrongClient{with(func(c *api.Client) { c.Pending = make([]api.Op, n); c.V.Roots = []int{17} }), me, api.ErrMany}
		all[what+", ahead of Life 0"] = wrongClient{api.Client{Time: 1, Pending: make([]api.Op, n)}, me, api.ErrMany}
		all[what+", more than Seq"] = wrongClient{api.Client{Pending: make([]api.Op, n)}, me, api.ErrMany}
	}
	for name, x := range wrongViews() {
		all["V: "+name] = wrongClient{with(func(c *api.Client) { c.V = x.v }), me, x.e}
		all["V: "+name+", nothing pending"] = wrongClient{api.Client{Life: 1, Version: 1, V: x.v}, me, x.e}
		all["V: "+name+", ahead of Life 0"] = wrongClient{api.Client{Time: 1, V: x.v}, me, x.e}
		all["V: "+name+", ahead of Version 0"] = wrongClient{api.Client{Life: 1, V: x.v}, me, x.e}
		all["V: "+name+", ahead of more than Seq"] = wrongClient{api.Client{Life: 1, Pending: make([]api.Op, 8), V: x.v}, me, x.e}
		all["V: "+name+", ahead of Pending"] = wrongClient{with(func(c *api.Client) { c.V = x.v; c.Pending[0].Node = 0 }), me, x.e}
		all["V: "+name+", ahead of another one's"] = wrongClient{with(func(c *api.Client) { c.V = x.v; c.Pending[0].S.Who = 0 }), me, x.e}
	}
}

// refusedForms: numbers that don't fit each other, ahead of Pending.
func refusedForms(all map[string]wrongClient) {
	for name, c := range map[string]api.Client{
		"Life 0, Time 1":                     {Time: 1},
		"Life 0, Time at its end":            {Time: 10000},
		"Life 0, Seq 1":                      {Seq: 1},
		"Life 0, Seq at its end":             {Seq: 30},
		"Life 0, Version 1":                  {Version: 1},
		"Life 0, Version at its end":         {Version: 60},
		"Life 0, Version and Roots":          {Version: 1, V: api.View{Roots: []int{0}}},
		"Life 0, all of heard":               with(func(c *api.Client) { c.Life = 0 }),
		"Life 0, Pending":                    {Pending: []api.Op{op(1, me, 1, 0, 0, 1, 1)}},
		"Life 0, Pending and Seq":            {Seq: 1, Pending: []api.Op{op(1, me, 17, 0, 0, 1, 1)}},
		"Version 0, a root":                  {Life: 1, V: api.View{Roots: []int{0}}},
		"Version 0, all roots":               {Life: 1, V: api.View{Roots: []int{0, 1, 2, 3}}},
		"Version 0, Life 0, a root":          {V: api.View{Roots: []int{16}}},
		"Version 0, a view":                  with(func(c *api.Client) { c.Version = 0 }),
		"Version 0, ahead of Pending":        with(func(c *api.Client) { c.Version = 0; c.Pending[0].Node = 0 }),
		"one more than Seq":                  {Life: 1, Time: 9, Pending: []api.Op{op(1, me, 1, 0, 0, 1, 1)}},
		"one more than Seq, the first right": {Life: 1, Time: 9, Seq: 1, Pending: []api.Op{op(1, me, 1, 0, 0, 1, 1), op(2, me, 1, 0, 0, 1, 2)}},
		"one more than Seq, the last right":  {Life: 1, Time: 9, Seq: 1, Pending: []api.Op{op(1, me, 1, 0, 0, 1, 1), op(2, me, 1, 0, 0, 1, 1)}},
		"one more than Seq, from number 0":   {Life: 1, Time: 9, Seq: 1, Pending: []api.Op{op(1, me, 1, 0, 0, 1, 0), op(2, me, 1, 0, 0, 1, 1)}},
		"more than Seq, ahead of Pending":    {Life: 1, Time: 9, Seq: 7, Pending: make([]api.Op, 8)},
	} {
		all[name] = wrongClient{c, me, api.ErrForm}
	}
}

// wrongPending changes one operation of heard that is pending, which is all right in all else.
func wrongPending() map[string]struct {
	wrong func(o *api.Op)
	e     api.Errno
} {
	return map[string]struct {
		wrong func(o *api.Op)
		e     api.Errno
	}{
		"of one before":       {func(o *api.Op) { o.S.Who = 0 }, api.ErrForm},
		"of one behind":       {func(o *api.Op) { o.S.Who = 2 }, api.ErrForm},
		"of nobody":           {func(o *api.Op) { o.S.Who = -1 }, api.ErrRange},
		"of nobody behind":    {func(o *api.Op) { o.S.Who = 3 }, api.ErrRange},
		"an elder life":       {func(o *api.Op) { o.Life = 2 }, api.ErrForm},
		"a later life":        {func(o *api.Op) { o.Life = 4 }, api.ErrForm},
		"no life":             {func(o *api.Op) { o.Life = 0 }, api.ErrRange},
		"a life too many":     {func(o *api.Op) { o.Life = 51 }, api.ErrRange},
		"a Seq less":          {func(o *api.Op) { o.Seq-- }, api.ErrForm},
		"a Seq more":          {func(o *api.Op) { o.Seq++ }, api.ErrForm},
		"no Seq":              {func(o *api.Op) { o.Seq = 0 }, api.ErrRange},
		"a Seq too many":      {func(o *api.Op) { o.Seq = 31 }, api.ErrRange},
		"above Time":          {func(o *api.Op) { o.S.Time = 41 }, api.ErrForm},
		"far above Time":      {func(o *api.Op) { o.S.Time = 10000 }, api.ErrForm},
		"no time":             {func(o *api.Op) { o.S.Time = 0 }, api.ErrRange},
		"above all time":      {func(o *api.Op) { o.S.Time = 10001 }, api.ErrRange},
		"the root":            {func(o *api.Op) { o.Node = 0 }, api.ErrRange},
		"the bin":             {func(o *api.Op) { o.Node = 16 }, api.ErrRange},
		"below nothing":       {func(o *api.Op) { o.Parent = -1 }, api.ErrRange},
		"below the bin":       {func(o *api.Op) { o.Parent = 17 }, api.ErrRange},
		"a name below":        {func(o *api.Op) { o.Name = -1 }, api.ErrRange},
		"a name above":        {func(o *api.Op) { o.Name = 100 }, api.ErrRange},
		"zero":                {func(o *api.Op) { *o = api.Op{} }, api.ErrRange},
		"both, range first":   {func(o *api.Op) { o.S.Who, o.Node = 0, 16 }, api.ErrRange},
		"late, and out of it": {func(o *api.Op) { o.S.Time, o.Name = 41, 100 }, api.ErrRange},
	}
}

// refusedPending: each of Pending, ahead of the ones behind it.
func refusedPending(all map[string]wrongClient) {
	for name, x := range wrongPending() {
		for k := range 3 {
			what := "Pending " + strconv.Itoa(k) + ": " + name
			all[what] = wrongClient{with(func(c *api.Client) { x.wrong(&c.Pending[k]) }), me, x.e}
			for other, y := range wrongPending() {
				for behind := k + 1; behind < 3; behind++ {
					c := with(func(c *api.Client) { x.wrong(&c.Pending[k]); y.wrong(&c.Pending[behind]) })
					all[what+", ahead of "+strconv.Itoa(behind)+": "+other] = wrongClient{c, me, x.e}
				}
			}
		}
	}
	for name, change := range map[string]func(c *api.Client){
		"the time of the one ahead":     func(c *api.Client) { c.Pending[1].S.Time = 20 },
		"a time below the one ahead":    func(c *api.Client) { c.Pending[1].S.Time = 19 },
		"the first one's time":          func(c *api.Client) { c.Pending[2].S.Time = 20 },
		"the last one's, that of it":    func(c *api.Client) { c.Pending[2].S.Time = 21 },
		"all of one time":               func(c *api.Client) { c.Pending[0].S.Time, c.Pending[1].S.Time, c.Pending[2].S.Time = 9, 9, 9 },
		"falling times":                 func(c *api.Client) { c.Pending[0].S.Time, c.Pending[1].S.Time, c.Pending[2].S.Time = 3, 2, 1 },
		"the first one above the next":  func(c *api.Client) { c.Pending[0].S.Time = 21 },
		"Time below the last one":       func(c *api.Client) { c.Time = 37 },
		"Time below all":                func(c *api.Client) { c.Time = 19 },
		"Time 0":                        func(c *api.Client) { c.Time = 0 },
		"Seq one more":                  func(c *api.Client) { c.Seq = 7 },
		"Seq one less":                  func(c *api.Client) { c.Seq = 5 },
		"Seq as many":                   func(c *api.Client) { c.Seq = 3 },
		"Life one more":                 func(c *api.Client) { c.Life = 4 },
		"the last one gone":             func(c *api.Client) { c.Pending = c.Pending[:2] },
		"a hole":                        func(c *api.Client) { c.Pending = []api.Op{c.Pending[0], c.Pending[2]} },
		"another order":                 func(c *api.Client) { c.Pending[0], c.Pending[1] = c.Pending[1], c.Pending[0] },
		"one twice":                     func(c *api.Client) { c.Pending[1] = c.Pending[0] },
		"one twice behind all":          func(c *api.Client) { c.Pending = append(c.Pending, c.Pending[2]) },
		"one twice behind all, counted": func(c *api.Client) { c.Seq++; c.Pending = append(c.Pending, c.Pending[2]) },
	} {
		all["Pending: "+name] = wrongClient{with(change), me, api.ErrForm}
	}
	all["Pending: of me, as another one"] = wrongClient{heard(), 0, api.ErrForm}
	all["Pending: of me, as one behind"] = wrongClient{heard(), 2, api.ErrForm}
}

func TestCheckTakes(t *testing.T) {
	for name, c := range good() {
		if e := client.Check(c, me); e != api.OK {
			t.Errorf("%s: %v, want OK", name, e)
		}
		for who := range 3 {
			l := slices.Clone(c.Pending)
			for k := range l {
				l[k].S.Who = who
			}
			other := c
			other.Pending = l
			if e := client.Check(other, who); e != api.OK {
				t.Errorf("%s, of %d: %v, want OK", name, who, e)
			}
		}
	}
}

func TestCheckRefusesTheRest(t *testing.T) {
	for name, x := range refused() {
		if e := client.Check(x.c, x.me); e != x.e {
			t.Errorf("%s: %v, want %v", name, e, x.e)
		}
	}
}

// TestCheckOfAllNumbers: each number, from outside to outside, and each me.
func TestCheckOfAllNumbers(t *testing.T) {
	for name, x := range numbers() {
		for n := -3; n <= x.greatest+3; n++ {
			c := api.Client{Life: 1}
			x.set(&c, n)
			want := api.OK
			if n < 0 || n > x.greatest {
				want = api.ErrRange
			}
			if e := client.Check(c, me); e != want {
				t.Errorf("%s %d: %v, want %v", name, n, e, want)
			}
		}
	}
	for who := -9; who <= 9; who++ {
		want := api.ErrWho
		if who >= 0 && who <= 2 {
			want = api.OK
		}
		if e := client.Check(begun(), who); e != want {
			t.Errorf("me %d: %v, want %v", who, e, want)
		}
	}
}

// TestCheckOfAllCounts: so many pending, behind so many that are accepted, and where Seq says another number of them.
func TestCheckOfAllCounts(t *testing.T) {
	for n := range 12 {
		for accepted := range 31 - n {
			want := api.OK
			if n > 8 {
				want = api.ErrMany
			}
			if e := client.Check(waiting(accepted, n), me); e != want {
				t.Errorf("%d behind %d: %v, want %v", n, accepted, e, want)
			}
			for seq := range 31 {
				c := waiting(accepted, n)
				c.Seq = seq
				want := want
				if n > 0 && n <= 8 && seq != accepted+n {
					want = api.ErrForm
				}
				if e := client.Check(c, me); e != want {
					t.Errorf("%d behind %d, Seq %d: %v, want %v", n, accepted, seq, e, want)
				}
			}
		}
	}
}

// rules of Check, in the order in which they are told.
func rules() []struct {
	broken func(c api.Client, me int) bool
	e      api.Errno
} {
	outside := func(n, least, greatest int) bool { return n < least || n > greatest }
	list := []struct {
		broken func(c api.Client, me int) bool
		e      api.Errno
	}{
		{func(c api.Client, me int) bool { return outside(me, 0, 2) }, api.ErrWho},
		{func(c api.Client, me int) bool { return outside(c.Life, 0, 50) }, api.ErrRange},
		{func(c api.Client, me int) bool { return outside(c.Time, 0, 10000) }, api.ErrRange},
		{func(c api.Client, me int) bool { return outside(c.Seq, 0, 30) }, api.ErrRange},
		{func(c api.Client, me int) bool { return outside(c.Version, 0, 60) }, api.ErrRange},
		{func(c api.Client, me int) bool { return len(c.Pending) > 8 }, api.ErrMany},
		{func(c api.Client, me int) bool { return view.Check(c.V) == api.ErrWho }, api.ErrWho},
		{func(c api.Client, me int) bool { return c.Life == 0 && c.Time != 0 }, api.ErrForm},
		{func(c api.Client, me int) bool { return c.Life == 0 && c.Seq != 0 }, api.ErrForm},
		{func(c api.Client, me int) bool { return c.Life == 0 && c.Version != 0 }, api.ErrForm},
		{func(c api.Client, me int) bool { return c.Version == 0 && len(c.V.Roots) != 0 }, api.ErrForm},
		{func(c api.Client, me int) bool { return len(c.Pending) > c.Seq }, api.ErrForm},
	}
	for k := range 3 {
		of := func(broken func(c api.Client, me int, o api.Op) bool) func(c api.Client, me int) bool {
			return func(c api.Client, me int) bool { return k < len(c.Pending) && broken(c, me, c.Pending[k]) }
		}
		list = append(list, []struct {
			broken func(c api.Client, me int) bool
			e      api.Errno
		}{
			{of(func(c api.Client, me int, o api.Op) bool { return outside(o.Node, 1, 15) }), api.ErrRange},
			{of(func(c api.Client, me int, o api.Op) bool { return o.S.Who != me || o.Life != c.Life }), api.ErrForm},
			{of(func(c api.Client, me int, o api.Op) bool { return c.Seq-o.Seq != len(c.Pending)-k-1 }), api.ErrForm},
			{of(func(c api.Client, me int, o api.Op) bool { return o.S.Time > c.Time }), api.ErrForm},
			{of(func(c api.Client, me int, o api.Op) bool { return k > 0 && o.S.Time <= c.Pending[k-1].S.Time }), api.ErrForm},
		}...)
	}
	return list
}

// TestCheckAgainstRules holds Check, for clients at all ends of their numbers, against a list of rules, of which the first that is broken is told.
func TestCheckAgainstRules(t *testing.T) {
	list := rules()
	pending := [][]api.Op{
		nil,
		{op(1, 1, 2, 0, 0, 1, 1)},
		{op(1, 1, 2, 0, 0, 1, 1), op(2, 1, 2, 0, 0, 1, 2)},
		{op(1, 1, 2, 0, 0, 1, 1), op(1, 1, 2, 0, 0, 1, 2)},
		{op(4, 1, 2, 0, 0, 1, 1), op(3, 1, 16, 0, 0, 1, 2)},
		{op(1, 1, 2, 0, 0, 1, 29), op(10000, 1, 2, 0, 0, 1, 30)},
		{op(1, 1, 2, 0, 0, 1, 28), op(2, 1, 2, 0, 0, 1, 29), op(2, 1, 2, 0, 0, 1, 30)},
		{op(1, 2, 2, 0, 0, 50, 30)},
		{op(1, 0, 0, 0, 0, 50, 30)},
		make([]api.Op, 8),
		make([]api.Op, 9),
	}
	views := []api.View{{}, {Roots: []int{0}}, {Roots: []int{17}}, someView()}
	for _, who := range []int{-1, 0, 1, 2, 3} {
		for _, life := range []int{-1, 0, 1, 50, 51} {
			for _, time := range []int{-1, 0, 1, 3, 4, 10000, 10001} {
				for _, seq := range []int{-1, 0, 1, 2, 8, 29, 30, 31} {
					for _, version := range []int{-1, 0, 1, 60, 61} {
						for _, l := range pending {
							for _, v := range views {
								c := api.Client{Life: life, Time: time, Seq: seq, Pending: l, Version: version, V: v}
								want := api.OK
								for _, r := range list {
									if r.broken(c, who) {
										want = r.e
										break
									}
								}
								if e := client.Check(c, who); e != want {
									t.Fatalf("%v as %d: %v, want %v", c, who, e, want)
								}
							}
						}
					}
				}
			}
		}
	}
}

// changes are of one field each.
func changes() map[string]func(c *api.Client) {
	return map[string]func(c *api.Client){
		"Life":               func(c *api.Client) { c.Life++ },
		"no Life":            func(c *api.Client) { c.Life = 0 },
		"Time":               func(c *api.Client) { c.Time-- },
		"Time far off":       func(c *api.Client) { c.Time = math.MaxInt },
		"Seq":                func(c *api.Client) { c.Seq++ },
		"Seq below":          func(c *api.Client) { c.Seq = -1 },
		"Version":            func(c *api.Client) { c.Version++ },
		"no Version":         func(c *api.Client) { c.Version = 0 },
		"numbers swapped":    func(c *api.Client) { c.Life, c.Time, c.Seq, c.Version = c.Time, c.Seq, c.Version, c.Life },
		"first: Time":        func(c *api.Client) { c.Pending[0].S.Time++ },
		"first: Who":         func(c *api.Client) { c.Pending[0].S.Who++ },
		"last: Node":         func(c *api.Client) { c.Pending[2].Node++ },
		"last: Parent":       func(c *api.Client) { c.Pending[2].Parent++ },
		"last: Name":         func(c *api.Client) { c.Pending[2].Name-- },
		"last: Life":         func(c *api.Client) { c.Pending[2].Life++ },
		"last: Seq":          func(c *api.Client) { c.Pending[2].Seq++ },
		"Pending: less":      func(c *api.Client) { c.Pending = c.Pending[:2] },
		"Pending: more":      func(c *api.Client) { c.Pending = append(c.Pending, api.Op{}) },
		"Pending: none":      func(c *api.Client) { c.Pending = nil },
		"Pending: order":     func(c *api.Client) { slices.Reverse(c.Pending) },
		"V: first root":      func(c *api.Client) { c.V.Roots[0] = 99 },
		"V: last root":       func(c *api.Client) { c.V.Roots[1]-- },
		"V: a root more":     func(c *api.Client) { c.V.Roots = append(c.V.Roots, 0) },
		"V: no roots":        func(c *api.Client) { c.V.Roots = nil },
		"V: Known, node":     func(c *api.Client) { c.V.Known[1].Node++ },
		"V: Known, parent":   func(c *api.Client) { c.V.Known[0].Parent-- },
		"V: Known, name":     func(c *api.Client) { c.V.Known[1].Name = -1 },
		"V: Known, less":     func(c *api.Client) { c.V.Known = c.V.Known[:1] },
		"V: Way, name":       func(c *api.Client) { c.V.Way[0].Name++ },
		"V: Way, more":       func(c *api.Client) { c.V.Way = append(c.V.Way, api.Place{}) },
		"V: Way, none":       func(c *api.Client) { c.V.Way = nil },
		"V: parts swapped":   func(c *api.Client) { c.V.Known, c.V.Way = c.V.Way, c.V.Known },
		"V":                  func(c *api.Client) { c.V = api.View{} },
		"all":                func(c *api.Client) { *c = api.Client{} },
		"another one":        func(c *api.Client) { *c = busy() },
		"what it then hears": func(c *api.Client) { c.V = changed() },
	}
}

func TestSame(t *testing.T) {
	all := good()
	if !client.Same(heard(), heard()) || !client.Same(all["zero"], all["zero, its lists empty"]) || !client.Same(all["zero, its lists empty"], all["zero"]) {
		t.Errorf("like ones are not the same")
	}
	for name, change := range changes() {
		a, b := with(change), with(change)
		if client.Same(a, heard()) || client.Same(heard(), a) {
			t.Errorf("%s: the same, though it changed", name)
		}
		if !client.Same(a, b) {
			t.Errorf("%s: not the same, though both changed alike", name)
		}
	}
	// Of clients that Check refuses, too, those alone are the same that are told alike.
	list := []api.Client{}
	for _, c := range good() {
		list = append(list, c)
	}
	for name, x := range refused() {
		if len(name) < 40 {
			list = append(list, x.c)
		}
	}
	var texts []string
	for _, c := range list {
		texts = append(texts, text(c))
	}
	for k, a := range list {
		for i, b := range list {
			if got := client.Same(a, b); got != (texts[k] == texts[i]) {
				t.Fatalf("%.200s and %.200s: %v", texts[k], texts[i], got)
			}
		}
	}
}

func TestBegin(t *testing.T) {
	ends := []int{math.MinInt, -10000, -2, -1, 0, 1, 2, 49, 50, 51, 52, 9999, 10000, 10001, 10002, math.MaxInt}
	for _, life := range ends {
		for _, time := range ends {
			c, e := client.Begin(life, time)
			if life < 1 || life > 50 || time < 0 || time > 10000 {
				if e != api.ErrRange || !noClient(c) {
					t.Errorf("life %d, time %d: %v, %v, want ErrRange alone", life, time, c, e)
				}
				continue
			}
			if want := (api.Client{Life: life, Time: time}); e != api.OK || text(c) != text(want) {
				t.Errorf("life %d, time %d: %v, %v, want %v", life, time, c, e, want)
			}
			for who := range 3 {
				if e := client.Check(c, who); e != api.OK {
					t.Errorf("life %d, time %d: Check as %d says %v", life, time, who, e)
				}
			}
		}
	}
}

func TestMove(t *testing.T) {
	for name, x := range map[string]struct {
		c    api.Client
		want api.Op
	}{
		"begun":                {begun(), op(6, me, 7, 2, 33, 2, 1)},
		"busy":                 {busy(), op(10, me, 7, 2, 33, 2, 3)},
		"heard":                {heard(), op(41, me, 7, 2, 33, 3, 7)},
		"at no time":           {api.Client{Life: 1}, op(1, me, 7, 2, 33, 1, 1)},
		"nothing pending":      {with(func(c *api.Client) { c.Pending = nil }), op(41, me, 7, 2, 33, 3, 7)},
		"the last but one":     {waiting(5, 7), op(13, me, 7, 2, 33, 1, 13)},
		"Time just below":      {with(func(c *api.Client) { c.Time = 9999 }), op(10000, me, 7, 2, 33, 3, 7)},
		"Seq just below":       {waiting(29, 0), op(30, me, 7, 2, 33, 1, 30)},
		"Seq just below, more": {waiting(24, 5), op(30, me, 7, 2, 33, 1, 30)},
		"all just below":       {api.Client{Life: 50, Time: 9999, Seq: 29, Version: 60}, op(10000, me, 7, 2, 33, 50, 30)},
	} {
		want := x.c
		want.Time, want.Seq = x.want.S.Time, x.want.Seq
		want.Pending = append(slices.Clone(x.c.Pending), x.want)
		c, o, e := client.Move(x.c, me, 7, 2, 33)
		if e != api.OK || o != x.want || text(c) != text(want) {
			t.Errorf("%s: %v, %v, %v, want %v", name, c, o, e, want)
		}
		if e := client.Check(c, me); e != api.OK {
			t.Errorf("%s: Check says %v", name, e)
		}
	}
}

// TestMoveOfAll: each client, and each node, parent and name, from outside to outside.
func TestMoveOfAll(t *testing.T) {
	for who := range 3 {
		for _, node := range []int{math.MinInt, -1, 0, 1, 2, 14, 15, 16, 17, math.MaxInt} {
			for _, parent := range []int{math.MinInt, -1, 0, 1, 2, 15, 16, 17, math.MaxInt} {
				for _, name := range []int{math.MinInt, -1, 0, 1, 98, 99, 100, math.MaxInt} {
					c, o, e := client.Move(begun(), who, node, parent, name)
					if node < 1 || node > 15 || parent < 0 || parent > 16 || name < 0 || name > 99 {
						if e != api.ErrRange || !noClient(c) || o != (api.Op{}) {
							t.Errorf("%d below %d by %d: %v, %v, %v, want ErrRange alone", node, parent, name, c, o, e)
						}
						continue
					}
					want := op(6, who, node, parent, name, 2, 1)
					if e != api.OK || o != want || text(c) != text(api.Client{Life: 2, Time: 6, Seq: 1, Pending: []api.Op{want}}) {
						t.Errorf("%d below %d by %d: %v, %v, %v", node, parent, name, c, o, e)
					}
				}
			}
		}
	}
}

// TestMoveRefuses: what is wrong with the client, then that it never lived, then that there is no room, then the operation.
func TestMoveRefuses(t *testing.T) {
	refuses := func(name string, c api.Client, who, node, parent, by int, want api.Errno) {
		t.Helper()
		if got, o, e := client.Move(c, who, node, parent, by); e != want || !noClient(got) || o != (api.Op{}) {
			t.Errorf("%s: %v, %v, %v, want %v alone", name, got, o, e, want)
		}
	}
	for name, x := range refused() {
		refuses(name, x.c, x.me, 3, 0, 0, x.e)
		refuses(name+", ahead of the operation", x.c, x.me, 0, 0, 0, x.e)
	}
	for name, x := range map[string]struct {
		c api.Client
		e api.Errno
	}{
		"never lived":        {api.Client{}, api.ErrLate},
		"as many pending":    {waiting(0, 8), api.ErrMany},
		"so many, accepted":  {waiting(20, 8), api.ErrMany},
		"Time at its end":    {api.Client{Life: 1, Time: 10000}, api.ErrMany},
		"Time, with pending": {with(func(c *api.Client) { c.Time = 10000 }), api.ErrMany},
		"Seq at its end":     {waiting(30, 0), api.ErrMany},
		"Seq, with pending":  {waiting(28, 2), api.ErrMany},
		"all at their ends":  {with(func(c *api.Client) { *c = waiting(22, 8); c.Time = 10000 }), api.ErrMany},
	} {
		refuses(name, x.c, me, 3, 0, 0, x.e)
		refuses(name+", ahead of node", x.c, me, 16, 0, 0, x.e)
		refuses(name+", ahead of parent", x.c, me, 3, -1, 0, x.e)
		refuses(name+", ahead of name", x.c, me, 3, 0, 100, x.e)
		refuses(name+", behind who", x.c, 3, 3, 0, 0, api.ErrWho)
	}
	for _, c := range []api.Client{begun(), busy(), heard(), waiting(3, 7)} {
		refuses("the root", c, me, 0, 0, 0, api.ErrRange)
		refuses("the bin", c, me, 16, 0, 0, api.ErrRange)
		refuses("below nothing", c, me, 3, 17, 0, api.ErrRange)
		refuses("by no name", c, me, 3, 0, -1, api.ErrRange)
	}
}

// TestMoveUntilFull: so many one after the other, as Check takes them; and what was accepted makes room again.
func TestMoveUntilFull(t *testing.T) {
	c := begun()
	var did []api.Op
	for n := range 30 {
		next, o, e := client.Move(c, me, 1+n%15, n%17, n)
		if len(c.Pending) == 8 {
			if e != api.ErrMany || !noClient(next) || o != (api.Op{}) {
				t.Fatalf("number %d: %v, %v, %v, want ErrMany alone", n, next, o, e)
			}
			m := api.Mail{Kind: api.MView, Who: me, Life: 2, Seq: c.Seq - 4, Version: c.Version + 1}
			if c, e = client.Hear(c, me, m); e != api.OK || len(c.Pending) != 4 {
				t.Fatalf("number %d: heard %v, %v", n, c, e)
			}
			next, o, e = client.Move(c, me, 1+n%15, n%17, n)
		}
		want := op(6+n, me, 1+n%15, n%17, n, 2, n+1)
		if e != api.OK || o != want || client.Check(next, me) != api.OK {
			t.Fatalf("number %d: %v, %v, %v, want %v", n, next, o, e, want)
		}
		did = append(did, o)
		if !slices.Equal(next.Pending, did[len(did)-len(next.Pending):]) {
			t.Fatalf("number %d: pending %v, did %v", n, next.Pending, did)
		}
		c = next
	}
	c.Pending = nil
	if next, o, e := client.Move(c, me, 1, 0, 0); e != api.ErrMany || !noClient(next) || o != (api.Op{}) {
		t.Errorf("one more than may be: %v, %v, %v, want ErrMany alone", next, o, e)
	}
}

func TestHear(t *testing.T) {
	for name, x := range map[string]struct {
		c, want api.Client
		m       api.Mail
	}{
		"a view": {heard(), with(func(c *api.Client) {
			c.Time, c.Version, c.V, c.Pending = 50, 12, viewMail().V, c.Pending[1:]
		}), viewMail()},
		"a delta": {heard(), with(func(c *api.Client) {
			c.Time, c.Version, c.V, c.Pending = 60, 14, changed(), c.Pending[2:]
		}), deltaMail()},
		"a view, of one that begun":   {begun(), api.Client{Life: 2, Time: 7, Version: 1, V: someView()}, api.Mail{Kind: api.MView, Who: me, Life: 2, Time: 7, Version: 1, V: someView()}},
		"nothing, of one that begun":  {begun(), api.Client{Life: 2, Time: 5, Version: 1}, api.Mail{Kind: api.MView, Who: me, Life: 2, Version: 1}},
		"a delta from nothing on":     {begun(), api.Client{Life: 2, Time: 5, Version: 1}, api.Mail{Kind: api.MDelta, Who: me, Life: 2, Version: 1}},
		"a delta of what isn't there": {begun(), api.Client{Life: 2, Time: 6, Version: 60}, api.Mail{Kind: api.MDelta, Who: me, Life: 2, Time: 6, Version: 60, D: api.Delta{Gone: []int{1, 15}, WayGone: []int{3}}}},
		"no view any more":            {heard(), with(func(c *api.Client) { c.Version, c.V = 10, api.View{} }), api.Mail{Kind: api.MView, Who: me, Life: 3, Version: 10}},
		"a delta of nothing":          {heard(), with(func(c *api.Client) { c.Version = 10 }), api.Mail{Kind: api.MDelta, Who: me, Life: 3, Version: 10, From: 9}},
		"all accepted":                {heard(), with(func(c *api.Client) { c.Version, c.V, c.Pending = 60, api.View{}, nil }), api.Mail{Kind: api.MView, Who: me, Life: 3, Seq: 6, Version: 60}},
		"at all ends": {
			api.Client{Life: 50, Time: 9999, Seq: 30, Pending: []api.Op{op(9999, me, 1, 0, 0, 50, 30)}, Version: 59, V: someView()},
			api.Client{Life: 50, Time: 10000, Seq: 30, Version: 60, V: changed()},
			mailWith(deltaMail(), func(m *api.Mail) { m.Life, m.Seq, m.Time, m.Version, m.From = 50, 30, 10000, 60, 59 }),
		},
	} {
		got, e := client.Hear(x.c, me, x.m)
		if e != api.OK || text(got) != text(x.want) {
			t.Errorf("%s: %v, %v, want %v", name, got, e, x.want)
		}
		if e := client.Check(got, me); e != api.OK {
			t.Errorf("%s: Check says %v", name, e)
		}
		// What came once is late when it comes again.
		if again, e := client.Hear(got, me, x.m); e != api.OK || text(again) != text(got) {
			t.Errorf("%s, again: %v, %v, want %v", name, again, e, got)
		}
	}
}

// TestHearChangesNothing: mail that is all right, but late or of no use.
func TestHearChangesNothing(t *testing.T) {
	for name, change := range map[string]func(m *api.Mail){
		"an elder life":              func(m *api.Mail) { m.Life = 2 },
		"the first life":             func(m *api.Mail) { m.Life = 1 },
		"a later life":               func(m *api.Mail) { m.Life = 4 },
		"the last life":              func(m *api.Mail) { m.Life = 50 },
		"the client's Version":       func(m *api.Mail) { m.Version, m.From = 9, 0 },
		"a Version below":            func(m *api.Mail) { m.Version, m.From = 8, 0 },
		"the first Version":          func(m *api.Mail) { m.Version, m.From = 1, 0 },
		"a Seq above":                func(m *api.Mail) { m.Seq = 7 },
		"the last Seq":               func(m *api.Mail) { m.Seq = 30 },
		"a Seq above, a late Time":   func(m *api.Mail) { m.Seq, m.Time = 7, 10000 },
		"another life, else as it's": func(m *api.Mail) { m.Life, m.Seq = 4, 0 },
		"all at once":                func(m *api.Mail) { m.Life, m.Version, m.From, m.Seq = 1, 2, 1, 30 },
	} {
		for kind, m := range map[string]api.Mail{"a view": viewMail(), "a delta": deltaMail()} {
			m := mailWith(m, change)
			if m.Kind == api.MView {
				m.From = 0
			}
			if got, e := client.Hear(heard(), me, m); e != api.OK || text(got) != text(heard()) {
				t.Errorf("%s: %s: %v, %v, want what it was", kind, name, got, e)
			}
		}
	}
	for _, from := range []int{0, 1, 7, 8, 10, 11, 12, 13} {
		m := mailWith(deltaMail(), func(m *api.Mail) { m.From = from })
		if got, e := client.Hear(heard(), me, m); e != api.OK || text(got) != text(heard()) {
			t.Errorf("a delta from %d: %v, %v, want what it was", from, got, e)
		}
	}
	// A delta that leads to no view does no harm where it is not applied.
	for name, change := range map[string]func(m *api.Mail){
		"from elsewhere": func(m *api.Mail) { m.From = 8 },
		"late":           func(m *api.Mail) { m.Version, m.From = 9, 8 },
		"another life":   func(m *api.Mail) { m.Life = 4 },
		"a Seq above":    func(m *api.Mail) { m.Seq = 7 },
	} {
		m := mailWith(deltaMail(), func(m *api.Mail) { m.D = api.Delta{Here: []api.Place{at(2, 2, 0)}}; change(m) })
		if got, e := client.Hear(heard(), me, m); e != api.OK || text(got) != text(heard()) {
			t.Errorf("a delta to no view, %s: %v, %v, want what it was", name, got, e)
		}
	}
	for name, m := range map[string]api.Mail{"a view": {Kind: api.MView, Who: me, Life: 1, Version: 1, V: someView()}, "a delta": {Kind: api.MDelta, Who: me, Life: 1, Version: 1}} {
		if got, e := client.Hear(api.Client{}, me, m); e != api.OK || text(got) != text(api.Client{}) {
			t.Errorf("%s, of one that never lived: %v, %v, want what it was", name, got, e)
		}
	}
}

// TestHearOfAllNumbers holds Hear, for mail at and beside each of the client's numbers, against what the chapter says of it.
func TestHearOfAllNumbers(t *testing.T) {
	for _, life := range []int{1, 2, 3, 4, 50} {
		for seq := range 31 {
			for _, time := range []int{0, 1, 39, 40, 41, 10000} {
				for _, version := range []int{1, 8, 9, 10, 11, 60} {
					for from := -1; from < min(version, 12); from++ {
						m := api.Mail{Kind: api.MDelta, Who: me, Life: life, Seq: seq, Time: time, Version: version, From: from, D: deltaMail().D}
						v := changed()
						if from < 0 {
							m.Kind, m.From, m.D, m.V, v = api.MView, 0, api.Delta{}, viewMail().V, viewMail().V
						}
						want := heard()
						if life == 3 && version > 9 && seq <= 6 && (from < 0 || from == 9) {
							want.V, want.Version = v, version
							if time > 40 {
								want.Time = time
							}
							for len(want.Pending) > 0 && want.Pending[0].Seq <= seq {
								want.Pending = want.Pending[1:]
							}
						}
						if got, e := client.Hear(heard(), me, m); e != api.OK || text(got) != text(want) {
							t.Fatalf("%v: %v, %v, want %v", m, got, e, want)
						}
					}
				}
			}
		}
	}
}

// TestHearWhichGo: of what is pending, up to what is accepted, and no other.
func TestHearWhichGo(t *testing.T) {
	for n := range 9 {
		for seq := range 21 + n {
			c := waiting(20, n)
			for kind, m := range map[string]api.Mail{
				"a view":  {Kind: api.MView, Who: me, Life: 1, Seq: seq, Version: 1},
				"a delta": {Kind: api.MDelta, Who: me, Life: 1, Seq: seq, Version: 1},
			} {
				got, e := client.Hear(c, me, m)
				want := c.Pending[max(0, seq-20):]
				if e != api.OK || !slices.Equal(got.Pending, want) || got.Seq != c.Seq || got.Time != c.Time || client.Check(got, me) != api.OK {
					t.Errorf("%s: %d pending behind 20, Seq %d: %v, %v", kind, n, seq, got, e)
				}
			}
		}
	}
}

// wrongMail is mail that chapter 9's Check refuses, to me of heard's life.
func wrongMail() map[string]struct {
	m api.Mail
	e api.Errno
} {
	all := map[string]struct {
		m api.Mail
		e api.Errno
	}{
		"zero":                   {api.Mail{}, api.ErrForm},
		"no kind":                {mailWith(viewMail(), func(m *api.Mail) { m.Kind = 0 }), api.ErrForm},
		"a kind too many":        {mailWith(viewMail(), func(m *api.Mail) { m.Kind = 4 }), api.ErrForm},
		"to nobody":              {mailWith(viewMail(), func(m *api.Mail) { m.Who = 3 }), api.ErrWho},
		"to nobody below":        {mailWith(deltaMail(), func(m *api.Mail) { m.Who = -1 }), api.ErrWho},
		"a view with From":       {mailWith(viewMail(), func(m *api.Mail) { m.From = 9 }), api.ErrForm},
		"a view with a delta":    {mailWith(viewMail(), func(m *api.Mail) { m.D = deltaMail().D }), api.ErrForm},
		"a delta with a view":    {mailWith(deltaMail(), func(m *api.Mail) { m.V = someView() }), api.ErrForm},
		"a view and an op":       {mailWith(viewMail(), func(m *api.Mail) { m.O = heard().Pending[0] }), api.ErrForm},
		"no Life":                {mailWith(viewMail(), func(m *api.Mail) { m.Life = 0 }), api.ErrRange},
		"a Life too many":        {mailWith(deltaMail(), func(m *api.Mail) { m.Life = 51 }), api.ErrRange},
		"Seq below":              {mailWith(viewMail(), func(m *api.Mail) { m.Seq = -1 }), api.ErrRange},
		"Seq above":              {mailWith(deltaMail(), func(m *api.Mail) { m.Seq = 31 }), api.ErrRange},
		"Time below":             {mailWith(viewMail(), func(m *api.Mail) { m.Time = -1 }), api.ErrRange},
		"Time above":             {mailWith(deltaMail(), func(m *api.Mail) { m.Time = 10001 }), api.ErrRange},
		"Version 0":              {mailWith(viewMail(), func(m *api.Mail) { m.Version = 0 }), api.ErrRange},
		"Version above":          {mailWith(viewMail(), func(m *api.Mail) { m.Version = 61 }), api.ErrRange},
		"From is Version":        {mailWith(deltaMail(), func(m *api.Mail) { m.From = 14 }), api.ErrRange},
		"From below":             {mailWith(deltaMail(), func(m *api.Mail) { m.From = -1 }), api.ErrRange},
		"a delta: the root goes": {mailWith(deltaMail(), func(m *api.Mail) { m.D.Gone = []int{0} }), api.ErrWho},
		"a delta: goes twice":    {mailWith(deltaMail(), func(m *api.Mail) { m.D.WayGone = []int{3, 3} }), api.ErrTwice},
		"a delta: many go":       {mailWith(deltaMail(), func(m *api.Mail) { m.D.Gone = make([]int, 17) }), api.ErrMany},
		"a delta: range":         {mailWith(deltaMail(), func(m *api.Mail) { m.D.Here = []api.Place{at(2, 17, 0)} }), api.ErrRange},
		"another one's op":       {api.Mail{Kind: api.MOp, Who: me, O: op(1, 0, 1, 0, 0, 1, 1)}, api.ErrForm},
		"no op":                  {api.Mail{Kind: api.MOp, Who: me, O: op(0, me, 1, 0, 0, 1, 1)}, api.ErrRange},
		"wrong, to another one":  {mailWith(viewMail(), func(m *api.Mail) { m.Who, m.Life = 0, 0 }), api.ErrRange},
		"wrong, of another life": {mailWith(viewMail(), func(m *api.Mail) { m.Life, m.Seq = 2, 31 }), api.ErrRange},
		"wrong, and late":        {mailWith(deltaMail(), func(m *api.Mail) { m.Version, m.From, m.D.Gone = 9, 8, []int{16} }), api.ErrWho},
	}
	for name, x := range wrongViews() {
		all["a view: "+name] = struct {
			m api.Mail
			e api.Errno
		}{mailWith(viewMail(), func(m *api.Mail) { m.V = x.v }), x.e}
	}
	return all
}

// TestHearRefuses: what is wrong with the client, then with the mail, then that it is not for this one, then the delta.
func TestHearRefuses(t *testing.T) {
	refuses := func(name string, c api.Client, who int, m api.Mail, want api.Errno) {
		t.Helper()
		if got, e := client.Hear(c, who, m); e != want || !noClient(got) {
			t.Errorf("%s: %v, %v, want %v alone", name, got, e, want)
		}
	}
	toNoView := mailWith(deltaMail(), func(m *api.Mail) { m.D.Here = []api.Place{at(2, 2, 0)} })
	for name, x := range refused() {
		for _, m := range []api.Mail{viewMail(), deltaMail(), toNoView, {}, {Kind: api.MView, Who: 3}, {Kind: api.MOp, Who: me, O: op(1, me, 1, 0, 0, 1, 1)}, {Kind: api.MView, Who: 0, Life: 1, Version: 1}} {
			refuses(name, x.c, x.me, m, x.e)
		}
	}
	for name, x := range wrongMail() {
		for what, c := range good() {
			refuses(what+" hears "+name, c, me, x.m, x.e)
		}
	}
	for what, c := range good() {
		refuses(what+" hears an operation", c, me, api.Mail{Kind: api.MOp, Who: me, O: op(1, me, 1, 0, 0, 1, 1)}, api.ErrForm)
		refuses(what+" hears another one's operation", c, me, api.Mail{Kind: api.MOp, Who: 2, O: op(1, 2, 1, 0, 0, 1, 1)}, api.ErrForm)
		for _, who := range []int{0, 2} {
			for _, m := range []api.Mail{viewMail(), deltaMail(), toNoView, mailWith(viewMail(), func(m *api.Mail) { m.Life = 1 }), mailWith(viewMail(), func(m *api.Mail) { m.Version = 1 })} {
				m.Who = who
				refuses(what+" hears mail to "+strconv.Itoa(who), c, me, m, api.ErrForm)
			}
		}
	}
	// Nothing of the mail is taken where its delta is refused.
	for name, d := range map[string]api.Delta{
		"below itself":      {Here: []api.Place{at(2, 2, 0)}},
		"a ring":            {Here: []api.Place{at(2, 4, 0)}},
		"a ring of the way": {WayHere: []api.Place{at(1, 4, 0)}},
		"beside the roots":  {Here: []api.Place{at(7, 0, 0)}},
		"the way goes off":  {Here: []api.Place{at(2, 8, 0)}},
		"the root goes":     {Gone: []int{2}},
		"in both":           {WayHere: []api.Place{at(2, 0, 0)}},
	} {
		m := mailWith(deltaMail(), func(m *api.Mail) { m.D = d })
		if _, e := delta.Apply(someView(), d); e != api.ErrForm {
			t.Fatalf("%s: Apply says %v", name, e)
		}
		refuses("a delta to no view: "+name, heard(), me, m, api.ErrForm)
	}
	refuses("a delta from nothing to something", begun(), me, api.Mail{Kind: api.MDelta, Who: me, Life: 2, Version: 1, D: api.Delta{Here: []api.Place{at(1, 0, 0)}}}, api.ErrForm)
}

func TestShows(t *testing.T) {
	mine := func(v api.View, l ...api.Op) api.Client {
		c := api.Client{Life: 3, Time: 10000, Seq: len(l), Pending: l, Version: 1, V: v}
		for k := range l {
			l[k].S, l[k].Life, l[k].Seq = api.Stamp{Time: k + 1, Who: me}, 3, k+1
		}
		return c
	}
	moves := func(node, parent, name int) api.Op { return op(0, 0, node, parent, name, 0, 0) }
	way := api.View{Roots: []int{3}, Known: []api.Place{at(3, 7, 1), at(5, 3, 2), at(9, 5, 0)}, Way: []api.Place{at(4, 0, 6), at(7, 4, 8)}}
	for name, x := range map[string]struct {
		c    api.Client
		want []api.Place
	}{
		"never lived":               {api.Client{}, nil},
		"begun":                     {begun(), nil},
		"heard of nothing":          {mine(api.View{}), nil},
		"roots that stand not":      {mine(api.View{Roots: []int{1, 2}}), nil},
		"busy":                      {busy(), []api.Place{at(3, 0, 9), at(4, 3, 8)}},
		"heard":                     {heard(), []api.Place{at(1, 0, 5), at(2, 1, 7), at(4, 5, 1), at(5, 2, 7)}},
		"nothing pending":           {mine(way), []api.Place{at(3, 7, 1), at(4, 0, 6), at(5, 3, 2), at(7, 4, 8), at(9, 5, 0)}},
		"the known alone":           {mine(api.View{Roots: []int{0}, Known: []api.Place{at(1, 0, 1), at(2, 1, 2)}}), []api.Place{at(1, 0, 1), at(2, 1, 2)}},
		"the way alone":             {mine(api.View{Roots: []int{2}, Known: []api.Place{at(2, 1, 0)}, Way: []api.Place{at(1, 16, 0)}}), []api.Place{at(1, 16, 0), at(2, 1, 0)}},
		"a known one moved":         {mine(way, moves(5, 7, 3)), []api.Place{at(3, 7, 1), at(4, 0, 6), at(5, 7, 3), at(7, 4, 8), at(9, 5, 0)}},
		"one of the way moved":      {mine(way, moves(4, 16, 1)), []api.Place{at(3, 7, 1), at(4, 16, 1), at(5, 3, 2), at(7, 4, 8), at(9, 5, 0)}},
		"a new one":                 {mine(way, moves(6, 3, 3)), []api.Place{at(3, 7, 1), at(4, 0, 6), at(5, 3, 2), at(6, 3, 3), at(7, 4, 8), at(9, 5, 0)}},
		"the same one, three times": {mine(way, moves(9, 0, 1), moves(9, 16, 2), moves(9, 4, 3)), []api.Place{at(3, 7, 1), at(4, 0, 6), at(5, 3, 2), at(7, 4, 8), at(9, 4, 3)}},
		"the same one, and back":    {mine(way, moves(9, 0, 1), moves(9, 5, 0)), []api.Place{at(3, 7, 1), at(4, 0, 6), at(5, 3, 2), at(7, 4, 8), at(9, 5, 0)}},
		"one below itself":          {mine(way, moves(3, 3, 0)), []api.Place{at(3, 7, 1), at(4, 0, 6), at(5, 3, 2), at(7, 4, 8), at(9, 5, 0)}},
		"a ring of the known":       {mine(way, moves(3, 9, 0)), []api.Place{at(3, 7, 1), at(4, 0, 6), at(5, 3, 2), at(7, 4, 8), at(9, 5, 0)}},
		"a ring of both parts":      {mine(way, moves(4, 9, 0)), []api.Place{at(3, 7, 1), at(4, 0, 6), at(5, 3, 2), at(7, 4, 8), at(9, 5, 0)}},
		"a ring of what is pending": {mine(api.View{}, moves(1, 2, 0), moves(2, 1, 0)), []api.Place{at(1, 2, 0)}},
		"no ring the other way":     {mine(api.View{}, moves(2, 1, 0), moves(1, 2, 0)), []api.Place{at(2, 1, 0)}},
		"a ring, and one behind it": {mine(way, moves(3, 9, 0), moves(9, 0, 7), moves(3, 9, 4)), []api.Place{at(3, 9, 4), at(4, 0, 6), at(5, 3, 2), at(7, 4, 8), at(9, 0, 7)}},
	} {
		got, e := client.Shows(x.c, me)
		if e != api.OK || !slices.Equal(got.P, x.want) {
			t.Errorf("%s: %v, %v, want %v", name, got, e, x.want)
		}
	}
}

func TestShowsRefuses(t *testing.T) {
	for name, x := range refused() {
		if got, e := client.Shows(x.c, x.me); e != x.e || got.P != nil {
			t.Errorf("%s: %v, %v, want %v alone", name, got, e, x.e)
		}
	}
}

// TestShowsAgainstATable holds Shows, for all rows of three moves of three nodes on some views, against a table of who stands where.
func TestShowsAgainstATable(t *testing.T) {
	views := []api.View{
		{},
		{Roots: []int{0}, Known: []api.Place{at(1, 0, 1), at(2, 1, 2), at(3, 2, 3)}},
		{Roots: []int{2}, Known: []api.Place{at(2, 1, 2), at(3, 2, 3)}, Way: []api.Place{at(1, 16, 1)}},
		{Roots: []int{1}, Known: []api.Place{at(1, 3, 1)}, Way: []api.Place{at(2, 0, 2), at(3, 2, 3)}},
	}
	parents := []int{0, 1, 2, 3, 5}
	for _, v := range views {
		start := map[int]api.Place{}
		for _, p := range slices.Concat(v.Known, v.Way) {
			start[p.Node] = p
		}
		for k := range 15 * 15 * 15 {
			c := api.Client{Life: 1, Version: 1, V: v}
			stands := map[int]api.Place{}
			for n, p := range start {
				stands[n] = p
			}
			for n, rest := 0, k; n < 3; n, rest = n+1, rest/15 {
				node, parent := 1+rest%3, parents[rest%15/3]
				var e api.Errno
				if c, _, e = client.Move(c, me, node, parent, 10+n); e != api.OK {
					t.Fatal(e)
				}
				up := parent
				for up != node && stands[up].Node != 0 {
					up = stands[up].Parent
				}
				if up != node {
					stands[node] = at(node, parent, 10+n)
				}
			}
			var want []api.Place
			for n := range api.MaxNode {
				if p := stands[n]; p.Node != 0 {
					want = append(want, p)
				}
			}
			if got, e := client.Shows(c, me); e != api.OK || !slices.Equal(got.P, want) {
				t.Fatalf("%v: %v, %v, want %v", c, got, e, want)
			}
		}
	}
}

// pair is a client, and a hub that knows of it.
type pair struct {
	c api.Client
	h api.Hub
}

// TestWithAHub: whatever the client does, and whichever of it a hub accepts and tells of, in all rows of so many steps:
// the client sees what the hub says it sees, and shows that, and what isn't accepted on it.
func TestWithAHub(t *testing.T) {
	moves := [][2]int{{1, 0}, {1, 2}, {2, 1}, {3, 16}}
	accept := func(h api.Hub, r api.Rec) api.Hub {
		next, e := hub.Next(h, r)
		if e != api.OK {
			t.Fatalf("%v to %v: %v", r, h, e)
		}
		return next
	}
	first := accept(accept(hub.New(), api.Rec{Kind: api.RLife, Who: me, Life: 1}), api.Rec{Kind: api.RRoots, Who: me, Roots: []int{0, 2}})
	c, _ := client.Begin(1, 0)
	var walk func(p pair, was []api.View, steps int)
	walk = func(p pair, was []api.View, steps int) {
		pending := p.c.Seq - p.h.Peers[me].Seq
		holds(t, p, was, pending)
		if steps == 0 {
			return
		}
		for _, m := range moves {
			next, _, e := client.Move(p.c, me, m[0], m[1], 7)
			if e != api.OK {
				t.Fatalf("Move of %v: %v", p.c, e)
			}
			walk(pair{next, p.h}, was, steps-1)
		}
		if pending > 0 {
			o := p.c.Pending[len(p.c.Pending)-pending]
			next := accept(p.h, api.Rec{Kind: api.ROp, O: o})
			walk(pair{p.c, next}, append(slices.Clone(was), sees(t, next)), steps-1)
		}
		for from := -1; from < p.h.Version; from++ {
			if m, ok := news(t, p.h, was, from); ok {
				next, e := client.Hear(p.c, me, m)
				if e != api.OK {
					t.Fatalf("%v hears %v: %v", p.c, m, e)
				}
				walk(pair{next, p.h}, was, steps-1)
			}
		}
	}
	walk(pair{c, first}, []api.View{{}, {}, sees(t, first)}, 6)
}

func sees(t *testing.T, h api.Hub) api.View {
	t.Helper()
	v, e := hub.Sees(h, me)
	if e != api.OK {
		t.Fatalf("Sees of %v: %v", h, e)
	}
	return v
}

// news is what h tells of the version it has, from one on that has a delta to it, or, from -1 on, whole.
func news(t *testing.T, h api.Hub, was []api.View, from int) (api.Mail, bool) {
	t.Helper()
	m := api.Mail{Kind: api.MView, Who: me, Life: 1, Seq: h.Peers[me].Seq, Version: h.Version}
	if len(h.H.L) > 0 {
		m.Time = h.H.L[len(h.H.L)-1].O.S.Time
	}
	if from < 0 {
		m.V = sees(t, h)
	} else {
		d, e := delta.Of(was[from], sees(t, h))
		if e != api.OK {
			return api.Mail{}, false
		}
		m.Kind, m.From, m.D = api.MDelta, from, d
	}
	if e := way.Check([]api.Mail{m}); e != api.OK {
		t.Fatalf("%v: %v", m, e)
	}
	return m, true
}

func holds(t *testing.T, p pair, was []api.View, pending int) {
	t.Helper()
	if e := client.Check(p.c, me); e != api.OK {
		t.Fatalf("%v: Check says %v", p.c, e)
	}
	if !view.Same(p.c.V, was[p.c.Version]) {
		t.Fatalf("%v at %d sees %v, want %v", p.c, p.c.Version, p.c.V, was[p.c.Version])
	}
	if len(p.c.Pending) < pending {
		t.Fatalf("%v: %d of it are not accepted", p.c, pending)
	}
	// Of one client's operations the hub's tree is what they make one after the other; the roots leave out what is in the bin.
	if p.c.Version != p.h.Version {
		return
	}
	l := []api.Op{}
	for _, s := range p.h.H.L {
		l = append(l, s.O)
	}
	if len(p.c.Pending) != pending {
		t.Fatalf("%v heard all, and %d are pending", p.c, len(p.c.Pending))
	}
	want, e := history.Fold(append(l, p.c.Pending...))
	if e != api.OK {
		t.Fatal(e)
	}
	got, e := client.Shows(p.c, me)
	if e != api.OK || text(seen(t, got)) != text(seen(t, want.T)) {
		t.Fatalf("%v shows %v, %v, want %v", p.c, got, e, want.T)
	}
}

func seen(t *testing.T, x api.Tree) api.View {
	t.Helper()
	v, e := view.Of(x, []int{0, 2})
	if e != api.OK {
		t.Fatal(e)
	}
	return v
}

// roomy answers a list of l's values, with other ones in the room behind it, and all of that.
func roomy[T any](l []T, other T) ([]T, []T) {
	all := append(slices.Clone(l), other, other, other)
	return all[:len(l)], all
}

// laidView answers v with room behind each of its lists, and a look at all of that memory.
func laidView(v api.View) (api.View, func() string) {
	var roots []int
	var parts [2][]api.Place
	v.Roots, roots = roomy(v.Roots, 70)
	v.Known, parts[0] = roomy(v.Known, at(80, 80, 80))
	v.Way, parts[1] = roomy(v.Way, at(81, 81, 81))
	return v, func() string { return text(roots) + text(parts) }
}

func laid(c api.Client) (api.Client, func() string) {
	v, look := laidView(c.V)
	l, all := roomy(c.Pending, op(90, 90, 90, 90, 90, 90, 90))
	c.Pending, c.V = l, v
	return c, func() string { return text(all) + look() }
}

func laidMail(m api.Mail) (api.Mail, func() string) {
	v, look := laidView(m.V)
	var ints [2][]int
	var places [2][]api.Place
	m.V = v
	m.D.Gone, ints[0] = roomy(m.D.Gone, 71)
	m.D.WayGone, ints[1] = roomy(m.D.WayGone, 72)
	m.D.Here, places[0] = roomy(m.D.Here, at(82, 82, 82))
	m.D.WayHere, places[1] = roomy(m.D.WayHere, at(83, 83, 83))
	return m, func() string { return look() + text(ints) + text(places) }
}

// fill writes x over all of l, and all room behind it.
func fill[T any](l []T, x T) {
	l = l[:cap(l)]
	for k := range l {
		l[k] = x
	}
}

// spoil writes over all lists of an answer, and asks that no two of them are of one memory.
func spoil(t *testing.T, what string, c api.Client) {
	t.Helper()
	fill(c.Pending, op(1000, 0, 0, 0, 0, 0, 0))
	fill(c.V.Roots, 1001)
	fill(c.V.Known, at(1002, 0, 0))
	fill(c.V.Way, at(1003, 0, 0))
	for _, p := range c.V.Known[:cap(c.V.Known)] {
		if p.Node != 1002 {
			t.Fatalf("%s: both parts of the view share memory", what)
		}
	}
}

// TestOnlyReads: neither a list that is handed in nor the room behind it changes, and what is answered is not of that memory, nor two lists of it of one.
func TestOnlyReads(t *testing.T) {
	all := map[string]wrongClient{}
	for name, c := range good() {
		all[name] = wrongClient{c: c, me: me}
	}
	for name, x := range refused() {
		if len(name) < 40 && len(x.c.Pending) < 100 {
			all["refused: "+name] = x
		}
	}
	mails := []api.Mail{viewMail(), deltaMail(), {}, {Kind: api.MView, Who: me, Life: 3, Seq: 6, Version: 60}, mailWith(deltaMail(), func(m *api.Mail) { m.D.Gone = []int{2} })}
	for _, life := range []int{1, 2} {
		mails = append(mails, mailWith(viewMail(), func(m *api.Mail) { m.Life, m.Seq = life, 0 }), api.Mail{Kind: api.MDelta, Who: me, Life: life, Seq: 1, Version: 60, D: api.Delta{Gone: []int{1}}})
	}
	for name, x := range all {
		in, look := laid(x.c)
		was, isText := look(), text(in)
		stays := func(what string) {
			t.Helper()
			if look() != was || text(in) != isText {
				t.Fatalf("%s: %s left %v", name, what, in)
			}
		}
		client.Check(in, x.me)
		stays("Check")
		client.Same(in, in)
		client.Same(in, heard())
		client.Same(heard(), in)
		stays("Same")
		for _, node := range []int{0, 1, 4} {
			got, _, _ := client.Move(in, x.me, node, 2, 9)
			spoil(t, name+": Move", got)
			stays("Move")
		}
		for _, m := range mails {
			m, lookAtIt := laidMail(m)
			mailText, mailWas := text(m), lookAtIt()
			got, _ := client.Hear(in, x.me, m)
			spoil(t, name+": Hear", got)
			stays("Hear")
			if text(m) != mailText || lookAtIt() != mailWas {
				t.Fatalf("%s: Hear left %v of what it heard", name, m)
			}
		}
		tree, _ := client.Shows(in, x.me)
		fill(tree.P, at(1004, 0, 0))
		stays("Shows")
	}
}

// TestSharedListsArePulledApart: what is handed in with lists that are of one memory has lists of their own in the answer.
func TestSharedListsArePulledApart(t *testing.T) {
	places := []api.Place{at(1, 0, 5), at(2, 1, 7), at(3, 2, 8)}
	v := api.View{Roots: []int{2}, Known: places[1:], Way: places[:1]}
	in := api.Client{Life: 3, Time: 9, Seq: 1, Pending: []api.Op{op(9, me, 3, 0, 0, 3, 1)}, Version: 9, V: v}
	was := text(in)
	for name, m := range map[string]api.Mail{
		"a view":            {Kind: api.MView, Who: me, Life: 3, Version: 10, V: v},
		"a delta":           {Kind: api.MDelta, Who: me, Life: 3, Version: 10, From: 9, D: api.Delta{Gone: v.Roots[:0], Here: places[2:], WayHere: places[:1]}},
		"a delta of nought": {Kind: api.MDelta, Who: me, Life: 3, Version: 10, From: 9},
		"nothing new":       {Kind: api.MView, Who: me, Life: 3, Version: 9, V: v},
	} {
		mailWas := text(m)
		got, e := client.Hear(in, me, m)
		if e != api.OK {
			t.Fatalf("%s: %v", name, e)
		}
		spoil(t, name, got)
		if text(in) != was || text(m) != mailWas {
			t.Fatalf("%s: Hear left %v and %v", name, in, m)
		}
	}
	got, _, e := client.Move(in, me, 1, 0, 0)
	if e != api.OK {
		t.Fatal(e)
	}
	spoil(t, "Move", got)
	if text(in) != was {
		t.Fatalf("Move left %v", in)
	}
	for _, c := range []api.Client{in, {Life: 3, Version: 9, V: v}} {
		tree, e := client.Shows(c, me)
		if e != api.OK {
			t.Fatal(e)
		}
		fill(tree.P, at(1004, 0, 0))
		if text(in) != was {
			t.Fatalf("Shows left %v", in)
		}
	}
}

// TestAnswersAgain: what a call answers hangs on its arguments alone, whatever was called ahead of it.
func TestAnswersAgain(t *testing.T) {
	moved, o, e := client.Move(heard(), me, 7, 2, 33)
	news, f := client.Hear(heard(), me, deltaMail())
	shown, g := client.Shows(heard(), me)
	for _, x := range refused() {
		client.Move(x.c, x.me, 1, 2, 3)
		client.Hear(x.c, x.me, viewMail())
		client.Shows(x.c, x.me)
	}
	client.Begin(9, 9)
	moved2, o2, e2 := client.Move(heard(), me, 7, 2, 33)
	news2, f2 := client.Hear(heard(), me, deltaMail())
	shown2, g2 := client.Shows(heard(), me)
	if text(moved) != text(moved2) || o != o2 || e != e2 {
		t.Errorf("Move: %v, %v, %v, and then %v, %v, %v", moved, o, e, moved2, o2, e2)
	}
	if text(news) != text(news2) || f != f2 {
		t.Errorf("Hear: %v, %v, and then %v, %v", news, f, news2, f2)
	}
	if text(shown) != text(shown2) || g != g2 {
		t.Errorf("Shows: %v, %v, and then %v, %v", shown, g, shown2, g2)
	}
}
