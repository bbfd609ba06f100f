package world_test

import (
	"fmt"
	"math"
	"slices"
	"strconv"
	"strings"
	"testing"

	"orangery/api"
	"orangery/world"
)

func at(node, parent, name int) api.Place {
	return api.Place{Node: node, Parent: parent, Name: name}
}

// op of a stamp moves node below parent, by name; it is of this life, and of this number in it.
func op(time, who, node, parent, name, life, seq int) api.Op {
	return api.Op{S: api.Stamp{Time: time, Who: who}, Node: node, Parent: parent, Name: name, Life: life, Seq: seq}
}

func opMail(o api.Op) api.Mail {
	return api.Mail{Kind: api.MOp, Who: o.S.Who, O: o}
}

// text tells all fields, and makes no difference of lists that are nil and ones that are empty.
func text(x any) string {
	return fmt.Sprint(x)
}

func noWorld(w api.World) bool {
	return w.H.H.L == nil && w.H.H.T.P == nil && w.H.Peers == nil && w.D.Safe == nil && w.D.Wait == nil &&
		w.C == nil && w.Mail == nil && text(w) == text(api.World{})
}

// empty is what a new world is, written out.
func empty() api.World {
	return api.World{H: newHub(), Up: true, C: []api.Client{{}, {}, {}}}
}

func newHub() api.Hub {
	return api.Hub{Peers: []api.Peer{{}, {}, {}}}
}

// livedText are the records of lived: the operation that was accepted last is not of the greatest time.
const livedText = "life 0 1\nlife 1 1\nroots 0 0\nop 5 0 3 0 7 1 1\nroots 1 3\nop 2 1 4 3 8 1 1\n"

// livedHub is what livedText makes, written out.
func livedHub() api.Hub {
	return api.Hub{
		H: api.History{
			L: []api.Step{{O: op(2, 1, 4, 3, 8, 1, 1), Did: true}, {O: op(5, 0, 3, 0, 7, 1, 1), Did: true}},
			T: api.Tree{P: []api.Place{at(3, 0, 7), at(4, 3, 8)}},
		},
		Version: 6,
		Peers:   []api.Peer{{Life: 1, Seq: 1, Roots: []int{0}}, {Life: 1, Seq: 1, Roots: []int{3}}, {}},
	}
}

// The mail of lived, by number.
const (
	opOf1   = 0
	viewTo1 = 1
	diffTo0 = 2
	opOf0   = 3
	mails   = 4
)

// lived has two clients that began, of which each did more than what was accepted, and mail of each kind; client 2 never lived.
func lived() api.World {
	first, second, third := op(2, 1, 4, 3, 8, 1, 1), op(3, 1, 6, 4, 2, 1, 2), op(6, 0, 5, 3, 1, 1, 2)
	return api.World{
		H: livedHub(), D: api.Disk{Safe: []byte(livedText)}, Up: true,
		C: []api.Client{
			{Life: 1, Time: 6, Seq: 2, Pending: []api.Op{third}, Version: 4, V: api.View{Roots: []int{0}, Known: []api.Place{at(3, 0, 7)}}},
			{Life: 1, Time: 3, Seq: 2, Pending: []api.Op{first, second}},
			{},
		},
		Mail: []api.Mail{opMail(second), livedView(), livedDelta(), opMail(third)},
	}
}

func livedView() api.Mail {
	v := api.View{Roots: []int{3}, Known: []api.Place{at(3, 0, 7), at(4, 3, 8)}}
	return api.Mail{Kind: api.MView, Who: 1, Life: 1, Seq: 1, Time: 5, Version: 6, V: v}
}

func livedDelta() api.Mail {
	d := api.Delta{Here: []api.Place{at(4, 3, 8)}}
	return api.Mail{Kind: api.MDelta, Who: 0, Life: 1, Seq: 1, Time: 5, Version: 6, From: 4, D: d}
}

// down is lived without power.
func down() api.World {
	w := lived()
	w.H, w.Up = newHub(), false
	return w
}

// with answers what w is, but for one change.
func with(w api.World, change func(w *api.World)) api.World {
	change(&w)
	return w
}

// lives answers that many records of lives of a client, one after the other.
func lives(who, n int) string {
	s := ""
	for k := range n {
		s += "life " + strconv.Itoa(who) + " " + strconv.Itoa(k+1) + "\n"
	}
	return s
}

// written answers a world of these records, which is up; as no client needs to know of them, all are zero.
func written(t *testing.T, records string) api.World {
	t.Helper()
	w := api.World{H: newHub(), D: api.Disk{Safe: []byte(records)}, C: []api.Client{{}, {}, {}}}
	up, e := world.Do(w, api.Happening{Kind: api.HBoot})
	if e != api.OK {
		t.Fatalf("%.200q: %v", records, e)
	}
	return up
}

// accepted answers records of a life of client 2 and n operations in it.
func accepted(n int) string {
	s := "life 2 1\n"
	for k := range n {
		s += "op " + strconv.Itoa(k+1) + " 2 1 0 0 1 " + strconv.Itoa(k+1) + "\n"
	}
	return s
}

func good(t *testing.T) map[string]api.World {
	return map[string]api.World{
		"new":                       empty(),
		"new, its lists empty":      {H: api.Hub{H: api.History{L: []api.Step{}, T: api.Tree{P: []api.Place{}}}, Peers: []api.Peer{{Roots: []int{}}, {}, {}}}, D: api.Disk{Safe: []byte{}, Wait: []byte{}}, Up: true, C: []api.Client{{Pending: []api.Op{}}, {}, {}}, Mail: []api.Mail{}},
		"new, without power":        with(empty(), func(w *api.World) { w.Up = false }),
		"lived":                     lived(),
		"down":                      down(),
		"down, something waits":     with(down(), func(w *api.World) { w.D.Wait = []byte("life 2 1\nop 9") }),
		"down, all waits":           with(down(), func(w *api.World) { w.D = api.Disk{Wait: w.D.Safe} }),
		"down, out of turn":         with(down(), func(w *api.World) { w.D.Safe = []byte("life 0 2\nroots 1 0\n") }),
		"down, too many operations": with(down(), func(w *api.World) { w.D.Safe = []byte(accepted(30) + "op 31 2 1 0 0 1 30\n") }),
		"down, waits as long":       with(down(), func(w *api.World) { w.D.Wait = make([]byte, 60000-len(livedText)) }),
		"no mail":                   with(lived(), func(w *api.World) { w.Mail = nil }),
		"as much mail as may be":    with(lived(), func(w *api.World) { w.Mail = slices.Repeat(w.Mail[:1], 30) }),
		"mail of another life":      with(lived(), func(w *api.World) { w.Mail[viewTo1].Life, w.Mail[diffTo0].Version = 50, 60 }),
		"mail to one that lives not": with(empty(), func(w *api.World) {
			w.Mail = []api.Mail{{Kind: api.MView, Who: 2, Life: 3, Seq: 30, Time: 10000, Version: 60}}
		}),
		"mail with all that there is": with(lived(), func(w *api.World) {
			w.C[0].V = api.View{Roots: []int{2, 10}, Known: []api.Place{at(2, 1, 7), at(4, 2, 3)}, Way: []api.Place{at(1, 0, 5)}}
			w.Mail[viewTo1].V = w.C[0].V
			w.Mail[diffTo0].D = api.Delta{Gone: []int{4}, Here: []api.Place{at(2, 6, 7)}, WayGone: []int{1}, WayHere: []api.Place{at(6, 0, 0)}}
		}),
		"clients that hub knows not": with(empty(), func(w *api.World) { w.C = lived().C }),
		"clients at their ends": with(empty(), func(w *api.World) {
			for k := range w.C {
				w.C[k] = api.Client{Life: 50, Time: 10000, Seq: 30, Version: 60}
			}
		}),
		"hub that clients know not": with(lived(), func(w *api.World) { w.C = []api.Client{{}, {}, {}} }),
		"a log that is full":        written(t, lives(0, 50)+lives(1, 10)),
		"a history that is full":    written(t, accepted(30)),
	}
}

// wrong is what keeps a world from being one.
type wrong struct {
	name   string
	change func(w *api.World)
	e      api.Errno
}

// wrongs are in the order in which they are told; those of one list are of one turn. They may be laid on each other, the
// later ones first.
func wrongs() [][]wrong {
	return [][]wrong{wrongCounts(), wrongMail(), wrongDisks(), wrongWaits(), wrongRecords(), wrongHubs(), wrongClients(0), wrongClients(1), wrongClients(2)}
}

func wrongCounts() []wrong {
	return []wrong{
		{"no clients", func(w *api.World) { w.C = nil }, api.ErrForm},
		{"one client", func(w *api.World) { w.C = w.C[:1] }, api.ErrForm},
		{"one client fewer", func(w *api.World) { w.C = w.C[:2] }, api.ErrForm},
		{"one client more", func(w *api.World) { w.C = append(slices.Clone(w.C), api.Client{}) }, api.ErrForm},
		{"many clients", func(w *api.World) { w.C = make([]api.Client, 1000) }, api.ErrForm},
	}
}

func wrongMail() []wrong {
	mail := func(m api.Mail) func(w *api.World) {
		return func(w *api.World) { w.Mail = append(slices.Clone(w.Mail), m) }
	}
	return []wrong{
		{"one mail too many", func(w *api.World) { w.Mail = slices.Repeat([]api.Mail{livedView()}, 31) }, api.ErrMany},
		{"mail of no kind", mail(api.Mail{}), api.ErrForm},
		{"mail to nobody", mail(api.Mail{Kind: api.MView, Who: 3}), api.ErrWho},
		{"mail with what it has no use for", mail(api.Mail{Kind: api.MOp, Life: 1}), api.ErrForm},
		{"mail out of range", mail(api.Mail{Kind: api.MView}), api.ErrRange},
		{"mail with a view that is none", mail(api.Mail{Kind: api.MView, Life: 1, Version: 1, V: api.View{Roots: []int{1, 1}}}), api.ErrTwice},
	}
}

func wrongDisks() []wrong {
	behind := func(s string) func(w *api.World) {
		return func(w *api.World) { w.D.Safe = append(slices.Clone(w.D.Safe), s...) }
	}
	return []wrong{
		{"too long a disk", behind(strings.Repeat("x", 60000)), api.ErrMany},
		{"a torn line", behind("life 2 1"), api.ErrTorn},
		{"no record", behind("life 2 01\n"), api.ErrText},
		{"a record out of range", behind("life 3 1\n"), api.ErrRange},
		{"a record of roots that none are", behind("roots 0 17\n"), api.ErrWho},
		{"too many lines", behind(strings.Repeat("life 2 1\n", 61)), api.ErrMany},
	}
}

func wrongWaits() []wrong {
	return []wrong{
		{"a line waits", func(w *api.World) { w.D.Wait = []byte("life 2 1\n") }, api.ErrForm},
		{"a byte waits", func(w *api.World) { w.D.Wait = []byte("x") }, api.ErrForm},
	}
}

// wrongRecords are read all right, but no hub wrote them.
func wrongRecords() []wrong {
	ahead := func(s string) func(w *api.World) {
		return func(w *api.World) { w.D.Safe = append([]byte(s), w.D.Safe...) }
	}
	return []wrong{
		{"a life left out", ahead("life 0 2\n"), api.ErrLate},
		{"an operation of no life", ahead("op 1 0 1 0 0 1 1\n"), api.ErrLate},
		{"roots of one that never lived", ahead("roots 0 0\n"), api.ErrWho},
		{"a stamp twice", ahead("life 2 1\nop 5 2 1 0 0 1 1\nop 5 2 1 0 0 1 2\n"), api.ErrTwice},
		{"too many operations", ahead(accepted(30) + "life 2 2\nop 31 2 1 0 0 2 1\n"), api.ErrMany},
	}
}

func wrongHubs() []wrong {
	return []wrong{
		{"a zero hub", func(w *api.World) { w.H = api.Hub{} }, api.ErrForm},
		{"a Version less", func(w *api.World) { w.H.Version-- }, api.ErrForm},
		{"a Version more", func(w *api.World) { w.H.Version++ }, api.ErrForm},
		{"another life", func(w *api.World) { w.H.Peers[0].Life++ }, api.ErrForm},
		{"another Seq", func(w *api.World) { w.H.Peers[1].Seq++ }, api.ErrForm},
		{"other roots", func(w *api.World) { w.H.Peers[2].Roots = []int{5} }, api.ErrForm},
		{"a peer less", func(w *api.World) { w.H.Peers = w.H.Peers[:2] }, api.ErrForm},
		{"a peer more", func(w *api.World) { w.H.Peers = append(w.H.Peers, api.Peer{}) }, api.ErrForm},
		{"another history", func(w *api.World) { w.H.H = api.History{L: []api.Step{{O: op(1, 0, 1, 0, 0, 1, 1), Did: true}}} }, api.ErrForm},
		{"another tree", func(w *api.World) { w.H.H.T.P = append(w.H.H.T.P, at(9, 0, 0)) }, api.ErrForm},
		{"a hub that is none", func(w *api.World) { w.H.Version = math.MinInt; w.H.Peers[0].Life = -1 }, api.ErrForm},
	}
}

// wrongClients: client k is none; the others are as they are.
func wrongClients(k int) []wrong {
	name := "client " + strconv.Itoa(k) + ": "
	return []wrong{
		{name + "Life", func(w *api.World) { w.C[k].Life = -1 }, api.ErrRange},
		{name + "Time", func(w *api.World) { w.C[k].Time = 10001 }, api.ErrRange},
		{name + "Pending", func(w *api.World) { w.C[k].Pending = make([]api.Op, 9) }, api.ErrMany},
		{name + "a root", func(w *api.World) { w.C[k].V.Roots = []int{17} }, api.ErrWho},
		{name + "a view", func(w *api.World) { w.C[k].V.Way = []api.Place{at(4, 0, 0), at(4, 0, 0)} }, api.ErrTwice},
		{name + "one without a life", func(w *api.World) { w.C[k] = api.Client{Seq: 1} }, api.ErrForm},
		{name + "operations of another one", func(w *api.World) {
			w.C[k] = api.Client{Life: 1, Time: 1, Seq: 1, Pending: []api.Op{op(1, (k+1)%3, 1, 0, 0, 1, 1)}}
		}, api.ErrForm},
	}
}

type wrongWorld struct {
	w api.World
	e api.Errno
}

// refused are worlds that Check refuses: each wrong alone, and each ahead of each that is told later.
func refused() map[string]wrongWorld {
	all := map[string]wrongWorld{
		"zero":               {api.World{}, api.ErrForm},
		"zero, but it is Up": {api.World{Up: true}, api.ErrForm},
		"clients swapped":    {with(lived(), func(w *api.World) { w.C[0], w.C[1] = w.C[1], w.C[0] }), api.ErrForm},
		"down, with a hub":   {with(lived(), func(w *api.World) { w.Up = false }), api.ErrForm},
		"up, with no hub":    {with(down(), func(w *api.World) { w.Up = true }), api.ErrForm},
		"up, out of turn, with the hub of the rest": {with(lived(), func(w *api.World) { w.D.Safe = append(w.D.Safe, "life 2 2\n"...) }), api.ErrLate},
		"up, and a record more":                     {with(lived(), func(w *api.World) { w.D.Safe = append(w.D.Safe, "life 2 1\n"...) }), api.ErrForm},
		"up, and a record less":                     {with(lived(), func(w *api.World) { w.D.Safe = []byte(livedText[:len(livedText)-len("op 2 1 4 3 8 1 1\n")]) }), api.ErrForm},
	}
	for base, fresh := range map[string]func() api.World{"": lived, "down: ": down} {
		list := wrongs()
		if base != "" {
			// Without power there is no reading of the records, and what waits may wait.
			list = slices.Delete(list, 3, 5)
		}
		for k, turn := range list {
			for _, x := range turn {
				all[base+x.name] = wrongWorld{with(fresh(), x.change), x.e}
				for _, later := range list[k+1:] {
					for _, y := range later {
						w := with(with(fresh(), y.change), x.change)
						all[base+x.name+", ahead of "+y.name] = wrongWorld{w, x.e}
					}
				}
			}
		}
	}
	return all
}

func TestNew(t *testing.T) {
	w := world.New()
	if text(w) != text(empty()) {
		t.Errorf("%v, want %v", w, empty())
	}
	if e := world.Check(w); e != api.OK {
		t.Errorf("Check says %v", e)
	}
	// Who writes over one new world leaves the next one alone.
	w.C[0].Life, w.H.Peers[1].Life = 9, 9
	if text(world.New()) != text(empty()) {
		t.Errorf("the next one is %v", world.New())
	}
}

func TestCheckTakes(t *testing.T) {
	for name, w := range good(t) {
		if e := world.Check(w); e != api.OK {
			t.Errorf("%s: %v, want OK", name, e)
		}
	}
}

func TestCheckRefusesTheRest(t *testing.T) {
	for name, x := range refused() {
		if e := world.Check(x.w); e != x.e {
			t.Errorf("%s: %v, want %v", name, e, x.e)
		}
	}
}

// TestCheckOfPower: of records that no hub wrote Check asks nothing, while there is no power.
func TestCheckOfPower(t *testing.T) {
	for _, x := range wrongRecords() {
		if e := world.Check(with(down(), x.change)); e != api.OK {
			t.Errorf("down, %s: %v, want OK", x.name, e)
		}
		if e := world.Check(with(lived(), x.change)); e != x.e {
			t.Errorf("up, %s: %v, want %v", x.name, e, x.e)
		}
	}
	for _, x := range wrongWaits() {
		if e := world.Check(with(down(), x.change)); e != api.OK {
			t.Errorf("down, %s: %v, want OK", x.name, e)
		}
	}
}

// TestCheckOfCounts: so many clients, and so much mail.
func TestCheckOfCounts(t *testing.T) {
	for n := range 7 {
		w := empty()
		w.C = make([]api.Client, n)
		want := api.ErrForm
		if n == 3 {
			want = api.OK
		}
		if e := world.Check(w); e != want {
			t.Errorf("%d clients: %v, want %v", n, e, want)
		}
	}
	for n := range 34 {
		w := with(lived(), func(w *api.World) { w.Mail = slices.Repeat([]api.Mail{livedDelta()}, n) })
		want := api.OK
		if n > 30 {
			want = api.ErrMany
		}
		if e := world.Check(w); e != want {
			t.Errorf("%d mails: %v, want %v", n, e, want)
		}
	}
}

// changes are of one field each.
func changes() map[string]func(w *api.World) {
	return map[string]func(w *api.World){
		"Up":                  func(w *api.World) { w.Up = !w.Up },
		"Version":             func(w *api.World) { w.H.Version++ },
		"a step's operation":  func(w *api.World) { w.H.H.L[1].O.Name++ },
		"a step's Did":        func(w *api.World) { w.H.H.L[0].Did = false },
		"a step's Was":        func(w *api.World) { w.H.H.L[0].Was.Name++ },
		"a step less":         func(w *api.World) { w.H.H.L = w.H.H.L[:1] },
		"the tree":            func(w *api.World) { w.H.H.T.P[1].Parent = 99 },
		"a peer's Life":       func(w *api.World) { w.H.Peers[2].Life = -1 },
		"a peer's Seq":        func(w *api.World) { w.H.Peers[0].Seq++ },
		"a peer's Roots":      func(w *api.World) { w.H.Peers[1].Roots[0]++ },
		"a peer more":         func(w *api.World) { w.H.Peers = append(w.H.Peers, api.Peer{}) },
		"Safe, a byte":        func(w *api.World) { w.D.Safe[0] = 0 },
		"Safe, a byte less":   func(w *api.World) { w.D.Safe = w.D.Safe[:9] },
		"Safe, none":          func(w *api.World) { w.D.Safe = nil },
		"Wait":                func(w *api.World) { w.D.Wait = []byte{0} },
		"Safe is Wait":        func(w *api.World) { w.D.Safe, w.D.Wait = w.D.Wait, w.D.Safe },
		"first client":        func(w *api.World) { w.C[0].Life++ },
		"second client":       func(w *api.World) { w.C[1].Pending = w.C[1].Pending[:1] },
		"last client":         func(w *api.World) { w.C[2].Time-- },
		"a client's Seq":      func(w *api.World) { w.C[0].Seq = math.MaxInt },
		"a client's Version":  func(w *api.World) { w.C[1].Version++ },
		"a client's view":     func(w *api.World) { w.C[0].V.Known[0].Name++ },
		"a client less":       func(w *api.World) { w.C = w.C[:2] },
		"a client more":       func(w *api.World) { w.C = append(w.C, api.Client{}) },
		"no clients":          func(w *api.World) { w.C = nil },
		"clients swapped":     func(w *api.World) { w.C[0], w.C[2] = w.C[2], w.C[0] },
		"mail's Kind":         func(w *api.World) { w.Mail[0].Kind = 0 },
		"mail's Who":          func(w *api.World) { w.Mail[1].Who = 2 },
		"mail's From":         func(w *api.World) { w.Mail[2].From++ },
		"mail's operation":    func(w *api.World) { w.Mail[3].O.Node++ },
		"mail's view":         func(w *api.World) { w.Mail[1].V.Roots[0]++ },
		"mail's delta":        func(w *api.World) { w.Mail[2].D.Gone = []int{0} },
		"a mail less":         func(w *api.World) { w.Mail = w.Mail[:3] },
		"a mail more":         func(w *api.World) { w.Mail = append(w.Mail, api.Mail{}) },
		"no mail":             func(w *api.World) { w.Mail = nil },
		"mail swapped":        func(w *api.World) { w.Mail[0], w.Mail[1] = w.Mail[1], w.Mail[0] },
		"all":                 func(w *api.World) { *w = api.World{} },
		"another one":         func(w *api.World) { *w = empty() },
		"that without power":  func(w *api.World) { *w = down() },
		"the hub":             func(w *api.World) { w.H = api.Hub{} },
		"the disk":            func(w *api.World) { w.D = api.Disk{} },
		"a client that hears": func(w *api.World) { w.C[1].Time = 5 },
	}
}

func TestSame(t *testing.T) {
	all := good(t)
	if !world.Same(lived(), lived()) || !world.Same(all["new"], all["new, its lists empty"]) || !world.Same(all["new, its lists empty"], all["new"]) {
		t.Errorf("like ones are not the same")
	}
	for name, change := range changes() {
		a, b := with(lived(), change), with(lived(), change)
		if world.Same(a, lived()) || world.Same(lived(), a) {
			t.Errorf("%s: the same, though it changed", name)
		}
		if !world.Same(a, b) {
			t.Errorf("%s: not the same, though both changed alike", name)
		}
	}
	// Of worlds that Check refuses, too, those alone are the same that are told alike.
	list := []api.World{{}, {Up: true}, {C: make([]api.Client, 3)}}
	for _, w := range all {
		list = append(list, w)
	}
	for _, turn := range wrongs() {
		for _, x := range turn {
			list = append(list, with(lived(), x.change), with(down(), x.change))
		}
	}
	var texts []string
	for _, w := range list {
		texts = append(texts, text(w))
	}
	for k, a := range list {
		for i, b := range list {
			if got := world.Same(a, b); got != (texts[k] == texts[i]) {
				t.Fatalf("%.300s and %.300s: %v", texts[k], texts[i], got)
			}
		}
	}
}
