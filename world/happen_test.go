package world_test

import (
	"math"
	"slices"
	"strconv"
	"strings"
	"testing"

	"orangery/api"
	"orangery/world"
)

func of(kind, who, n int) api.Happening {
	return api.Happening{Kind: kind, Who: who, N: n}
}

func moveOf(who, node, parent, name int) api.Happening {
	return api.Happening{Kind: api.HMove, Who: who, Node: node, Parent: parent, Name: name}
}

func rootsOf(who int, roots ...int) api.Happening {
	return api.Happening{Kind: api.HRoots, Who: who, Roots: roots}
}

// does asks that x makes of w what change makes of it, and nothing else, and that Check takes that.
func does(t *testing.T, name string, w api.World, x api.Happening, change func(w *api.World)) {
	t.Helper()
	was := text(w)
	got, e := world.Do(w, x)
	if text(w) != was {
		t.Fatalf("%s: Do left %v of %s", name, w, was)
	}
	if e != api.OK {
		t.Errorf("%s: %v, want OK", name, e)
		return
	}
	if e := world.Check(got); e != api.OK {
		t.Errorf("%s: Check says %v of %v", name, e, got)
	}
	if change(&w); text(got) != text(w) {
		t.Errorf("%s:\n%v, want\n%v", name, got, w)
	}
}

func refuses(t *testing.T, name string, w api.World, x api.Happening, want api.Errno) {
	t.Helper()
	if got, e := world.Do(w, x); e != want || !noWorld(got) {
		t.Errorf("%s: %v, %v, want %v alone", name, got, e, want)
	}
}

// powered are lived with power and without, so that a test need not say which.
func powered() map[string]func() api.World {
	return map[string]func() api.World{"up: ": lived, "down: ": down}
}

func nothing(w *api.World) {}

func without(k int) func(w *api.World) {
	return func(w *api.World) { w.Mail = slices.Delete(slices.Clone(w.Mail), k, k+1) }
}

// both answers what one change and then the other one does.
func both(a, b func(w *api.World)) func(w *api.World) {
	return func(w *api.World) {
		a(w)
		b(w)
	}
}

// writes lays a line behind what is safe.
func writes(w *api.World, line string) {
	w.D.Safe = append(slices.Clone(w.D.Safe), line+"\n"...)
}

// full is w with as much mail as may be.
func full(w api.World) api.World {
	w.Mail = slices.Repeat([]api.Mail{livedView()}, 30)
	return w
}

func sends(m api.Mail) func(w *api.World) {
	return func(w *api.World) { w.Mail = append(slices.Clone(w.Mail), m) }
}

func TestDoAsksCheck(t *testing.T) {
	list := []api.Happening{{}, of(api.HLose, 0, 0), of(api.HBoot, 0, 0), of(api.HCrash, 0, 0), moveOf(0, 1, 0, 0), of(api.HShow, 3, 0), of(12, 0, 0)}
	for name, x := range refused() {
		for _, h := range list {
			refuses(t, name, x.w, h, x.e)
		}
	}
}

// TestKinds: those that there are none of, whatever else is said.
func TestKinds(t *testing.T) {
	for base, fresh := range powered() {
		for _, kind := range []int{math.MinInt, -11, -2, -1, 0, 12, 13, 99, math.MaxInt} {
			for _, x := range []api.Happening{{}, {Who: 3}, {N: -1}, {Node: 3, Parent: 1, Name: 2}, {Roots: []int{17}}} {
				x.Kind = kind
				refuses(t, base+"Kind "+strconv.Itoa(kind), fresh(), x, api.ErrForm)
			}
		}
		for kind := 1; kind <= 11; kind++ {
			if _, e := world.Do(fresh(), api.Happening{Kind: kind, Node: 1}); e == api.ErrForm {
				t.Errorf("%sKind %d: ErrForm, though there is one", base, kind)
			}
		}
	}
}

// TestNoUse: what a Kind has no use for may be anything.
func TestNoUse(t *testing.T) {
	odd := api.Happening{Who: -7, N: math.MinInt, Node: 77, Parent: -1, Name: 1000, Roots: []int{9, 9, 17, -1, 0, 3}}
	for base, fresh := range powered() {
		for kind := 1; kind <= 11; kind++ {
			plain := api.Happening{Kind: kind, Node: 1, Parent: 2, Name: 3, N: 0, Roots: []int{2}}
			if kind == api.HDiff {
				plain.N = 4
			}
			x := odd
			x.Kind = kind
			switch kind {
			case api.HMove:
				x.Who, x.Node, x.Parent, x.Name = plain.Who, plain.Node, plain.Parent, plain.Name
			case api.HAgain, api.HDiff:
				x.Who, x.N = plain.Who, plain.N
			case api.HShow, api.HBegin:
				x.Who = plain.Who
			case api.HRoots:
				x.Who, x.Roots = plain.Who, plain.Roots
			case api.HHear, api.HTwice, api.HLose:
				x.N = plain.N
			}
			a, e := world.Do(fresh(), plain)
			b, f := world.Do(fresh(), x)
			if e != f || text(a) != text(b) {
				t.Errorf("%sKind %d: %v, %v, want %v, %v", base, kind, b, f, a, e)
			}
		}
	}
}

// TestMailNumbers: each end of the mail, and just outside.
func TestMailNumbers(t *testing.T) {
	for base, fresh := range powered() {
		for _, kind := range []int{api.HHear, api.HTwice, api.HLose} {
			name := base + "Kind " + strconv.Itoa(kind)
			for _, n := range []int{math.MinInt, -mails, -2, -1, mails, mails + 1, 29, 30, math.MaxInt} {
				refuses(t, name+", N "+strconv.Itoa(n), fresh(), of(kind, 0, n), api.ErrWho)
			}
			for _, n := range []int{-1, 0, 1} {
				none := with(fresh(), func(w *api.World) { w.Mail = nil })
				refuses(t, name+", no mail, N "+strconv.Itoa(n), none, of(kind, 0, n), api.ErrWho)
			}
			refuses(t, name+", full", full(fresh()), of(kind, 0, 30), api.ErrWho)
		}
		for n := range mails {
			does(t, base+"lost", fresh(), of(api.HLose, 0, n), without(n))
		}
		for _, n := range []int{0, 29} {
			does(t, base+"lost of many", full(fresh()), of(api.HLose, 0, n), without(n))
			does(t, base+"heard of many", full(fresh()), of(api.HHear, 0, n), both(hearsView, without(n)))
			does(t, base+"heard of many, twice", full(fresh()), of(api.HTwice, 0, n), hearsView)
		}
	}
}

// hearsView is what livedView does to client 1; hearsDelta what livedDelta does to client 0.
func hearsView(w *api.World) {
	w.C = slices.Clone(w.C)
	c := &w.C[1]
	c.Version, c.Time, c.Pending, c.V = 6, 5, c.Pending[1:], livedView().V
}

func hearsDelta(w *api.World) {
	w.C = slices.Clone(w.C)
	c := &w.C[0]
	c.Version, c.V.Known = 6, []api.Place{at(3, 0, 7), at(4, 3, 8)}
}

// takesSecond and takesThird are what the hub makes of the operations on their way.
func takesSecond(w *api.World) {
	writes(w, "op 3 1 6 4 2 1 2")
	w.H = livedHub()
	s := api.Step{O: op(3, 1, 6, 4, 2, 1, 2), Did: true}
	w.H.H.L = slices.Insert(w.H.H.L, 1, s)
	w.H.H.T.P = append(w.H.H.T.P, at(6, 4, 2))
	w.H.Version, w.H.Peers[1].Seq = 7, 2
}

func takesThird(w *api.World) {
	writes(w, "op 6 0 5 3 1 1 2")
	w.H = livedHub()
	w.H.H.L = append(w.H.H.L, api.Step{O: op(6, 0, 5, 3, 1, 1, 2), Did: true})
	w.H.H.T.P = append(w.H.H.T.P, at(5, 3, 1))
	w.H.Version, w.H.Peers[0].Seq = 7, 2
}

// TestMailComes: to each client, and to the hub; a hub without power hears nothing.
func TestMailComes(t *testing.T) {
	for base, fresh := range powered() {
		does(t, base+"a view", fresh(), of(api.HHear, 0, viewTo1), both(hearsView, without(viewTo1)))
		does(t, base+"a view, twice", fresh(), of(api.HTwice, 0, viewTo1), hearsView)
		does(t, base+"a delta", fresh(), of(api.HHear, 0, diffTo0), both(hearsDelta, without(diffTo0)))
		does(t, base+"a delta, twice", fresh(), of(api.HTwice, 0, diffTo0), hearsDelta)
	}
	does(t, "an operation", lived(), of(api.HHear, 0, opOf1), both(takesSecond, without(opOf1)))
	does(t, "an operation, twice", lived(), of(api.HTwice, 0, opOf1), takesSecond)
	does(t, "the last operation", lived(), of(api.HHear, 0, opOf0), both(takesThird, without(opOf0)))
	does(t, "the last operation, twice", lived(), of(api.HTwice, 0, opOf0), takesThird)
	for _, n := range []int{opOf0, opOf1} {
		refuses(t, "an operation, without power", down(), of(api.HHear, 0, n), api.ErrLate)
		refuses(t, "an operation, twice, without power", down(), of(api.HTwice, 0, n), api.ErrLate)
		waits := with(down(), func(w *api.World) { w.D.Wait = []byte("life 2 1\n") })
		refuses(t, "an operation, while something waits", waits, of(api.HHear, 0, n), api.ErrLate)
	}
	// What was heard once is of no use to anybody when it comes once more.
	for _, n := range []int{opOf1, viewTo1, diffTo0, opOf0} {
		once, e := world.Do(lived(), of(api.HTwice, 0, n))
		if e != api.OK {
			t.Fatal(e)
		}
		does(t, "once more", once, of(api.HTwice, 0, n), nothing)
		does(t, "once more, and then no more", once, of(api.HHear, 0, n), without(n))
	}
}

// TestMailOfNoUse comes, and changes nothing but that it is gone.
func TestMailOfNoUse(t *testing.T) {
	for name, m := range map[string]api.Mail{
		"to one that never lived":      {Kind: api.MView, Who: 2, Life: 1, Version: 1, Time: 9},
		"a view of an elder life":      {Kind: api.MView, Who: 1, Life: 2, Version: 60, Time: 9},
		"a view that is known":         {Kind: api.MView, Who: 0, Life: 1, Version: 4, Seq: 2, Time: 9},
		"a view of more than it did":   {Kind: api.MView, Who: 1, Life: 1, Version: 60, Seq: 3},
		"a delta from another version": {Kind: api.MDelta, Who: 0, Life: 1, Version: 60, From: 3, D: api.Delta{Here: []api.Place{at(5, 6, 0)}}},
	} {
		for base, fresh := range powered() {
			w := with(fresh(), sends(m))
			does(t, base+name, w, of(api.HHear, 0, mails), without(mails))
			does(t, base+name+", twice", w, of(api.HTwice, 0, mails), nothing)
			does(t, base+name+", lost", w, of(api.HLose, 0, mails), without(mails))
		}
	}
}

// TestMailThatClientsRefuse: the error is told, and the mail is on its way still.
func TestMailThatClientsRefuse(t *testing.T) {
	for name, x := range map[string]struct {
		m api.Mail
		e api.Errno
	}{
		"a delta to no view":  {api.Mail{Kind: api.MDelta, Who: 0, Life: 1, Version: 60, From: 4, D: api.Delta{Here: []api.Place{at(5, 6, 0)}}}, api.ErrForm},
		"a delta to a ring":   {api.Mail{Kind: api.MDelta, Who: 0, Life: 1, Version: 5, From: 4, D: api.Delta{Here: []api.Place{at(3, 3, 0)}}}, api.ErrForm},
		"a delta from no one": {api.Mail{Kind: api.MDelta, Who: 1, Life: 1, Version: 1, D: api.Delta{WayHere: []api.Place{at(1, 0, 0)}}}, api.ErrForm},
	} {
		for base, fresh := range powered() {
			w := with(fresh(), sends(x.m))
			refuses(t, base+name, w, of(api.HHear, 0, mails), x.e)
			refuses(t, base+name+", twice", w, of(api.HTwice, 0, mails), x.e)
			does(t, base+name+", lost", w, of(api.HLose, 0, mails), without(mails))
			said := []api.Errno{x.e, api.OK}
			got, errs, e := world.Run(w, []api.Happening{of(api.HHear, 0, mails), of(api.HLose, 0, mails)})
			if e != api.OK || !slices.Equal(errs, said) || text(got) != text(fresh()) {
				t.Errorf("%s%s: %v, %v, %v", base, name, got, errs, e)
			}
		}
	}
}

// TestOperationsThatHubsRefuse: the mail has come, and nobody is told.
func TestOperationsThatHubsRefuse(t *testing.T) {
	for name, x := range map[string]struct {
		w api.World
		o api.Op
	}{
		"accepted already":      {lived(), op(2, 1, 4, 3, 8, 1, 1)},
		"a number left out":     {lived(), op(7, 1, 4, 3, 8, 1, 3)},
		"an elder life":         {written(t, livedText+"life 0 2\n"), op(6, 0, 5, 3, 1, 1, 2)},
		"an elder life's next":  {written(t, livedText+"life 0 2\n"), op(6, 0, 5, 3, 1, 1, 1)},
		"a later life":          {lived(), op(6, 0, 5, 3, 1, 2, 1)},
		"of one without life":   {lived(), op(6, 2, 5, 3, 1, 1, 1)},
		"a stamp that is there": {lived(), op(5, 0, 5, 3, 1, 1, 2)},
		"no room in history":    {written(t, accepted(30)+"life 0 1\n"), op(77, 0, 5, 3, 1, 1, 1)},
		"no room in the log":    {written(t, lives(0, 50)+lives(1, 10)), op(77, 0, 5, 3, 1, 50, 1)},
	} {
		w := with(x.w, sends(opMail(x.o)))
		last := len(w.Mail) - 1
		does(t, name, w, of(api.HHear, 0, last), without(last))
		does(t, name+", twice", w, of(api.HTwice, 0, last), nothing)
		w.H, w.Up = newHub(), false
		refuses(t, name+", without power", w, of(api.HHear, 0, last), api.ErrLate)
		refuses(t, name+", twice, without power", w, of(api.HTwice, 0, last), api.ErrLate)
		does(t, name+", lost", w, of(api.HLose, 0, last), without(last))
	}
	// The one before the last room is taken is accepted.
	w := written(t, accepted(29)+"life 0 1\n")
	got, e := world.Do(with(w, sends(opMail(op(77, 0, 5, 3, 1, 1, 1)))), of(api.HHear, 0, 0))
	if e != api.OK || len(got.H.H.L) != 30 || got.H.Version != 32 || !strings.HasSuffix(string(got.D.Safe), "\nop 77 0 5 3 1 1 1\n") {
		t.Errorf("the last one of a history: %v, %v", got, e)
	}
	w = written(t, lives(0, 50)+lives(1, 9))
	got, e = world.Do(with(w, sends(opMail(op(77, 0, 5, 3, 1, 50, 1)))), of(api.HHear, 0, 0))
	if e != api.OK || len(got.H.H.L) != 1 || got.H.Version != 60 || !strings.HasSuffix(string(got.D.Safe), "\nop 77 0 5 3 1 50 1\n") {
		t.Errorf("the last one of a log: %v, %v", got, e)
	}
}

func TestPower(t *testing.T) {
	does(t, "crash", lived(), of(api.HCrash, 0, 0), func(w *api.World) { *w = down() })
	does(t, "crash of a new one", empty(), of(api.HCrash, 0, 0), func(w *api.World) { w.Up = false })
	refuses(t, "crash without power", down(), of(api.HCrash, 0, 0), api.ErrLate)
	refuses(t, "boot with power", lived(), of(api.HBoot, 0, 0), api.ErrLate)
	refuses(t, "boot of a new one", empty(), of(api.HBoot, 0, 0), api.ErrLate)
	does(t, "boot", down(), of(api.HBoot, 0, 0), func(w *api.World) { *w = lived() })
	does(t, "boot of nothing", with(empty(), func(w *api.World) { w.Up = false }), of(api.HBoot, 0, 0), func(w *api.World) { w.Up = true })
}

// TestBootReads all that can be read of what waits, and no more.
func TestBootReads(t *testing.T) {
	second := "op 3 1 6 4 2 1 2\n"
	for name, x := range map[string]struct {
		wait string
		want func(w *api.World)
	}{
		"a line":                     {second, takesSecond},
		"a line, and a torn one":     {second + "life 2 1", takesSecond},
		"a line, and a wrong one":    {second + "life 2 0\nlife 2 1\n", takesSecond},
		"a line, and an empty one":   {second + "\nlife 2 1\n", takesSecond},
		"a torn line":                {second[:len(second)-1], nothing},
		"a byte":                     {"o", nothing},
		"no record":                  {"x\n" + second, nothing},
		"a record that may not be":   {"life 3 1\n" + second, nothing},
		"a record out of turn, torn": {"life 2 2", nothing},
	} {
		w := with(down(), func(w *api.World) { w.D.Wait = []byte(x.wait) })
		does(t, name, w, of(api.HBoot, 0, 0), func(w *api.World) {
			w.H, w.Up, w.D.Wait = livedHub(), true, nil
			x.want(w)
		})
	}
	halves := with(down(), func(w *api.World) { w.D = api.Disk{Safe: []byte(livedText[:9]), Wait: []byte(livedText[9:])} })
	does(t, "all but one line waits", halves, of(api.HBoot, 0, 0), func(w *api.World) { *w = lived() })
	full := with(empty(), func(w *api.World) {
		w.Up = false
		w.D = api.Disk{Safe: []byte(lives(0, 50) + lives(1, 9)), Wait: []byte("life 1 10\nlife 1 11\n")}
	})
	got, e := world.Do(full, of(api.HBoot, 0, 0))
	if e != api.OK || string(got.D.Safe) != lives(0, 50)+lives(1, 10) || len(got.D.Wait) != 0 || got.H.Version != 60 || got.H.Peers[1].Life != 10 {
		t.Errorf("more than may be safe: %v, %v", got, e)
	}
}

// TestBootRefuses: what no hub wrote stays as it is.
func TestBootRefuses(t *testing.T) {
	for _, x := range wrongRecords() {
		refuses(t, x.name, with(down(), x.change), of(api.HBoot, 0, 0), x.e)
	}
	for wait, want := range map[string]api.Errno{
		"life 0 1\n":                       api.ErrLate,
		"life 0 3\n":                       api.ErrLate,
		"op 2 1 4 3 8 1 1\n":               api.ErrLate,
		"op 5 0 4 3 8 1 2\n":               api.ErrTwice,
		"roots 2 0\n":                      api.ErrWho,
		"life 2 1\nlife 2 1\nroots 2 1":    api.ErrLate,
		"roots 0 1\nroots 2 1\nlife 2 1\n": api.ErrWho,
	} {
		w := with(down(), func(w *api.World) { w.D.Wait = []byte(wait) })
		refuses(t, wait, w, of(api.HBoot, 0, 0), want)
	}
}

// TestWho: each end of the clients, and just outside, of each Kind that asks for one.
func TestWho(t *testing.T) {
	for base, fresh := range powered() {
		for _, kind := range []int{api.HMove, api.HAgain, api.HBegin, api.HRoots, api.HShow, api.HDiff} {
			for _, who := range []int{math.MinInt, -3, -2, -1, 3, 4, math.MaxInt} {
				for _, x := range []api.Happening{{Node: 1}, {}, {N: -1, Node: 99, Roots: []int{17}}, {N: 3, Node: 1, Parent: 2}} {
					x.Kind, x.Who = kind, who
					refuses(t, base+"Kind "+strconv.Itoa(kind)+" of "+strconv.Itoa(who), fresh(), x, api.ErrWho)
				}
			}
		}
	}
	// All three live, did something, and are of a life at which N 5 looks back.
	w := written(t, "life 0 1\nlife 1 1\nlife 2 1\nroots 0 0\nroots 2 1\nlife 1 2\n")
	for k := range w.C {
		life := w.H.Peers[k].Life
		w.C[k] = api.Client{Life: life, Time: 1, Seq: 1, Pending: []api.Op{op(1, k, 1, 0, 0, life, 1)}}
	}
	for _, kind := range []int{api.HMove, api.HAgain, api.HBegin, api.HRoots, api.HShow} {
		for who := range 3 {
			if _, e := world.Do(w, api.Happening{Kind: kind, Who: who, Node: 1}); e != api.OK {
				t.Errorf("Kind %d of %d: %v, want OK", kind, who, e)
			}
		}
	}
	for who, want := range []api.Errno{api.OK, api.ErrLate, api.OK} {
		if _, e := world.Do(w, of(api.HDiff, who, 5)); e != want {
			t.Errorf("HDiff of %d: %v, want %v", who, e, want)
		}
	}
}

// TestHubWithoutPower: what happens at a client happens all the same, and all else doesn't.
func TestHubWithoutPower(t *testing.T) {
	waits := with(down(), func(w *api.World) { w.D.Wait = []byte("life 2 1\n") })
	for name, w := range map[string]api.World{"down": down(), "something waits": waits, "new": with(empty(), func(w *api.World) { w.Up = false })} {
		for who := range 3 {
			for _, x := range []api.Happening{
				of(api.HBegin, who, 0), rootsOf(who), rootsOf(who, 0), rootsOf(who, 17), of(api.HShow, who, 0),
				of(api.HDiff, who, 0), of(api.HDiff, who, 4), of(api.HDiff, who, -1), of(api.HDiff, who, 99),
			} {
				refuses(t, name, w, x, api.ErrLate)
			}
		}
	}
}

func TestMove(t *testing.T) {
	for base, fresh := range powered() {
		for who, o := range []api.Op{op(7, 0, 9, 4, 33, 1, 3), op(4, 1, 9, 4, 33, 1, 3)} {
			did := func(w *api.World) {
				w.C = slices.Clone(w.C)
				c := &w.C[who]
				c.Time, c.Seq, c.Pending = o.S.Time, o.Seq, append(slices.Clone(c.Pending), o)
			}
			name := base + "client " + strconv.Itoa(who)
			does(t, name, fresh(), moveOf(who, 9, 4, 33), both(did, sends(opMail(o))))
			does(t, name+", too much mail", full(fresh()), moveOf(who, 9, 4, 33), did)
			last := with(full(fresh()), func(w *api.World) { w.Mail = w.Mail[1:] })
			does(t, name+", the last mail", last, moveOf(who, 9, 4, 33), both(did, sends(opMail(o))))
		}
		refuses(t, base+"never lived", fresh(), moveOf(2, 9, 4, 33), api.ErrLate)
		refuses(t, base+"never lived, no node", fresh(), moveOf(2, 0, 4, 33), api.ErrLate)
		for name, x := range map[string]api.Happening{
			"the root":      moveOf(0, 0, 4, 33),
			"the bin":       moveOf(0, 16, 4, 33),
			"below nothing": moveOf(0, 9, -1, 33),
			"below no node": moveOf(0, 9, 17, 33),
			"no name":       moveOf(0, 9, 4, -1),
			"a long name":   moveOf(0, 9, 4, 100),
		} {
			refuses(t, base+name, fresh(), x, api.ErrRange)
			refuses(t, base+name+", too much mail", full(fresh()), x, api.ErrRange)
		}
		for name, c := range map[string]api.Client{
			"Time at its end": {Life: 1, Time: 10000},
			"Seq at its end":  {Life: 1, Time: 9, Seq: 30},
			"as many as may be": {Life: 1, Time: 8, Seq: 8, Pending: []api.Op{
				op(1, 2, 1, 0, 0, 1, 1), op(2, 2, 1, 0, 0, 1, 2), op(3, 2, 1, 0, 0, 1, 3), op(4, 2, 1, 0, 0, 1, 4),
				op(5, 2, 1, 0, 0, 1, 5), op(6, 2, 1, 0, 0, 1, 6), op(7, 2, 1, 0, 0, 1, 7), op(8, 2, 1, 0, 0, 1, 8),
			}},
		} {
			w := with(fresh(), func(w *api.World) { w.C[2] = c })
			refuses(t, base+name, w, moveOf(2, 9, 4, 33), api.ErrMany)
			refuses(t, base+name+", no node", w, moveOf(2, 0, 4, 33), api.ErrMany)
		}
	}
}

func TestAgain(t *testing.T) {
	for base, fresh := range powered() {
		for who, pending := range [][]api.Op{{op(6, 0, 5, 3, 1, 1, 2)}, {op(2, 1, 4, 3, 8, 1, 1), op(3, 1, 6, 4, 2, 1, 2)}, {}} {
			name := base + "client " + strconv.Itoa(who)
			for n, o := range pending {
				does(t, name, fresh(), of(api.HAgain, who, n), sends(opMail(o)))
				does(t, name+", too much mail", full(fresh()), of(api.HAgain, who, n), nothing)
			}
			for _, n := range []int{math.MinInt, -2, -1, len(pending), len(pending) + 1, 8, math.MaxInt} {
				refuses(t, name+", N "+strconv.Itoa(n), fresh(), of(api.HAgain, who, n), api.ErrWho)
				refuses(t, name+", too much mail, N "+strconv.Itoa(n), full(fresh()), of(api.HAgain, who, n), api.ErrWho)
			}
		}
	}
}

func TestBegin(t *testing.T) {
	began := func(who, life, time int) func(w *api.World) {
		return func(w *api.World) {
			writes(w, "life "+strconv.Itoa(who)+" "+strconv.Itoa(life))
			w.H.Version++
			w.H.Peers, w.C = slices.Clone(w.H.Peers), slices.Clone(w.C)
			w.H.Peers[who] = api.Peer{Life: life}
			w.C[who] = api.Client{Life: life, Time: time}
		}
	}
	for who := range 3 {
		does(t, "new", empty(), of(api.HBegin, who, 0), began(who, 1, 0))
		// The greatest time is of an operation that wasn't the last one to be accepted, and is not of this client.
		does(t, "lived", lived(), of(api.HBegin, who, 0), began(who, lived().H.Peers[who].Life+1, 5))
		does(t, "lived, too much mail", full(lived()), of(api.HBegin, who, 0), began(who, lived().H.Peers[who].Life+1, 5))
		knows := with(empty(), func(w *api.World) { w.C[who] = api.Client{Life: 7, Time: 9, Version: 3} })
		does(t, "a life that the hub knows not", knows, of(api.HBegin, who, 0), began(who, 1, 0))
	}
	alike := written(t, "life 0 1\nlife 1 1\nop 9 1 1 0 0 1 1\nop 9 0 2 0 0 1 1\nop 8 1 1 0 0 1 2\n")
	does(t, "alike times", alike, of(api.HBegin, 2, 0), began(2, 1, 9))
	end := written(t, "life 0 1\nop 10000 0 2 0 0 1 1\n")
	does(t, "the greatest of all times", end, of(api.HBegin, 0, 0), began(0, 2, 10000))

	last := written(t, lives(0, 49)+lives(1, 10))
	does(t, "the last life", last, of(api.HBegin, 0, 0), began(0, 50, 0))
	does(t, "the last record", last, of(api.HBegin, 1, 0), began(1, 11, 0))
	refuses(t, "a life too many", written(t, lives(0, 50)), of(api.HBegin, 0, 0), api.ErrRange)
	refuses(t, "a life too many, and a record", written(t, lives(0, 50)+lives(1, 10)), of(api.HBegin, 0, 0), api.ErrRange)
	refuses(t, "a record too many", written(t, lives(0, 50)+lives(1, 10)), of(api.HBegin, 1, 0), api.ErrMany)
	refuses(t, "a record too many, of a new one", written(t, lives(0, 50)+lives(1, 10)), of(api.HBegin, 2, 0), api.ErrMany)
}

func TestRoots(t *testing.T) {
	for who := range 2 {
		for name, roots := range map[string][]int{"": nil, " 0": {0}, " 16": {16}, " 3 16": {3, 16}, " 0 1 2 3": {0, 1, 2, 3}} {
			for _, w := range []api.World{lived(), full(lived())} {
				does(t, "roots"+name, w, rootsOf(who, roots...), func(w *api.World) {
					writes(w, "roots "+strconv.Itoa(who)+name)
					w.H.Version, w.H.Peers = 7, slices.Clone(w.H.Peers)
					w.H.Peers[who].Roots = roots
				})
			}
		}
	}
	fullLog := written(t, lives(0, 50)+lives(1, 10))
	for name, x := range map[string]struct {
		roots []int
		e     api.Errno
	}{
		"one too many": {[]int{0, 1, 2, 3, 4}, api.ErrMany},
		"below all":    {[]int{-1}, api.ErrWho},
		"above all":    {[]int{3, 17}, api.ErrWho},
		"twice":        {[]int{3, 3}, api.ErrTwice},
		"falling":      {[]int{3, 2}, api.ErrTwice},
	} {
		for who := range 3 {
			refuses(t, name, lived(), rootsOf(who, x.roots...), x.e)
			refuses(t, name+", no room", fullLog, rootsOf(who, x.roots...), x.e)
		}
	}
	refuses(t, "never lived", lived(), rootsOf(2, 0), api.ErrWho)
	refuses(t, "never lived, whatever the client says", with(lived(), func(w *api.World) { w.C[2].Life = 1 }), rootsOf(2, 0), api.ErrWho)
	refuses(t, "no room", fullLog, rootsOf(0, 0), api.ErrMany)
	refuses(t, "no room, never lived", fullLog, rootsOf(2, 0), api.ErrMany)
	got, e := world.Do(written(t, lives(0, 50)+lives(1, 9)), rootsOf(1, 5))
	if e != api.OK || got.H.Version != 60 || !strings.HasSuffix(string(got.D.Safe), "\nroots 1 5\n") {
		t.Errorf("the last record: %v, %v", got, e)
	}
}

// wide has a client 0 with a way up, one without roots, and one of another life with the roots of the elder one.
const wide = "life 0 1\nlife 1 1\nroots 0 2 4\nop 1 0 1 0 6 1 1\nop 2 0 2 1 7 1 2\nop 9 0 5 0 8 1 3\n" +
	"life 2 1\nroots 2 0\nlife 2 2\nroots 2 0\nop 3 0 3 2 9 1 4\nop 4 0 2 5 5 1 5\n"

func TestShow(t *testing.T) {
	view0 := api.View{Roots: []int{0}, Known: []api.Place{at(3, 0, 7), at(4, 3, 8)}}
	want0 := api.Mail{Kind: api.MView, Who: 0, Life: 1, Seq: 1, Time: 5, Version: 6, V: view0}
	does(t, "client 0", lived(), of(api.HShow, 0, 0), sends(want0))
	does(t, "client 1", lived(), of(api.HShow, 1, 0), sends(livedView()))
	refuses(t, "client 2", lived(), of(api.HShow, 2, 0), api.ErrLate)
	does(t, "too much mail", full(lived()), of(api.HShow, 0, 0), nothing)
	does(t, "the last mail", with(full(lived()), func(w *api.World) { w.Mail = w.Mail[1:] }), of(api.HShow, 0, 0), sends(want0))
	refuses(t, "too much mail, never lived", full(lived()), of(api.HShow, 2, 0), api.ErrLate)
	knows := with(lived(), func(w *api.World) { w.C[2] = api.Client{Life: 1} })
	refuses(t, "a life that the hub knows not", knows, of(api.HShow, 2, 0), api.ErrLate)
	for who := range 3 {
		refuses(t, "new", empty(), of(api.HShow, who, 0), api.ErrLate)
	}

	w := written(t, wide)
	m := api.Mail{Kind: api.MView, Who: 0, Life: 1, Seq: 5, Time: 9, Version: 12}
	m.V = api.View{Roots: []int{2, 4}, Known: []api.Place{at(2, 5, 5), at(3, 2, 9)}, Way: []api.Place{at(5, 0, 8)}}
	does(t, "a way", w, of(api.HShow, 0, 0), sends(m))
	m = api.Mail{Kind: api.MView, Who: 1, Life: 1, Time: 9, Version: 12}
	does(t, "no roots", w, of(api.HShow, 1, 0), sends(m))
	m = api.Mail{Kind: api.MView, Who: 2, Life: 2, Time: 9, Version: 12}
	m.V = api.View{Roots: []int{0}, Known: []api.Place{at(1, 0, 6), at(2, 5, 5), at(3, 2, 9), at(5, 0, 8)}}
	does(t, "a second life", w, of(api.HShow, 2, 0), sends(m))
	m = api.Mail{Kind: api.MView, Who: 1, Life: 1, Version: 1}
	does(t, "no operations", written(t, "life 1 1\n"), of(api.HShow, 1, 0), sends(m))
}

// diff is what the hub sends one client from each version on; nil: it refuses that.
type diff struct {
	w    api.World
	head api.Mail
	want []*api.Delta
}

func diffs(t *testing.T) map[string]diff {
	t.Helper()
	none := &api.Delta{}
	places := func(l ...api.Place) *api.Delta { return &api.Delta{Here: l} }
	moved := &api.Delta{Here: []api.Place{at(2, 5, 5), at(3, 2, 9)}, WayGone: []int{1}, WayHere: []api.Place{at(5, 0, 8)}}
	return map[string]diff{
		"client 0": {lived(), api.Mail{Kind: api.MDelta, Who: 0, Life: 1, Seq: 1, Time: 5, Version: 6}, []*api.Delta{
			nil, nil, nil, places(at(3, 0, 7), at(4, 3, 8)), places(at(4, 3, 8)), places(at(4, 3, 8)),
		}},
		"client 1": {lived(), api.Mail{Kind: api.MDelta, Who: 1, Life: 1, Seq: 1, Time: 5, Version: 6}, []*api.Delta{
			nil, nil, nil, nil, nil, places(at(4, 3, 8)),
		}},
		"a way": {written(t, wide), api.Mail{Kind: api.MDelta, Who: 0, Life: 1, Seq: 5, Time: 9, Version: 12}, []*api.Delta{
			nil, nil, nil,
			{Here: []api.Place{at(2, 5, 5), at(3, 2, 9)}, WayHere: []api.Place{at(5, 0, 8)}},
			{Here: []api.Place{at(2, 5, 5), at(3, 2, 9)}, WayHere: []api.Place{at(5, 0, 8)}},
			moved, moved, moved, moved, moved, moved,
			{Here: []api.Place{at(2, 5, 5)}, WayGone: []int{1}, WayHere: []api.Place{at(5, 0, 8)}},
		}},
		"no roots": {written(t, wide), api.Mail{Kind: api.MDelta, Who: 1, Life: 1, Time: 9, Version: 12}, []*api.Delta{
			nil, nil, none, none, none, none, none, none, none, none, none, none,
		}},
		"a second life": {written(t, wide), api.Mail{Kind: api.MDelta, Who: 2, Life: 2, Time: 9, Version: 12}, []*api.Delta{
			nil, nil, nil, nil, nil, nil, nil, nil, nil, nil, places(at(2, 5, 5), at(3, 2, 9)), places(at(2, 5, 5)),
		}},
		"roots that were others in between": {
			written(t, "life 0 1\nroots 0 1\nroots 0 1 2\nroots 0\nroots 0 1\nlife 1 1\nroots 0 1\n"),
			api.Mail{Kind: api.MDelta, Who: 0, Life: 1, Version: 7},
			[]*api.Delta{nil, nil, none, nil, nil, none, none},
		},
		"a node that goes": {
			written(t, "life 2 1\nop 1 2 1 0 0 1 1\nroots 2 0\nop 2 2 1 16 0 1 2\nlife 2 2\nroots 2 0\nop 3 2 2 0 0 2 1\nop 4 2 2 16 0 2 2\n"),
			api.Mail{Kind: api.MDelta, Who: 2, Life: 2, Seq: 2, Time: 4, Version: 8},
			[]*api.Delta{nil, nil, nil, nil, nil, nil, none, {Gone: []int{2}}},
		},
	}
}

// TestDiff: each number, from outside to outside.
func TestDiff(t *testing.T) {
	for name, x := range diffs(t) {
		for n := -2; n <= len(x.want)+2; n++ {
			name := name + ", N " + strconv.Itoa(n)
			h := of(api.HDiff, x.head.Who, n)
			switch {
			case n < 0 || n >= len(x.want):
				refuses(t, name, x.w, h, api.ErrRange)
				refuses(t, name+", too much mail", full(x.w), h, api.ErrRange)
			case x.want[n] == nil:
				refuses(t, name, x.w, h, api.ErrLate)
				refuses(t, name+", too much mail", full(x.w), h, api.ErrLate)
			default:
				m := x.head
				m.From, m.D = n, *x.want[n]
				does(t, name, x.w, h, sends(m))
				does(t, name+", too much mail", full(x.w), h, nothing)
				does(t, name+", the last mail", with(full(x.w), func(w *api.World) { w.Mail = w.Mail[1:] }), h, sends(m))
			}
		}
		for _, n := range []int{math.MinInt, 60, 61, math.MaxInt} {
			refuses(t, name+", N "+strconv.Itoa(n), x.w, of(api.HDiff, x.head.Who, n), api.ErrRange)
		}
	}
	for _, n := range []int{math.MinInt, -1, 0, 3, 5, 6, 7, math.MaxInt} {
		refuses(t, "never lived, N "+strconv.Itoa(n), lived(), of(api.HDiff, 2, n), api.ErrLate)
		refuses(t, "new, N "+strconv.Itoa(n), empty(), of(api.HDiff, 0, n), api.ErrLate)
		knows := with(lived(), func(w *api.World) { w.C[2] = api.Client{Life: 1} })
		refuses(t, "a life that the hub knows not, N "+strconv.Itoa(n), knows, of(api.HDiff, 2, n), api.ErrLate)
	}
}
