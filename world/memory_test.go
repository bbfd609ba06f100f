package world_test

import (
	"fmt"
	"slices"
	"strings"
	"testing"

	"orangery/api"
	"orangery/world"
)

// memory is a walk over all lists of a world: it may lay room behind each, look at all of that, or write over it.
type memory struct {
	bytes  func(l *[]byte)
	ints   func(l *[]int)
	places func(l *[]api.Place)
	ops    func(l *[]api.Op)
	steps  func(l *[]api.Step)
	peers  func(l *[]api.Peer)
	all    func(l *[]api.Client)
	mail   func(l *[]api.Mail)
}

// over goes from the inner lists out, so that an outer one has what became of the inner ones.
func (m memory) over(w *api.World) {
	m.bytes(&w.D.Safe)
	m.bytes(&w.D.Wait)
	m.steps(&w.H.H.L)
	m.places(&w.H.H.T.P)
	for k := range w.H.Peers {
		m.ints(&w.H.Peers[k].Roots)
	}
	m.peers(&w.H.Peers)
	for k := range w.C {
		m.ops(&w.C[k].Pending)
		m.overView(&w.C[k].V)
	}
	m.all(&w.C)
	for k := range w.Mail {
		d := &w.Mail[k].D
		m.overView(&w.Mail[k].V)
		m.ints(&d.Gone)
		m.places(&d.Here)
		m.ints(&d.WayGone)
		m.places(&d.WayHere)
	}
	m.mail(&w.Mail)
}

func (m memory) overView(v *api.View) {
	m.ints(&v.Roots)
	m.places(&v.Known)
	m.places(&v.Way)
}

// roomy lays a list anew, with other values in the room behind it.
func roomy[T any](other T) func(l *[]T) {
	return func(l *[]T) { *l = append(slices.Clone(*l), other, other, other)[:len(*l)] }
}

// lay lays all lists of w anew; w's own memory stays as it is.
func lay(w api.World) api.World {
	w.H.Peers, w.C, w.Mail = slices.Clone(w.H.Peers), slices.Clone(w.C), slices.Clone(w.Mail)
	memory{
		roomy(byte('x')), roomy(70), roomy(at(71, 71, 71)), roomy(op(72, 72, 72, 72, 72, 72, 72)), roomy(api.Step{Did: true}),
		roomy(api.Peer{Life: 73}), roomy(api.Client{Life: 74}), roomy(api.Mail{Kind: 75}),
	}.over(&w)
	return w
}

func looks[T any](all *strings.Builder) func(l *[]T) {
	return func(l *[]T) { fmt.Fprint(all, (*l)[:cap(*l)]) }
}

// look tells all memory of w's lists.
func look(w api.World) string {
	var all strings.Builder
	memory{
		looks[byte](&all), looks[int](&all), looks[api.Place](&all), looks[api.Op](&all), looks[api.Step](&all),
		looks[api.Peer](&all), looks[api.Client](&all), looks[api.Mail](&all),
	}.over(&w)
	return all.String()
}

// fills writes a mark of its own over each list and all room behind it, and asks of each that the marks of others left it alone.
type fills struct {
	marks int
	asks  []func() bool
}

func filling[T comparable](f *fills, make func(mark int) T) func(l *[]T) {
	return func(l *[]T) {
		f.marks++
		mark, all := make(f.marks), (*l)[:cap(*l)]
		for k := range all {
			all[k] = mark
		}
		f.asks = append(f.asks, func() bool { return !slices.ContainsFunc(all, func(x T) bool { return x != mark }) })
	}
}

// passing writes one value over a list of things that cannot be held against each other, and all room behind it.
func passing[T any](x T) func(l *[]T) {
	return func(l *[]T) {
		all := (*l)[:cap(*l)]
		for k := range all {
			all[k] = x
		}
	}
}

// spoil writes over all lists of an answer, and asks that no two of them are of one memory.
func spoil(t *testing.T, name string, w api.World) {
	t.Helper()
	f := &fills{}
	memory{
		filling(f, func(n int) byte { return byte(n) }), filling(f, func(n int) int { return n }),
		filling(f, func(n int) api.Place { return at(n, n, n) }), filling(f, func(n int) api.Op { return op(n, n, n, n, n, n, n) }),
		filling(f, func(n int) api.Step { return api.Step{Was: at(n, n, n)} }),
		passing(api.Peer{Seq: 97}), passing(api.Client{Seq: 98}), passing(api.Mail{Seq: 99}),
	}.over(&w)
	for k, ask := range f.asks {
		if !ask() {
			t.Fatalf("%s: list %d shares memory with a later one", name, k+1)
		}
	}
}

// happenings are of all Kinds, most of which do something to lived or down.
func happenings() []api.Happening {
	l := []api.Happening{moveOf(0, 9, 4, 33), moveOf(1, 9, 4, 33), moveOf(2, 9, 4, 33), rootsOf(0, 3, 4), rootsOf(1, 17), rootsOf(0), {}, of(12, 0, 0)}
	for n := -1; n <= mails; n++ {
		l = append(l, of(api.HHear, 0, n), of(api.HTwice, 0, n), of(api.HLose, 0, n))
	}
	for who := range 4 {
		l = append(l, of(api.HAgain, who, 0), of(api.HAgain, who, 1), of(api.HShow, who, 0), of(api.HBegin, who, 0))
		l = append(l, of(api.HDiff, who, 3), of(api.HDiff, who, 4), of(api.HDiff, who, 5), of(api.HDiff, who, 6))
	}
	return append(l, of(api.HCrash, 0, 0), of(api.HBoot, 0, 0))
}

// TestOnlyReads: neither a list that is handed in nor the room behind it changes, and what is answered is not of that memory, nor two lists of it of one.
func TestOnlyReads(t *testing.T) {
	for name, w := range good(t) {
		// What waits may be very long, and is as one that is shorter.
		w.D.Wait = w.D.Wait[:min(len(w.D.Wait), 100)]
		onlyReads(t, name, w, happenings())
	}
	onlyReads(t, "down, a torn line", with(down(), func(w *api.World) { w.D.Wait = []byte("life 2 1\nop 9") }), happenings())
	for _, turn := range wrongs() {
		for _, x := range turn {
			w := with(lived(), x.change)
			if len(w.C)+len(w.D.Safe) < 10000 {
				onlyReads(t, "refused: "+x.name, w, []api.Happening{of(api.HLose, 0, 0), rootsOf(0, 3), of(api.HBoot, 0, 0)})
			}
		}
	}
}

func onlyReads(t *testing.T, name string, w api.World, l []api.Happening) {
	t.Helper()
	in := lay(w)
	was, isText := look(in), text(in)
	stays := func(what string) {
		t.Helper()
		if look(in) != was || text(in) != isText {
			t.Fatalf("%s: %s left %v", name, what, in)
		}
	}
	world.Check(in)
	stays("Check")
	world.Same(in, in)
	world.Same(in, lived())
	world.Same(lived(), in)
	stays("Same")
	for _, x := range l {
		got, _ := world.Do(in, x)
		spoil(t, name, got)
		stays("Do of " + text(x))
	}
	stayRun(t, name, in, stays)
}

// stayRun is for lists of happenings, the room behind these, and what Run says of them.
func stayRun(t *testing.T, name string, in api.World, stays func(what string)) {
	t.Helper()
	for _, l := range [][]api.Happening{nil, {{}}, happenings()[:1], happenings(), make([]api.Happening, 101)} {
		all := append(slices.Clone(l), of(77, 77, 77), of(78, 78, 78))
		for k := range all {
			all[k].Roots = append(slices.Clone(all[k].Roots), 76, 76)[:len(all[k].Roots)]
		}
		was := text(all)
		got, errs, _ := world.Run(in, all[:len(l)])
		spoil(t, name, got)
		passing(api.Errno(99))(&errs)
		stays("Run")
		if text(all) != was {
			t.Fatalf("%s: Run left %v of %v", name, all, was)
		}
		for _, x := range all {
			if !slices.Equal(x.Roots[:len(x.Roots)+2][len(x.Roots):], []int{76, 76}) {
				t.Fatalf("%s: Run wrote behind the roots of %v", name, x)
			}
		}
	}
}

// TestSharedListsArePulledApart: what is handed in with lists that are of one memory has lists of their own in the answer.
func TestSharedListsArePulledApart(t *testing.T) {
	w := lived()
	places := w.H.H.T.P
	roots := []int{0, 3}
	w.H.Peers[0].Roots, w.H.Peers[1].Roots = roots[:1], roots[1:]
	w.C[0].V = api.View{Roots: roots[:1], Known: places[:1]}
	w.Mail[viewTo1].V = api.View{Roots: roots[1:], Known: places}
	w.Mail[diffTo0].D.Here = places[1:]
	w.Mail = append(w.Mail, w.Mail[viewTo1], w.Mail[diffTo0])
	w.C[2] = api.Client{Life: 1, Version: 1, V: w.C[0].V}
	for base, power := range map[string]func(w *api.World){"up": nothing, "down": func(w *api.World) { w.H, w.Up = newHub(), false }} {
		in := with(w, power)
		was := text(in)
		if e := world.Check(in); e != api.OK {
			t.Fatalf("%s: %v", base, e)
		}
		for _, x := range append(happenings(), rootsOf(0, roots...)) {
			got, _ := world.Do(in, x)
			spoil(t, base, got)
			ran, _, _ := world.Run(in, []api.Happening{x, x})
			spoil(t, base, ran)
			if text(in) != was || !slices.Equal(roots, []int{0, 3}) {
				t.Fatalf("%s: %v left %v", base, x, in)
			}
		}
	}
}

// TestRootsAreCopied: who asked for roots may write over them later.
func TestRootsAreCopied(t *testing.T) {
	roots := []int{3, 4}
	got, e := world.Do(lived(), rootsOf(0, roots...))
	if e != api.OK {
		t.Fatal(e)
	}
	was := text(got)
	roots[0], roots[1] = 9, 9
	if text(got) != was {
		t.Errorf("%v, want %v", got, was)
	}
}

// TestAnswersAgain: what a call answers hangs on its arguments alone, whatever was called ahead of it.
func TestAnswersAgain(t *testing.T) {
	for base, fresh := range powered() {
		var first []string
		for _, x := range happenings() {
			got, e := world.Do(fresh(), x)
			first = append(first, text(got)+text(e))
		}
		ran, errs, e := world.Run(fresh(), happenings())
		for _, x := range refused() {
			world.Do(x.w, api.Happening{Kind: api.HBoot})
		}
		for k, x := range happenings() {
			got, e := world.Do(fresh(), x)
			if text(got)+text(e) != first[k] {
				t.Errorf("%s%v: %s, and then %v, %v", base, x, first[k], got, e)
			}
		}
		ran2, errs2, e2 := world.Run(fresh(), happenings())
		if e != e2 || !slices.Equal(errs, errs2) || text(ran) != text(ran2) {
			t.Errorf("%sRun: %v, %v, %v, and then %v, %v, %v", base, ran, errs, e, ran2, errs2, e2)
		}
	}
}
