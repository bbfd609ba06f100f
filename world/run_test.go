package world_test

import (
	"slices"
	"strconv"
	"strings"
	"testing"

	"orangery/api"
	"orangery/client"
	"orangery/history"
	"orangery/hub"
	"orangery/note"
	"orangery/view"
	"orangery/world"
)

func TestRun(t *testing.T) {
	l := []api.Happening{
		moveOf(0, 3, 0, 7),
		of(api.HBegin, 0, 0),
		of(99, 0, 0),
		rootsOf(0, 3),
		moveOf(0, 3, 0, 7),
		of(api.HHear, 0, 1),
		of(api.HHear, 0, 0),
		of(api.HCrash, 0, 0),
		of(api.HShow, 0, 0),
		of(api.HBoot, 0, 0),
		of(api.HDiff, 0, 3),
		of(api.HDiff, 0, 2),
		of(api.HDiff, 0, 1),
		moveOf(3, 3, 0, 7),
	}
	said := []api.Errno{
		api.ErrLate, api.OK, api.ErrForm, api.OK, api.OK, api.ErrWho, api.OK,
		api.OK, api.ErrLate, api.OK, api.ErrRange, api.OK, api.ErrLate, api.ErrWho,
	}
	o := op(1, 0, 3, 0, 7, 1, 1)
	want := api.World{
		H: api.Hub{
			H:       api.History{L: []api.Step{{O: o, Did: true}}, T: api.Tree{P: []api.Place{at(3, 0, 7)}}},
			Version: 3,
			Peers:   []api.Peer{{Life: 1, Seq: 1, Roots: []int{3}}, {}, {}},
		},
		D:    api.Disk{Safe: []byte("life 0 1\nroots 0 3\nop 1 0 3 0 7 1 1\n")},
		Up:   true,
		C:    []api.Client{{Life: 1, Time: 1, Seq: 1, Pending: []api.Op{o}}, {}, {}},
		Mail: []api.Mail{{Kind: api.MDelta, Who: 0, Life: 1, Seq: 1, Time: 1, Version: 3, From: 2, D: api.Delta{Here: []api.Place{at(3, 0, 7)}}}},
	}
	got, errs, e := world.Run(empty(), l)
	if e != api.OK || !slices.Equal(errs, said) || text(got) != text(want) {
		t.Errorf("%v, %v, %v, want %v, %v", got, errs, e, want, said)
	}
}

// TestRunOfNothing: what has an error, and what there is none of, changes nothing.
func TestRunOfNothing(t *testing.T) {
	wrongOnes := []api.Happening{{}, of(12, 0, 0), of(api.HLose, 0, 30), moveOf(3, 0, 0, 0), of(api.HShow, -1, 0), rootsOf(0, 17), rootsOf(2, 5, 5), of(api.HAgain, 2, 0)}
	for name, w := range good(t) {
		for _, l := range [][]api.Happening{nil, {}, wrongOnes} {
			got, errs, e := world.Run(w, l)
			if e != api.OK || len(errs) != len(l) || slices.Contains(errs, api.OK) || text(got) != text(w) {
				t.Errorf("%s: %v, %v, %v, want %v", name, got, errs, e, w)
			}
		}
	}
}

func TestRunRefuses(t *testing.T) {
	refuses := func(name string, w api.World, l []api.Happening, want api.Errno) {
		t.Helper()
		if got, errs, e := world.Run(w, l); e != want || errs != nil || !noWorld(got) {
			t.Errorf("%s: %v, %v, %v, want %v alone", name, got, errs, e, want)
		}
	}
	for name, x := range refused() {
		refuses(name, x.w, nil, x.e)
		refuses(name+", and something happens", x.w, []api.Happening{of(api.HLose, 0, 0), of(api.HBoot, 0, 0)}, x.e)
		refuses(name+", and too much happens", x.w, make([]api.Happening, 101), x.e)
	}
	for _, n := range []int{101, 102, 1000} {
		refuses(strconv.Itoa(n)+" that there are none of", lived(), make([]api.Happening, n), api.ErrMany)
		refuses(strconv.Itoa(n)+" crashes", down(), slices.Repeat([]api.Happening{of(api.HBoot, 0, 0), of(api.HCrash, 0, 0)}, n)[:n], api.ErrMany)
	}
}

// TestRunOfAsManyAsMayBe: each of them happens, the last one, too.
func TestRunOfAsManyAsMayBe(t *testing.T) {
	for _, n := range []int{1, 2, 99, 100} {
		l := slices.Repeat([]api.Happening{of(api.HCrash, 0, 0), of(api.HBoot, 0, 0)}, n)[:n]
		want := lived()
		if n%2 == 1 {
			want = down()
		}
		got, errs, e := world.Run(lived(), l)
		if e != api.OK || !slices.Equal(errs, make([]api.Errno, n)) || text(got) != text(want) {
			t.Errorf("%d: %v, %v, %v, want %v", n, got, errs, e, want)
		}
	}
	l := append(make([]api.Happening, 99), of(api.HBegin, 0, 0))
	got, errs, e := world.Run(empty(), l)
	if e != api.OK || len(errs) != 100 || errs[98] != api.ErrForm || errs[99] != api.OK || got.H.Version != 1 {
		t.Errorf("99 of no kind, and one more: %v, %v, %v", got, errs, e)
	}
}

// dice rolls the same numbers each time that it starts with the same one.
type dice uint64

func (d *dice) roll(sides int) int {
	*d = *d*6364136223846793005 + 1442695040888963407
	return int(uint64(*d)>>33) % sides
}

// next is what may happen to w; some of it has an error, and heavy says how much is said to the hub.
func (d *dice) next(w api.World, heavy int) api.Happening {
	x := api.Happening{Who: d.roll(3), Node: 1 + d.roll(5), Parent: []int{0, 1, 2, 3, 4, 5, 16}[d.roll(7)], Name: d.roll(3)}
	switch r := d.roll(40 + heavy); {
	case r < 8:
		x.Kind = api.HMove
	case r < 11:
		x.Kind, x.N = api.HAgain, d.roll(3)
	case r < 14:
		x.Kind = api.HShow
	case r < 18:
		x.Kind, x.N = api.HDiff, d.roll(w.H.Version+1)
		if v := w.C[x.Who].Version; d.roll(2) == 0 {
			x.N = v
		}
	case r < 20:
		x.Kind, x.Roots = api.HRoots, [][]int{nil, {0}, {2}, {1, 3}, {0, 16}, {4, 2}}[d.roll(6)]
	case r < 21:
		x.Kind = api.HBegin
	case r < 23:
		x.Kind = api.HCrash
	case r < 26:
		x.Kind = api.HBoot
	case r < 28:
		x.Kind, x.N = api.HLose, d.roll(len(w.Mail)+1)
	case r < 31:
		x.Kind, x.N = api.HTwice, d.roll(len(w.Mail)+1)
	default:
		x.Kind, x.N = api.HHear, d.roll(len(w.Mail)+1)
		if d.roll(3) > 0 {
			x.N = 0
		}
	}
	return x
}

// TestWalks: whatever is lost, comes twice or late, and whenever the power goes, what was promised holds behind each
// happening, and where all is heard each client sees what is to be seen. Run does what Do does, one after the other.
func TestWalks(t *testing.T) {
	settled, times := 0, 60
	for k := range times {
		d := dice(k + 1)
		w := world.New()
		start, l, said := w, []api.Happening{}, []api.Errno{}
		for step := range 60 + 4*k {
			x := d.next(w, k%3*10)
			next, e := world.Do(w, x)
			if e == api.OK {
				w = next
				holds(t, w)
			} else if !noWorld(next) {
				t.Fatalf("%v to %v: %v, %v", x, w, next, e)
			}
			l, said = append(l, x), append(said, e)
			if len(l) == 1+step%100 {
				got, errs, e := world.Run(start, l)
				if e != api.OK || !slices.Equal(errs, said) || text(got) != text(w) {
					t.Fatalf("Run of %v: %v, %v, %v, want %v, %v", l, got, errs, e, w, said)
				}
				start, l, said = w, nil, nil
			}
		}
		if settles(t, w) {
			settled++
		}
	}
	if settled < times/2 {
		t.Errorf("only %d of %d walks had room for all that was done", settled, times)
	}
}

// records are those of w's disk, none of which waits.
func records(t *testing.T, w api.World) []api.Rec {
	t.Helper()
	if len(w.D.Wait) > 0 {
		t.Fatalf("%q waits", w.D.Wait)
	}
	var l []api.Rec
	for line := range strings.Lines(string(w.D.Safe)) {
		r, e := note.Parse(strings.TrimSuffix(line, "\n"))
		if e != api.OK {
			t.Fatalf("%q: %v", line, e)
		}
		l = append(l, r)
	}
	return l
}

func replay(t *testing.T, l []api.Rec) api.Hub {
	t.Helper()
	h, e := hub.Replay(l)
	if e != api.OK {
		t.Fatalf("%v: %v", l, e)
	}
	return h
}

// holds asks what is promised of each world that comes of a new one.
func holds(t *testing.T, w api.World) {
	t.Helper()
	if e := world.Check(w); e != api.OK {
		t.Fatalf("Check says %v of %v", e, w)
	}
	l := records(t, w)
	var ops []api.Op
	numbers := map[[2]int]int{}
	for _, r := range l {
		if r.Kind == api.ROp {
			ops = append(ops, r.O)
			of := [2]int{r.O.S.Who, r.O.Life}
			if numbers[of]++; numbers[of] != r.O.Seq {
				t.Fatalf("%v: number %d of it is accepted as number %d", r.O, r.O.Seq, numbers[of])
			}
		}
	}
	made, e := history.Fold(ops)
	if e != api.OK {
		t.Fatalf("Fold: %v", e)
	}
	then := replay(t, l)
	if w.Up && (text(w.H.H) != text(made) || text(w.H) != text(then)) {
		t.Fatalf("%v: want the history %v", w, made)
	}
	if !w.Up && text(w.H) != text(newHub()) {
		t.Fatalf("%v: a hub without power", w.H)
	}
	for k, c := range w.C {
		holdsOf(t, k, c, then, l)
	}
}

// holdsOf asks of one client: its life is what the hub knows, its view what it was to see, and it has no number that isn't accepted and not pending.
func holdsOf(t *testing.T, who int, c api.Client, now api.Hub, l []api.Rec) {
	t.Helper()
	p := now.Peers[who]
	if c.Life != p.Life || c.Seq < p.Seq || c.Seq-len(c.Pending) > p.Seq {
		t.Fatalf("client %d: %v, the hub knows %v", who, c, p)
	}
	if c.Version == 0 {
		return
	}
	then := replay(t, l[:c.Version])
	want, e := view.Of(then.H.T, then.Peers[who].Roots)
	if e != api.OK || then.Peers[who].Life != c.Life || text(c.V) != text(want) {
		t.Fatalf("client %d sees %v at version %d, want %v", who, c.V, c.Version, want)
	}
}

// settles lets all be heard, if log and history have room for it, and asks what is promised then.
func settles(t *testing.T, w api.World) bool {
	t.Helper()
	do := func(w api.World, x api.Happening) api.World {
		next, e := world.Do(w, x)
		if e != api.OK {
			t.Fatalf("%v to %v: %v", x, w, e)
		}
		holds(t, next)
		return next
	}
	if !w.Up {
		w = do(w, of(api.HBoot, 0, 0))
	}
	left := 0
	for k, c := range w.C {
		left += c.Seq - w.H.Peers[k].Seq
	}
	if w.H.Version+left > api.MaxLog || len(w.H.H.L)+left > api.MaxOps {
		return false
	}
	for len(w.Mail) > 0 {
		w = do(w, of(api.HHear, 0, 0))
	}
	for who := range w.C {
		for n := range w.C[who].Pending {
			w = do(w, of(api.HAgain, who, n))
			w = do(w, of(api.HHear, 0, 0))
		}
	}
	for who := range w.C {
		if w.C[who].Life == 0 {
			continue
		}
		w = do(w, of(api.HShow, who, 0))
		w = do(w, of(api.HHear, 0, 0))
	}
	for who, c := range w.C {
		seen, e := hub.Sees(w.H, who)
		if e != api.OK || len(c.Pending) > 0 || c.Life > 0 && c.Version != w.H.Version || text(c.V) != text(seen) {
			t.Fatalf("client %d: %v, want %v", who, c, seen)
		}
		shown, e := client.Shows(c, who)
		if e != api.OK || len(shown.P) != len(seen.Known)+len(seen.Way) {
			t.Fatalf("client %d shows %v, %v, want %v", who, shown, e, seen)
		}
	}
	return true
}
