package world

import (
	"slices"

	"orangery/api"
	"orangery/client"
	"orangery/delta"
	"orangery/disk"
	"orangery/hub"
	"orangery/way"
)

// after is Do of a world that was checked. What happens is worked into a copy, as w is the caller's, and as the copy may
// be left half done where something is wrong.
func after(w api.World, x api.Happening) (api.World, api.Errno) {
	next := clone(w)
	if e := happen(&next, x); e != api.OK {
		return api.World{}, e
	}
	return next, api.OK
}

func happen(w *api.World, x api.Happening) api.Errno {
	switch x.Kind {
	case api.HHear, api.HTwice, api.HLose:
		return come(w, x)
	case api.HCrash:
		return crash(w)
	case api.HBoot:
		return powerUp(w)
	case api.HMove, api.HAgain:
		return atClient(w, x)
	case api.HBegin, api.HRoots, api.HShow, api.HDiff:
		return atHub(w, x)
	}
	return api.ErrForm
}

// come is for mail that is heard, and for mail that never will be.
func come(w *api.World, x api.Happening) api.Errno {
	left, m, e := way.Take(w.Mail, x.N, x.Kind == api.HTwice)
	if e != api.OK {
		return e
	}
	w.Mail = left
	switch {
	case x.Kind == api.HLose:
		return api.OK
	case m.Kind == api.MOp:
		return hubHears(w, m.O)
	}
	return clientHears(w, m)
}

func hubHears(w *api.World, o api.Op) api.Errno {
	if !w.Up {
		return api.ErrLate
	}
	// What the hub doesn't accept has come all the same, and nobody is told: it may be there already, or be out of turn.
	write(w, api.Rec{Kind: api.ROp, O: o})
	return api.OK
}

func clientHears(w *api.World, m api.Mail) api.Errno {
	c, e := client.Hear(w.C[m.Who], m.Who, m)
	if e != api.OK {
		return e
	}
	w.C[m.Who] = c
	return api.OK
}

// crash leaves the disk alone: that is what the hub comes back from.
func crash(w *api.World) api.Errno {
	if !w.Up {
		return api.ErrLate
	}
	w.H, w.Up = hub.New(), false
	return api.OK
}

func powerUp(w *api.World) api.Errno {
	if w.Up {
		return api.ErrLate
	}
	h, d, e := boot(w.D)
	if e != api.OK {
		return e
	}
	w.H, w.D, w.Up = h, d, true
	return api.OK
}

func atClient(w *api.World, x api.Happening) api.Errno {
	if !isClient(x.Who) {
		return api.ErrWho
	}
	if x.Kind == api.HMove {
		return move(w, x)
	}
	return again(w, x.Who, x.N)
}

func move(w *api.World, x api.Happening) api.Errno {
	c, o, e := client.Move(w.C[x.Who], x.Who, x.Node, x.Parent, x.Name)
	if e != api.OK {
		return e
	}
	w.C[x.Who] = c
	return sendOp(w, x.Who, o)
}

func again(w *api.World, who, n int) api.Errno {
	pending := w.C[who].Pending
	if n < 0 || n >= len(pending) {
		return api.ErrWho
	}
	return sendOp(w, who, pending[n])
}

func atHub(w *api.World, x api.Happening) api.Errno {
	switch {
	case !isClient(x.Who):
		return api.ErrWho
	case !w.Up:
		return api.ErrLate
	case x.Kind == api.HBegin:
		return begin(w, x.Who)
	case x.Kind == api.HRoots:
		return write(w, api.Rec{Kind: api.RRoots, Who: x.Who, Roots: x.Roots})
	case w.H.Peers[x.Who].Life == 0:
		return api.ErrLate
	case x.Kind == api.HShow:
		return show(w, x.Who)
	}
	return diff(w, x.Who, x.N)
}

// begin has hub and client agree on the new life at once: no mail is needed for it.
func begin(w *api.World, who int) api.Errno {
	life := w.H.Peers[who].Life + 1
	if e := write(w, api.Rec{Kind: api.RLife, Who: who, Life: life}); e != api.OK {
		return e
	}
	c, e := client.Begin(life, timeOf(w.H))
	if e != api.OK {
		return e
	}
	w.C[who] = c
	return api.OK
}

func show(w *api.World, who int) api.Errno {
	v, e := hub.Sees(w.H, who)
	if e != api.OK {
		return e
	}
	m := news(w.H, api.MView, who)
	m.V = v
	return send(w, m)
}

func diff(w *api.World, who, n int) api.Errno {
	if n < 0 || n >= w.H.Version {
		return api.ErrRange
	}
	then, e := hubThen(w.D, n)
	if e != api.OK {
		return e
	}
	if !likePeer(then.Peers[who], w.H.Peers[who]) {
		return api.ErrLate
	}
	d, e := changed(then, w.H, who)
	if e != api.OK {
		return e
	}
	m := news(w.H, api.MDelta, who)
	m.From, m.D = n, d
	return send(w, m)
}

// likePeer asks what a delta rests on: of another life, or of other roots, there is no view to start from.
func likePeer(a, b api.Peer) bool {
	return a.Life == b.Life && slices.Equal(a.Roots, b.Roots)
}

func changed(then, now api.Hub, who int) (api.Delta, api.Errno) {
	from, e := hub.Sees(then, who)
	if e != api.OK {
		return api.Delta{}, e
	}
	to, e := hub.Sees(now, who)
	if e != api.OK {
		return api.Delta{}, e
	}
	return delta.Of(from, to)
}

// news is what both kinds of mail to a client have; it is only for clients that there are.
func news(h api.Hub, kind, who int) api.Mail {
	p := h.Peers[who]
	return api.Mail{Kind: kind, Who: who, Life: p.Life, Seq: p.Seq, Time: timeOf(h), Version: h.Version}
}

// timeOf is the greatest time of an operation, which need not be the one that was accepted last.
func timeOf(h api.Hub) int {
	time := 0
	for _, s := range h.H.L {
		time = max(time, s.O.S.Time)
	}
	return time
}

// write has r accepted and safe on the disk, or changes nothing.
func write(w *api.World, r api.Rec) api.Errno {
	h, e := hub.Next(w.H, r)
	if e != api.OK {
		return e
	}
	d, e := disk.Put(w.D, r)
	if e != api.OK {
		return e
	}
	d, e = disk.Sync(d)
	if e != api.OK {
		return e
	}
	w.H, w.D = h, d
	return api.OK
}

// boot answers the hub that d's records make, and what the disk is then.
func boot(d api.Disk) (api.Hub, api.Disk, api.Errno) {
	safe, l, e := disk.Recover(d)
	if e != api.OK {
		return api.Hub{}, api.Disk{}, e
	}
	h, e := hub.Replay(l)
	if e != api.OK {
		return api.Hub{}, api.Disk{}, e
	}
	return h, safe, api.OK
}

// hubThen is the hub as it was behind the first n records of d; it is only for so many as there are.
func hubThen(d api.Disk, n int) (api.Hub, api.Errno) {
	_, l, e := disk.Recover(d)
	if e != api.OK {
		return api.Hub{}, e
	}
	return hub.Replay(l[:n])
}

func sendOp(w *api.World, who int, o api.Op) api.Errno {
	return send(w, api.Mail{Kind: api.MOp, Who: who, O: o})
}

func send(w *api.World, m api.Mail) api.Errno {
	mail, e := way.Send(w.Mail, m)
	if e != api.OK {
		return e
	}
	w.Mail = mail
	return api.OK
}

func isClient(who int) bool {
	return who >= 0 && who < api.MaxClients
}
