package disk_test

import (
	"bytes"
	"math"
	"slices"
	"strings"
	"testing"

	"orangery/api"
	"orangery/disk"
)

func lifeRec(who, life int) api.Rec {
	return api.Rec{Kind: api.RLife, Who: who, Life: life}
}

func rootsRec(who int, roots ...int) api.Rec {
	return api.Rec{Kind: api.RRoots, Who: who, Roots: roots}
}

func opRec(o api.Op) api.Rec {
	return api.Rec{Kind: api.ROp, O: o}
}

func someOp() api.Op {
	return api.Op{S: api.Stamp{Time: 3, Who: 1}, Node: 4, Parent: 2, Name: 7, Life: 5, Seq: 6}
}

// on makes a disk of two texts.
func on(safe, wait string) api.Disk {
	return api.Disk{Safe: []byte(safe), Wait: []byte(wait)}
}

// alike holds two disks against each other without the package's help.
func alike(a, b api.Disk) bool {
	return string(a.Safe) == string(b.Safe) && string(a.Wait) == string(b.Wait)
}

func noDisk(d api.Disk) bool {
	return d.Safe == nil && d.Wait == nil
}

func likeRec(a, b api.Rec) bool {
	return a.Kind == b.Kind && a.Who == b.Who && a.Life == b.Life && a.O == b.O && slices.Equal(a.Roots, b.Roots)
}

func likeRecs(a, b []api.Rec) bool {
	return slices.EqualFunc(a, b, likeRec)
}

// line is one with its line feed, and what is on it: a record, or an error.
type line struct {
	text string
	r    api.Rec
	e    api.Errno
}

// goodLines are lines of records, of each kind, the shortest and the longest ones among them.
func goodLines() []line {
	last := api.Op{S: api.Stamp{Time: 10000, Who: 2}, Node: 15, Parent: 16, Name: 99, Life: 50, Seq: 30}
	return []line{
		{text: "life 1 2\n", r: lifeRec(1, 2)},
		{text: "life 2 50\n", r: lifeRec(2, 50)},
		{text: "roots 0\n", r: rootsRec(0)},
		{text: "roots 1 0 5\n", r: rootsRec(1, 0, 5)},
		{text: "roots 2 0 1 15 16\n", r: rootsRec(2, 0, 1, 15, 16)},
		{text: "op 3 1 4 2 7 5 6\n", r: opRec(someOp())},
		{text: "op 10000 2 15 16 99 50 30\n", r: opRec(last)},
	}
}

// wrongLines are whole lines that are no text of a record, or of one that chapter 6's Check refuses.
func wrongLines() []line {
	return []line{
		{text: "\n", e: api.ErrText},
		{text: " \n", e: api.ErrText},
		{text: "x\n", e: api.ErrText},
		{text: "life\n", e: api.ErrText},
		{text: "life 1\n", e: api.ErrText},
		{text: "ife 1 2\n", e: api.ErrText},
		{text: "life 1 2\r\n", e: api.ErrText},
		{text: "life 1 2 \n", e: api.ErrText},
		{text: " life 1 2\n", e: api.ErrText},
		{text: "\rlife 1 2\n", e: api.ErrText},
		{text: "\x00life 1 2\n", e: api.ErrText},
		{text: "life 1 2\x00\n", e: api.ErrText},
		{text: "life 1 2\vlife 1 3\n", e: api.ErrText},
		{text: "life 1 02\n", e: api.ErrText},
		{text: "life 1 2life 1 3\n", e: api.ErrText},
		{text: "\xff\xfe\n", e: api.ErrText},
		{text: "life 1 2\u2028\n", e: api.ErrText},
		{text: "life 3 1\n", e: api.ErrRange},
		{text: "life 1 0\n", e: api.ErrRange},
		{text: "life 1 51\n", e: api.ErrRange},
		{text: "roots -1\n", e: api.ErrRange},
		{text: "roots 0 1 2 3 4 5\n", e: api.ErrMany},
		{text: "roots 0 17\n", e: api.ErrWho},
		{text: "roots 0 5 5\n", e: api.ErrTwice},
		{text: "roots 0 6 5\n", e: api.ErrTwice},
		{text: "op 0 1 4 2 7 5 6\n", e: api.ErrRange},
		{text: "op 3 1 4 2 7 5 31\n", e: api.ErrRange},
	}
}

// many are n good lines.
func many(n int) string {
	return strings.Repeat("life 1 2\n", n)
}

func good() map[string]api.Disk {
	all := map[string]api.Disk{
		"no byte, nil":                   {},
		"no byte, empty":                 on("", ""),
		"nothing waits":                  on("life 1 2\nroots 1 5\n", ""),
		"nothing is safe":                on("", "life 1 2\n"),
		"both":                           on("life 1 2\n", "roots 1 5\n"),
		"twice the same":                 on("life 1 2\nlife 1 2\n", ""),
		"half a line waits":              on("life 1 2\n", "life"),
		"the rest of a line waits":       on("life 1 2\n", " 3\n"),
		"an empty line waits":            on("life 1 2\n", "\n"),
		"a wrong line waits":             on("life 1 2\n", "x\n"),
		"a wrong record waits":           on("", "life 3 1\n"),
		"no text waits":                  on("life 1 2\n", "\xff\x00\n\n\n\xfe"),
		"as many as may be":              on(many(api.MaxLog), ""),
		"as many, and more wait":         on(many(api.MaxLog), many(5)),
		"all bytes wait":                 on("", strings.Repeat("x", api.MaxText)),
		"all bytes, line feeds":          on("", strings.Repeat("\n", api.MaxText)),
		"all bytes, together":            on("life 1 2\n", strings.Repeat("x", api.MaxText-9)),
		"all bytes, and lines":           on(many(api.MaxLog), strings.Repeat("x", api.MaxText-9*api.MaxLog)),
		"as many, of the longest":        on(strings.Repeat("op 10000 2 15 16 99 50 30\n", api.MaxLog), ""),
		"many wait, more than a log has": on("", many(api.MaxLog+5)),
	}
	for _, l := range goodLines() {
		all["safe: "+l.text] = on(l.text, "")
		all["wait: "+l.text] = on("", l.text)
	}
	return all
}

type wrongDisk struct {
	d api.Disk
	e api.Errno
}

// refused are disks that Check refuses.
func refused() map[string]wrongDisk {
	all := map[string]wrongDisk{
		"one byte too much waits":            {on("", strings.Repeat("x", api.MaxText+1)), api.ErrMany},
		"one byte too much together":         {on("life 1 2\n", strings.Repeat("x", api.MaxText-8)), api.ErrMany},
		"one byte too much is safe":          {on(strings.Repeat("x", api.MaxText+1), ""), api.ErrMany},
		"too much, ahead of a torn line":     {on("life", strings.Repeat("x", api.MaxText-3)), api.ErrMany},
		"too much, ahead of a wrong line":    {on("x\n", strings.Repeat("x", api.MaxText-1)), api.ErrMany},
		"too much, ahead of a wrong record":  {on("roots 0 17\n", strings.Repeat("x", api.MaxText-10)), api.ErrMany},
		"far too much":                       {on(many(api.MaxText), many(api.MaxText)), api.ErrMany},
		"one torn line":                      {on("life 1 2", ""), api.ErrTorn},
		"one torn line, its rest waits":      {on("life 1", " 2\n"), api.ErrTorn},
		"one torn line, its line feed waits": {on("life 1 2", "\n"), api.ErrTorn},
		"one byte":                           {on("l", ""), api.ErrTorn},
		"a blank":                            {on(" ", ""), api.ErrTorn},
		"another line's end":                 {on("life 1 2\r", ""), api.ErrTorn},
		"a zero byte":                        {on("\x00", ""), api.ErrTorn},
		"torn, and no text":                  {on("x", ""), api.ErrTorn},
		"torn, and a wrong record":           {on("life 3 1", ""), api.ErrTorn},
		"the last of two is torn":            {on("life 1 2\nlife 1 3", ""), api.ErrTorn},
		"the last of two is torn early":      {on("life 1 2\nl", ""), api.ErrTorn},
		"all bytes, torn":                    {on(strings.Repeat("x", api.MaxText), ""), api.ErrTorn},
		"all bytes, one line":                {on(strings.Repeat("x", api.MaxText-1)+"\n", ""), api.ErrText},
		"all bytes, line feeds":              {on(strings.Repeat("\n", api.MaxText), ""), api.ErrText},
		"all bytes, roots not written so":    {on("roots 00"+strings.Repeat(" 1", api.MaxText/2-5)+" \n", ""), api.ErrText},
		"a line of far too many roots":       {on("roots 0"+strings.Repeat(" 1", api.MaxText/2-4)+"\n", ""), api.ErrMany},
		"wrong ahead of torn":                {on("x\nlife 1 3", ""), api.ErrText},
		"a wrong record ahead of torn":       {on("life 3 1\nlife", ""), api.ErrRange},
		"an empty line ahead of torn":        {on("\nlife", ""), api.ErrText},
		"the first of two wrong ones":        {on("x\nlife 3 1\n", ""), api.ErrText},
		"the first of two wrong records":     {on("life 3 1\nx\n", ""), api.ErrRange},
		"a byte too much at the end":         {on("life 1 2\n\n", ""), api.ErrText},
		"an empty line first":                {on("\nlife 1 2\n", ""), api.ErrText},
		"an empty line between":              {on("life 1 2\n\nlife 1 3\n", ""), api.ErrText},
		"one line too many":                  {on(many(api.MaxLog+1), ""), api.ErrMany},
		"many lines too many":                {on(many(api.MaxText/9), ""), api.ErrMany},
		"the line too many is torn":          {on(many(api.MaxLog)+"life 1 2", ""), api.ErrTorn},
		"the line too many is wrong":         {on(many(api.MaxLog)+"x\n", ""), api.ErrText},
		"the line too many is empty":         {on(many(api.MaxLog)+"\n", ""), api.ErrText},
		"the line too many is no record":     {on(many(api.MaxLog)+"life 1 51\n", ""), api.ErrRange},
		"one behind too many is wrong":       {on(many(api.MaxLog+1)+"x\n", ""), api.ErrMany},
		"one behind too many is torn":        {on(many(api.MaxLog+1)+"x", ""), api.ErrMany},
		"the last that may be is wrong":      {on(many(api.MaxLog-1)+"x\n"+many(1), ""), api.ErrText},
		"the last that may be is torn":       {on(many(api.MaxLog-1)+"life", ""), api.ErrTorn},
	}
	for _, l := range wrongLines() {
		all["first: "+l.text] = wrongDisk{on(l.text, ""), l.e}
		all["first of two: "+l.text] = wrongDisk{on(l.text+many(1), "life 1 2\n"), l.e}
		all["second: "+l.text] = wrongDisk{on(many(1)+l.text, ""), l.e}
		all["third of four: "+l.text] = wrongDisk{on("roots 0\nop 3 1 4 2 7 5 6\n"+l.text+many(1), "x"), l.e}
	}
	return all
}

func TestCheckTakes(t *testing.T) {
	for name, d := range good() {
		if e := disk.Check(d); e != api.OK {
			t.Errorf("%.80q: %v, want OK", name, e)
		}
	}
}

func TestCheckRefusesTheRest(t *testing.T) {
	for name, x := range refused() {
		if e := disk.Check(x.d); e != x.e {
			t.Errorf("%.80q: %v, want %v", name, e, x.e)
		}
	}
}

// TestCheckOfAllCounts: as many lines as may be, and more.
func TestCheckOfAllCounts(t *testing.T) {
	for n := range 2 * api.MaxLog {
		want := api.OK
		if n > 60 {
			want = api.ErrMany
		}
		if e := disk.Check(on(many(n), "")); e != want {
			t.Errorf("%d lines: %v, want %v", n, e, want)
		}
		// What waits is not counted.
		if e := disk.Check(on("", many(n))); e != api.OK {
			t.Errorf("%d lines wait: %v, want OK", n, e)
		}
	}
}

// TestCheckOfAllSizes: wherever the bytes are, they are counted together.
func TestCheckOfAllSizes(t *testing.T) {
	for n := range api.MaxLog + 1 {
		for by := -2; by <= 2; by++ {
			d := on(many(n), strings.Repeat("\n", 60000-9*n+by))
			want := api.OK
			if by > 0 {
				want = api.ErrMany
			}
			if e := disk.Check(d); e != want {
				t.Errorf("%d lines, and bytes up to %d off: %v, want %v", n, by, e, want)
			}
		}
	}
}

func TestSame(t *testing.T) {
	some := func() api.Disk { return on("life 1 2\n", "roots 1") }
	if !disk.Same(some(), some()) || !disk.Same(api.Disk{}, on("", "")) || !disk.Same(on("", ""), api.Disk{}) {
		t.Errorf("like ones are not the same")
	}
	for name, change := range map[string]func(d *api.Disk){
		"Safe: first byte":    func(d *api.Disk) { d.Safe[0] = 'k' },
		"Safe: last byte":     func(d *api.Disk) { d.Safe[8] = 0 },
		"Safe: one byte less": func(d *api.Disk) { d.Safe = d.Safe[:8] },
		"Safe: one more":      func(d *api.Disk) { d.Safe = append(d.Safe, '\n') },
		"Safe: a zero more":   func(d *api.Disk) { d.Safe = append(d.Safe, 0) },
		"Safe: none":          func(d *api.Disk) { d.Safe = nil },
		"Wait: first byte":    func(d *api.Disk) { d.Wait[0] = 'R' },
		"Wait: last byte":     func(d *api.Disk) { d.Wait[6] = '2' },
		"Wait: one byte less": func(d *api.Disk) { d.Wait = d.Wait[:6] },
		"Wait: one more":      func(d *api.Disk) { d.Wait = append(d.Wait, '\n') },
		"Wait: a zero more":   func(d *api.Disk) { d.Wait = append(d.Wait, 0) },
		"Wait: none":          func(d *api.Disk) { d.Wait = []byte{} },
		"both: swapped":       func(d *api.Disk) { d.Safe, d.Wait = d.Wait, d.Safe },
		"all is safe":         func(d *api.Disk) { *d = on("life 1 2\nroots 1", "") },
		"all waits":           func(d *api.Disk) { *d = on("", "life 1 2\nroots 1") },
		"parted elsewhere":    func(d *api.Disk) { *d = on("life 1 2\nr", "oots 1") },
		"none":                func(d *api.Disk) { *d = api.Disk{} },
		"too much":            func(d *api.Disk) { d.Wait = make([]byte, 2*api.MaxText) },
	} {
		a, b := some(), some()
		change(&a)
		if disk.Same(a, some()) || disk.Same(some(), a) {
			t.Errorf("%.80q: the same, though it changed", name)
		}
		// Two that Check refuses may be the same all the same.
		change(&b)
		if !disk.Same(a, b) {
			t.Errorf("%.80q: not the same, though both changed alike", name)
		}
	}
	for name, x := range refused() {
		if !disk.Same(x.d, on(string(x.d.Safe), string(x.d.Wait))) {
			t.Errorf("%.80q: not the same as its like", name)
		}
	}
}

// TestAllSayChecksErrorFirst: whatever else is wrong, and however little is asked.
func TestAllSayChecksErrorFirst(t *testing.T) {
	for name, x := range refused() {
		for _, r := range []api.Rec{lifeRec(1, 2), {}, lifeRec(3, 1), rootsRec(0, 17), rootsRec(0, 5, 5)} {
			if d, e := disk.Put(x.d, r); e != x.e || !noDisk(d) {
				t.Errorf("%.80q: Put of %v: %v, want %v and nothing else", name, r, e, x.e)
			}
		}
		if d, e := disk.Sync(x.d); e != x.e || !noDisk(d) {
			t.Errorf("%.80q: Sync: %v, want %v and nothing else", name, e, x.e)
		}
		for _, n := range []int{0, len(x.d.Wait), -1, len(x.d.Wait) + 1} {
			if d, e := disk.Crash(x.d, n); e != x.e || !noDisk(d) {
				t.Errorf("%.80q: Crash at %d: %v, want %v and nothing else", name, n, e, x.e)
			}
		}
		if d, l, e := disk.Recover(x.d); e != x.e || !noDisk(d) || l != nil {
			t.Errorf("%.80q: Recover: %v, want %v and nothing else", name, e, x.e)
		}
	}
}

func TestPut(t *testing.T) {
	for name, d := range good() {
		for _, l := range goodLines() {
			want, wantE := on(string(d.Safe), string(d.Wait)+l.text), api.OK
			if len(want.Safe)+len(want.Wait) > 60000 {
				want, wantE = api.Disk{}, api.ErrMany
			}
			got, e := disk.Put(d, l.r)
			if e != wantE || !alike(got, want) || e != api.OK && !noDisk(got) {
				t.Errorf("%.80q: Put of %.80q: %v, want %v", name, l.text, e, wantE)
			}
		}
	}
}

func TestPutFillsTheDisk(t *testing.T) {
	for _, safe := range []string{"", many(1), many(api.MaxLog)} {
		for _, l := range goodLines() {
			for by := -1; by <= len(l.text); by++ {
				wait := strings.Repeat("x", 60000-len(safe)-len(l.text)+by)
				d, e := disk.Put(on(safe, wait), l.r)
				if by <= 0 && (e != api.OK || !alike(d, on(safe, wait+l.text)) || disk.Check(d) != api.OK) {
					t.Errorf("%.80q, %d off: %v, want OK", l.text, by, e)
				}
				if by > 0 && (e != api.ErrMany || !noDisk(d)) {
					t.Errorf("%.80q, %d off: %v, want %v and nothing else", l.text, by, e, api.ErrMany)
				}
			}
		}
	}
}

func TestPutRefusesOtherRecords(t *testing.T) {
	late := someOp()
	late.S.Time = api.MaxTime + 1
	full := strings.Repeat("x", api.MaxText)
	for name, x := range map[string]struct {
		r api.Rec
		e api.Errno
	}{
		"none":               {api.Rec{}, api.ErrForm},
		"no such kind":       {api.Rec{Kind: 4, Who: 1, Life: 2}, api.ErrForm},
		"kind below zero":    {api.Rec{Kind: math.MinInt}, api.ErrForm},
		"an op with roots":   {api.Rec{Kind: api.ROp, O: someOp(), Roots: []int{1}}, api.ErrForm},
		"a late op":          {opRec(late), api.ErrRange},
		"no op":              {opRec(api.Op{}), api.ErrRange},
		"a life of none":     {lifeRec(api.MaxClients, 1), api.ErrRange},
		"no life":            {lifeRec(1, 0), api.ErrRange},
		"a life too many":    {lifeRec(1, math.MaxInt), api.ErrRange},
		"a life and an op":   {api.Rec{Kind: api.RLife, Who: 1, Life: 2, O: someOp()}, api.ErrForm},
		"too many roots":     {rootsRec(0, 1, 2, 3, 4, 5), api.ErrMany},
		"no node":            {rootsRec(0, 17), api.ErrWho},
		"twice a root":       {rootsRec(0, 5, 5), api.ErrTwice},
		"falling roots":      {rootsRec(0, 6, 5), api.ErrTwice},
		"far too many roots": {rootsRec(0, make([]int, api.MaxText)...), api.ErrMany},
	} {
		// The record's error is told ahead of the disk's that is full.
		for _, d := range []api.Disk{{}, on("life 1 2\n", "life"), on("", full)} {
			if got, e := disk.Put(d, x.r); e != x.e || !noDisk(got) {
				t.Errorf("%.80q: %v, want %v and nothing else", name, e, x.e)
			}
		}
	}
}

func TestSync(t *testing.T) {
	for name, x := range map[string]struct {
		safe, wait string
		e          api.Errno
	}{
		"nothing":                         {"", "", api.OK},
		"nothing waits":                   {"life 1 2\n", "", api.OK},
		"nothing is safe":                 {"", "life 1 2\n", api.OK},
		"one and one":                     {"life 1 2\n", "roots 1 5\n", api.OK},
		"some and some":                   {"life 1 2\nroots 1\n", "op 3 1 4 2 7 5 6\nlife 1 3\n", api.OK},
		"as many as may be":               {many(api.MaxLog - 2), many(2), api.OK},
		"as many, and all wait":           {"", many(api.MaxLog), api.OK},
		"as many, and all are safe":       {many(api.MaxLog), "", api.OK},
		"one too many":                    {many(api.MaxLog), many(1), api.ErrMany},
		"one too many in all":             {many(api.MaxLog - 2), many(3), api.ErrMany},
		"one too many wait":               {"", many(api.MaxLog + 1), api.ErrMany},
		"torn":                            {"life 1 2\n", "life", api.ErrTorn},
		"torn at its line feed":           {"", "life 1 2", api.ErrTorn},
		"torn behind a good one":          {"", "life 1 2\nl", api.ErrTorn},
		"one too many, and torn":          {many(api.MaxLog), "life 1 2", api.ErrTorn},
		"one too many, and wrong":         {many(api.MaxLog), "x\n", api.ErrText},
		"one too many, ahead of wrong":    {many(api.MaxLog), many(1) + "x\n", api.ErrMany},
		"an empty line":                   {"life 1 2\n", "\n", api.ErrText},
		"the rest of a line":              {"life 1 2\n", " 3\n", api.ErrText},
		"wrong ahead of torn":             {"", "x\nlife", api.ErrText},
		"all bytes":                       {many(1), strings.Repeat("x", api.MaxText-9), api.ErrTorn},
		"all bytes, line feeds":           {many(1), strings.Repeat("\n", api.MaxText-9), api.ErrText},
		"all bytes, lines":                {many(1), many(api.MaxText/9 - 1), api.ErrMany},
		"as many, and an empty line more": {many(api.MaxLog), "\n", api.ErrText},
	} {
		checkSync(t, name, x.safe, x.wait, x.e)
	}
	for _, l := range append(goodLines(), wrongLines()...) {
		checkSync(t, "first: "+l.text, "", l.text, l.e)
		checkSync(t, "behind a safe one: "+l.text, many(1), l.text, l.e)
		checkSync(t, "behind one that waits: "+l.text, "roots 0\n", many(1)+l.text, l.e)
		checkSync(t, "ahead of a good one: "+l.text, many(1), l.text+many(1), l.e)
	}
}

func checkSync(t *testing.T, name, safe, wait string, want api.Errno) {
	t.Helper()
	d, e := disk.Sync(on(safe, wait))
	if e != want {
		t.Errorf("%.80q: %v, want %v", name, e, want)
	}
	if e == api.OK && !alike(d, on(safe+wait, "")) || e != api.OK && !noDisk(d) {
		t.Errorf("%.80q: %v, left %.80q and %.80q", name, e, d.Safe, d.Wait)
	}
}

func TestCrash(t *testing.T) {
	for _, safe := range []string{"", "life 1 2\n", many(api.MaxLog)} {
		for _, wait := range []string{"", "\n", "x", "life 1 3\n", "life 1 3\nroots 1 5\nop 3", "\xff\x00\n\n"} {
			for n := -3; n <= len(wait)+3; n++ {
				d, e := disk.Crash(on(safe, wait), n)
				may := n >= 0 && n <= len(wait)
				if may && (e != api.OK || !alike(d, on(safe, wait[:n]))) {
					t.Errorf("%.80q at %d: %v, left %.80q and %.80q", wait, n, e, d.Safe, d.Wait)
				}
				if !may && (e != api.ErrRange || !noDisk(d)) {
					t.Errorf("%.80q at %d: %v, want %v and nothing else", wait, n, e, api.ErrRange)
				}
			}
			for _, n := range []int{math.MinInt, math.MaxInt, len(safe) + len(wait) + 1} {
				if d, e := disk.Crash(on(safe, wait), n); e != api.ErrRange || !noDisk(d) {
					t.Errorf("%.80q at %d: %v, want %v and nothing else", wait, n, e, api.ErrRange)
				}
			}
		}
	}
	full := on("", strings.Repeat("x", api.MaxText))
	for n, want := range map[int]api.Errno{0: api.OK, api.MaxText: api.OK, api.MaxText + 1: api.ErrRange} {
		d, e := disk.Crash(full, n)
		if e != want || e == api.OK && len(d.Wait) != n {
			t.Errorf("full, at %d: %v, %d bytes, want %v", n, e, len(d.Wait), want)
		}
	}
}

func TestRecover(t *testing.T) {
	for name, x := range map[string]struct {
		safe, wait string
		goes       string // of wait, behind safe
		recs       []api.Rec
	}{
		"nothing":                   {"", "", "", nil},
		"nothing waits":             {"life 1 2\nroots 1 5\n", "", "", []api.Rec{lifeRec(1, 2), rootsRec(1, 5)}},
		"a line":                    {"", "life 1 2\n", "life 1 2\n", []api.Rec{lifeRec(1, 2)}},
		"lines":                     {"life 1 2\n", "roots 1\nlife 1 3\n", "roots 1\nlife 1 3\n", []api.Rec{lifeRec(1, 2), rootsRec(1), lifeRec(1, 3)}},
		"all kinds":                 {"op 3 1 4 2 7 5 6\n", "op 3 1 4 2 7 5 6\nroots 2 0 16\n", "op 3 1 4 2 7 5 6\nroots 2 0 16\n", []api.Rec{opRec(someOp()), opRec(someOp()), rootsRec(2, 0, 16)}},
		"half a line":               {"life 1 2\n", "life", "", []api.Rec{lifeRec(1, 2)}},
		"half a line, nothing safe": {"", "life 1 2", "", nil},
		"a line and a half":         {"life 1 2\n", "life 1 3\nlife 1 4", "life 1 3\n", []api.Rec{lifeRec(1, 2), lifeRec(1, 3)}},
		"an empty line":             {"life 1 2\n", "\n", "", []api.Rec{lifeRec(1, 2)}},
		"an empty line, good ones":  {"", "life 1 2\n\nlife 1 3\n", "life 1 2\n", []api.Rec{lifeRec(1, 2)}},
		"a wrong line first":        {"life 1 2\n", "x\nlife 1 3\n", "", []api.Rec{lifeRec(1, 2)}},
		"a wrong line between":      {"life 1 2\n", "life 1 3\nx\nlife 1 4\n", "life 1 3\n", []api.Rec{lifeRec(1, 2), lifeRec(1, 3)}},
		"a wrong record between":    {"", "life 1 2\nlife 1 51\nlife 1 4\n", "life 1 2\n", []api.Rec{lifeRec(1, 2)}},
		"only line feeds":           {"", strings.Repeat("\n", api.MaxText), "", nil},
		"all bytes, and no line":    {"life 1 2\n", strings.Repeat("x", api.MaxText-9), "", []api.Rec{lifeRec(1, 2)}},
	} {
		checkRecover(t, name, on(x.safe, x.wait), x.safe+x.goes, x.recs)
	}
	for _, l := range goodLines() {
		checkRecover(t, "good: "+l.text, on(many(1), l.text+"li"), many(1)+l.text, []api.Rec{lifeRec(1, 2), l.r})
	}
	for _, l := range wrongLines() {
		checkRecover(t, "wrong first: "+l.text, on("roots 0\n", l.text+many(2)), "roots 0\n", []api.Rec{rootsRec(0)})
		checkRecover(t, "wrong then: "+l.text, on("roots 0\n", many(1)+l.text+many(2)), "roots 0\n"+many(1), []api.Rec{rootsRec(0), lifeRec(1, 2)})
	}
}

func checkRecover(t *testing.T, name string, d api.Disk, safe string, recs []api.Rec) {
	t.Helper()
	got, l, e := disk.Recover(d)
	if e != api.OK || !alike(got, on(safe, "")) || !likeRecs(l, recs) {
		t.Errorf("%.80q: %v, %.80q and %.80q, %v; want OK, %.80q, %v", name, e, got.Safe, got.Wait, l, safe, recs)
		return
	}
	// What was recovered once is safe: there is nothing more to it.
	again, m, e := disk.Recover(got)
	if e != api.OK || !alike(again, got) || !likeRecs(m, recs) {
		t.Errorf("%.80q, again: %v, %.80q and %.80q, %v", name, e, again.Safe, again.Wait, m)
	}
}

// TestRecoverOfAllCounts: there are never more lines than may be in all, and what is too many is gone.
func TestRecoverOfAllCounts(t *testing.T) {
	for safe := range api.MaxLog + 1 {
		for wait := range api.MaxLog + 3 {
			all := min(safe+wait, 60)
			recs := slices.Repeat([]api.Rec{lifeRec(1, 2)}, all)
			for _, behind := range []string{"", "life 1 2", "x\n"} {
				got, l, e := disk.Recover(on(many(safe), many(wait)+behind))
				if e != api.OK || !alike(got, on(many(all), "")) || !likeRecs(l, recs) {
					t.Fatalf("%d and %d lines, and %.80q: %v, %d bytes, %d records", safe, wait, behind, e, len(got.Safe), len(l))
				}
			}
		}
	}
	// Those that come first are taken.
	got, l, e := disk.Recover(on(many(api.MaxLog-1), "roots 0\nroots 1\n"))
	if e != api.OK || len(l) != api.MaxLog || !likeRec(l[api.MaxLog-1], rootsRec(0)) || string(got.Safe) != many(api.MaxLog-1)+"roots 0\n" {
		t.Errorf("one of two: %v, %.80q, %v", e, got.Safe, l)
	}
}

// pieces are those of which TestOfAllSmallDisks makes disks.
func pieces() []line {
	return []line{
		{text: "life 1 2\n", r: lifeRec(1, 2)},
		{text: "roots 2 5\n", r: rootsRec(2, 5)},
		{text: "life 3 1\n", e: api.ErrRange},
		{text: "\n", e: api.ErrText},
		{text: "roots 0", e: api.ErrTorn},
	}
}

// rows are all rows of pieces up to that length, a torn one at their ends alone.
func rows(most int) [][]line {
	all := [][]line{nil}
	for from := 0; most > 0; most-- {
		to := len(all)
		for ; from < to; from++ {
			row := all[from]
			if len(row) > 0 && row[len(row)-1].e == api.ErrTorn {
				continue
			}
			for _, p := range pieces() {
				all = append(all, append(slices.Clone(row), p))
			}
		}
	}
	return all
}

// told is what a row is: its text; the text and the records of the good lines that it begins with; what is wrong then.
func told(row []line) (text, begin string, recs []api.Rec, e api.Errno) {
	for _, p := range row {
		text += p.text
		if e == api.OK {
			e = p.e
		}
		if e == api.OK {
			begin += p.text
			recs = append(recs, p.r)
		}
	}
	return text, begin, recs, e
}

func TestOfAllSmallDisks(t *testing.T) {
	all := rows(3)
	if len(all) != 1+5+4*5+4*4*5 {
		t.Fatalf("%d rows", len(all))
	}
	for _, a := range all {
		safe, _, old, e := told(a)
		if got := disk.Check(on(safe, "")); got != e {
			t.Fatalf("Check of %.80q: %v, want %v", safe, got, e)
		}
		if e != api.OK {
			continue
		}
		for _, b := range all {
			wait, begin, more, e := told(b)
			checkSync(t, safe+"|"+wait, safe, wait, e)
			checkRecover(t, safe+"|"+wait, on(safe, wait), safe+begin, slices.Concat(old, more))
		}
	}
}

// TestWhatWasSyncedIsThere: some records are put and synced, some are put, and then there is a crash, wherever it may be.
func TestWhatWasSyncedIsThere(t *testing.T) {
	lines := goodLines()
	for synced := range len(lines) + 1 {
		var d api.Disk
		e := api.OK
		for k, l := range lines {
			if k == synced {
				d, e = disk.Sync(d)
			}
			if e == api.OK {
				d, e = disk.Put(d, l.r)
			}
			if e != api.OK {
				t.Fatalf("%d synced, line %d: %v", synced, k, e)
			}
		}
		if synced == len(lines) {
			d, e = disk.Sync(d)
		}
		if e != api.OK || bytes.Count(d.Safe, []byte("\n")) != synced {
			t.Fatalf("%d synced: %v, %.80q", synced, e, d.Safe)
		}
		for n := range len(d.Wait) + 1 {
			checkKept(t, d, n, synced)
		}
	}
}

// checkKept: d's first lines, as many as synced says, are all there when n bytes of the others are kept; of the others those are that are whole.
func checkKept(t *testing.T, d api.Disk, n, synced int) {
	t.Helper()
	left, e := disk.Crash(d, n)
	if e != api.OK {
		t.Fatalf("at %d: %v", n, e)
	}
	got, l, e := disk.Recover(left)
	count := synced + strings.Count(string(d.Wait[:n]), "\n")
	var want []api.Rec
	text := ""
	for _, x := range goodLines()[:count] {
		want = append(want, x.r)
		text += x.text
	}
	if e != api.OK || !likeRecs(l, want) || !alike(got, on(text, "")) {
		t.Errorf("%d synced, %d bytes kept: %v, %v, %.80q and %.80q; want %v", synced, n, e, l, got.Safe, got.Wait, want)
	}
}

// roomy makes a disk that lies in one array, with bytes between and behind that are no matter of it.
func roomy(safe, wait string) (api.Disk, []byte) {
	room := []byte(safe + "SPARE" + wait + "SPARE" + strings.Repeat("!", 100))
	begin := len(safe) + 5
	return api.Disk{Safe: room[:len(safe)], Wait: room[begin : begin+len(wait)]}, room
}

// tight makes a disk of which Wait lies right behind Safe, in the spare room of it.
func tight(safe, wait string) (api.Disk, []byte) {
	room := []byte(safe + wait + "SPARE")
	return api.Disk{Safe: room[:len(safe)], Wait: room[len(safe) : len(safe)+len(wait)]}, room
}

func TestOnlyReads(t *testing.T) {
	for name, lay := range map[string]func(safe, wait string) (api.Disk, []byte){"roomy": roomy, "tight": tight} {
		for _, x := range []api.Disk{on("", ""), on("life 1 2\n", ""), on("", "life 1 2\n"), on("life 1 2\n", "roots 1 5\nroots 2 1 2\n"), on("life 1 2\n", "roots 1 5\nx\nli"), on("x\n", "life"), on("life", "x")} {
			d, room := lay(string(x.Safe), string(x.Wait))
			before := bytes.Clone(room)
			roots := []int{5, 6, 7, 8}
			put, _ := disk.Put(d, rootsRec(1, roots[:2]...))
			synced, _ := disk.Sync(d)
			left, _ := disk.Crash(d, len(d.Wait)/2)
			back, recs, _ := disk.Recover(d)
			disk.Check(d)
			disk.Same(d, d)
			if !bytes.Equal(room, before) || !slices.Equal(roots, []int{5, 6, 7, 8}) {
				t.Fatalf("%.80q: left %.80q, want %.80q; roots %v", name, room, before, roots)
			}
			for _, r := range recs {
				fill(r.Roots, 99)
			}
			for _, got := range []api.Disk{put, synced, left, back} {
				checkOwn(t, got)
			}
			if !bytes.Equal(room, before) {
				t.Fatalf("%.80q: writing over answers left %.80q, want %.80q", name, room, before)
			}
		}
	}
}

// fill writes over a list, and the spare room behind it.
func fill[T any](l []T, x T) {
	l = l[:cap(l)]
	for k := range l {
		l[k] = x
	}
}

// checkOwn: the lists of an answer share no memory; both are written over then.
func checkOwn(t *testing.T, d api.Disk) {
	t.Helper()
	wait := string(d.Wait)
	fill(d.Safe, '#')
	if string(d.Wait) != wait {
		t.Fatalf("writing over Safe left %.80q of Wait, want %.80q", d.Wait, wait)
	}
	safe := string(d.Safe)
	fill(d.Wait, '+')
	if string(d.Safe) != safe {
		t.Fatalf("writing over Wait left %.80q of Safe, want %.80q", d.Safe, safe)
	}
}

// TestRecordsAreTheirOwn: the Roots of records that Recover answers share no memory, nor with those of another answer.
func TestRecordsAreTheirOwn(t *testing.T) {
	d := on("roots 0 1 2\nroots 1 3 4\n", "roots 2 5 6\nroots 0 7 8\n")
	_, other, _ := disk.Recover(d)
	_, l, e := disk.Recover(d)
	want := []api.Rec{rootsRec(0, 1, 2), rootsRec(1, 3, 4), rootsRec(2, 5, 6), rootsRec(0, 7, 8)}
	if e != api.OK || !likeRecs(l, want) {
		t.Fatalf("%v, %v", l, e)
	}
	for k := range l {
		fill(l[k].Roots, 99)
		if !likeRecs(l[k+1:], want[k+1:]) || !likeRecs(other, want) {
			t.Fatalf("writing over record %d left %v and %v", k, l, other)
		}
	}
}

// TestAnswersAgain: what a call answers hangs on its arguments alone, whatever was called ahead of it.
func TestAnswersAgain(t *testing.T) {
	for name, d := range good() {
		d1, l1, e1 := disk.Recover(d)
		for _, x := range refused() {
			disk.Recover(x.d)
			disk.Sync(x.d)
		}
		d2, l2, e2 := disk.Recover(d)
		if e1 != api.OK || e2 != e1 || !alike(d1, d2) || !likeRecs(l1, l2) {
			t.Errorf("%.80q: %v and %v, %v and %v", name, e1, e2, l1, l2)
		}
	}
}
