package note_test

import (
	"maps"
	"math"
	"slices"
	"strconv"
	"strings"
	"testing"

	"orangery/api"
	"orangery/note"
)

// op makes an operation of all its numbers, in the order of its text.
func op(time, who, node, parent, name, life, seq int) api.Op {
	return api.Op{S: api.Stamp{Time: time, Who: who}, Node: node, Parent: parent, Name: name, Life: life, Seq: seq}
}

func opRec(o api.Op) api.Rec {
	return api.Rec{Kind: api.ROp, O: o}
}

func lifeRec(who, life int) api.Rec {
	return api.Rec{Kind: api.RLife, Who: who, Life: life}
}

func rootsRec(who int, roots ...int) api.Rec {
	return api.Rec{Kind: api.RRoots, Who: who, Roots: roots}
}

// alike holds two records against each other without the package's help.
func alike(a, b api.Rec) bool {
	return a.Kind == b.Kind && a.Who == b.Who && a.Life == b.Life && a.O == b.O && slices.Equal(a.Roots, b.Roots)
}

func noRec(r api.Rec) bool {
	return alike(r, api.Rec{})
}

// written are records, by their texts.
func written() map[string]api.Rec {
	return map[string]api.Rec{
		"op 3 1 4 2 7 5 6":          opRec(op(3, 1, 4, 2, 7, 5, 6)),
		"op 1 0 1 0 0 1 1":          opRec(op(1, 0, 1, 0, 0, 1, 1)),
		"op 10000 2 15 16 99 50 30": opRec(op(10000, 2, 15, 16, 99, 50, 30)),
		"op 11 2 13 14 15 16 17":    opRec(op(11, 2, 13, 14, 15, 16, 17)),
		"op 8 0 9 9 0 1 2":          opRec(op(8, 0, 9, 9, 0, 1, 2)), // it does nothing in any tree, but may be
		"life 1 2":                  lifeRec(1, 2),
		"life 0 1":                  lifeRec(0, 1),
		"life 2 50":                 lifeRec(2, 50),
		"life 0 10":                 lifeRec(0, 10),
		"roots 0":                   rootsRec(0),
		"roots 2":                   rootsRec(2),
		"roots 1 0":                 rootsRec(1, 0),
		"roots 0 16":                rootsRec(0, 16),
		"roots 0 0 5":               rootsRec(0, 0, 5),
		"roots 2 1 10 11":           rootsRec(2, 1, 10, 11),
		"roots 1 0 1 15 16":         rootsRec(1, 0, 1, 15, 16),
	}
}

type wrongRec struct {
	r api.Rec
	e api.Errno
}

// outside are operations of which one number each is just outside, or far; what they would be written as stands ahead.
func outside() map[string]api.Op {
	return map[string]api.Op{
		"op 0 1 4 2 7 5 6":                    op(0, 1, 4, 2, 7, 5, 6),
		"op 10001 1 4 2 7 5 6":                op(10001, 1, 4, 2, 7, 5, 6),
		"op 3 -1 4 2 7 5 6":                   op(3, -1, 4, 2, 7, 5, 6),
		"op 3 3 4 2 7 5 6":                    op(3, 3, 4, 2, 7, 5, 6),
		"op 3 1 0 2 7 5 6":                    op(3, 1, 0, 2, 7, 5, 6),
		"op 3 1 16 2 7 5 6":                   op(3, 1, 16, 2, 7, 5, 6),
		"op 3 1 4 -1 7 5 6":                   op(3, 1, 4, -1, 7, 5, 6),
		"op 3 1 4 17 7 5 6":                   op(3, 1, 4, 17, 7, 5, 6),
		"op 3 1 4 2 -1 5 6":                   op(3, 1, 4, 2, -1, 5, 6),
		"op 3 1 4 2 100 5 6":                  op(3, 1, 4, 2, 100, 5, 6),
		"op 3 1 4 2 7 0 6":                    op(3, 1, 4, 2, 7, 0, 6),
		"op 3 1 4 2 7 51 6":                   op(3, 1, 4, 2, 7, 51, 6),
		"op 3 1 4 2 7 5 0":                    op(3, 1, 4, 2, 7, 5, 0),
		"op 3 1 4 2 7 5 31":                   op(3, 1, 4, 2, 7, 5, 31),
		"op 0 0 0 0 0 0 0":                    {},
		"op -9223372036854775808 1 4 2 7 5 6": op(math.MinInt64, 1, 4, 2, 7, 5, 6),
		"op 3 1 4 2 7 5 9223372036854775807":  op(3, 1, 4, 2, 7, 5, math.MaxInt64),
	}
}

// readable are records that Check refuses, by the texts that would be theirs: each of them is written as a record is.
func readable() map[string]wrongRec {
	all := map[string]wrongRec{
		"life -1 1":                    {lifeRec(-1, 1), api.ErrRange},
		"life 3 1":                     {lifeRec(3, 1), api.ErrRange},
		"life 1 0":                     {lifeRec(1, 0), api.ErrRange},
		"life 1 51":                    {lifeRec(1, 51), api.ErrRange},
		"life 1 -1":                    {lifeRec(1, -1), api.ErrRange},
		"life 9223372036854775807 1":   {lifeRec(math.MaxInt64, 1), api.ErrRange},
		"life 0 -9223372036854775808":  {lifeRec(0, math.MinInt64), api.ErrRange},
		"roots -1":                     {rootsRec(-1), api.ErrRange},
		"roots 3":                      {rootsRec(3), api.ErrRange},
		"roots -9223372036854775808":   {rootsRec(math.MinInt64), api.ErrRange},
		"roots 3 0 1 2 3 4":            {rootsRec(3, 0, 1, 2, 3, 4), api.ErrRange}, // ahead of ErrMany
		"roots 3 17":                   {rootsRec(3, 17), api.ErrRange},            // ahead of ErrWho
		"roots -1 2 2":                 {rootsRec(-1, 2, 2), api.ErrRange},         // ahead of ErrTwice
		"roots 2 0 1 2 3 4":            {rootsRec(2, 0, 1, 2, 3, 4), api.ErrMany},
		"roots 2 17 17 17 17 17":       {rootsRec(2, 17, 17, 17, 17, 17), api.ErrMany},
		"roots 0 17":                   {rootsRec(0, 17), api.ErrWho},
		"roots 0 -1":                   {rootsRec(0, -1), api.ErrWho},
		"roots 0 1 2 3 17":             {rootsRec(0, 1, 2, 3, 17), api.ErrWho},
		"roots 0 -1 2 2":               {rootsRec(0, -1, 2, 2), api.ErrWho},
		"roots 0 -9223372036854775808": {rootsRec(0, math.MinInt64), api.ErrWho},
		"roots 0 2 2":                  {rootsRec(0, 2, 2), api.ErrTwice},
		"roots 0 2 1":                  {rootsRec(0, 2, 1), api.ErrTwice},
		"roots 0 0 0":                  {rootsRec(0, 0, 0), api.ErrTwice},
		"roots 0 1 5 4 17":             {rootsRec(0, 1, 5, 4, 17), api.ErrTwice},
	}
	for s, o := range outside() {
		all[s] = wrongRec{opRec(o), api.ErrRange}
	}
	return all
}

// unwritten are records that no text is of: their Kind is none, or they have what is not theirs.
func unwritten() map[string]wrongRec {
	good := op(3, 1, 4, 2, 7, 5, 6)
	return map[string]wrongRec{
		"zero":                            {api.Rec{}, api.ErrForm},
		"kind 0, else an ROp":             {api.Rec{O: good}, api.ErrForm},
		"kind 0, else an RLife":           {api.Rec{Who: 1, Life: 2}, api.ErrForm},
		"kind 4":                          {api.Rec{Kind: 4, Who: 1}, api.ErrForm},
		"kind below 0":                    {api.Rec{Kind: -1, O: good}, api.ErrForm},
		"least kind":                      {api.Rec{Kind: math.MinInt, Who: 1}, api.ErrForm},
		"greatest kind":                   {api.Rec{Kind: math.MaxInt, Who: 1}, api.ErrForm},
		"kind 4, ahead of range":          {api.Rec{Kind: 4, Who: 3, Life: 51}, api.ErrForm},
		"ROp: Who":                        {api.Rec{Kind: api.ROp, Who: 1, O: good}, api.ErrForm},
		"ROp: Who below 0":                {api.Rec{Kind: api.ROp, Who: -1, O: good}, api.ErrForm},
		"ROp: Life":                       {api.Rec{Kind: api.ROp, Life: 5, O: good}, api.ErrForm},
		"ROp: Life below 0":               {api.Rec{Kind: api.ROp, Life: -1, O: good}, api.ErrForm},
		"ROp: Roots":                      {api.Rec{Kind: api.ROp, Roots: []int{0}, O: good}, api.ErrForm},
		"ROp: Roots that may not be":      {api.Rec{Kind: api.ROp, Roots: []int{17, 17}, O: good}, api.ErrForm},
		"ROp: Who, ahead of range":        {api.Rec{Kind: api.ROp, Who: 1}, api.ErrForm},
		"ROp: Life, ahead of range":       {api.Rec{Kind: api.ROp, Life: 1}, api.ErrForm},
		"ROp: Roots, ahead of range":      {api.Rec{Kind: api.ROp, Roots: []int{1}}, api.ErrForm},
		"ROp: very many Roots":            {api.Rec{Kind: api.ROp, Roots: make([]int, 100000), O: good}, api.ErrForm},
		"RLife: O":                        {api.Rec{Kind: api.RLife, Life: 1, O: good}, api.ErrForm},
		"RLife: Time of O":                {api.Rec{Kind: api.RLife, Life: 1, O: op(1, 0, 0, 0, 0, 0, 0)}, api.ErrForm},
		"RLife: Who of O":                 {api.Rec{Kind: api.RLife, Life: 1, O: op(0, 1, 0, 0, 0, 0, 0)}, api.ErrForm},
		"RLife: Node of O":                {api.Rec{Kind: api.RLife, Life: 1, O: op(0, 0, 1, 0, 0, 0, 0)}, api.ErrForm},
		"RLife: Parent of O":              {api.Rec{Kind: api.RLife, Life: 1, O: op(0, 0, 0, -1, 0, 0, 0)}, api.ErrForm},
		"RLife: Name of O":                {api.Rec{Kind: api.RLife, Life: 1, O: op(0, 0, 0, 0, 1, 0, 0)}, api.ErrForm},
		"RLife: Life of O":                {api.Rec{Kind: api.RLife, Life: 1, O: op(0, 0, 0, 0, 0, 1, 0)}, api.ErrForm},
		"RLife: Seq of O":                 {api.Rec{Kind: api.RLife, Life: 1, O: op(0, 0, 0, 0, 0, 0, 1)}, api.ErrForm},
		"RLife: Roots":                    {api.Rec{Kind: api.RLife, Life: 1, Roots: []int{1}}, api.ErrForm},
		"RLife: Roots of the root":        {api.Rec{Kind: api.RLife, Life: 1, Roots: []int{0}}, api.ErrForm},
		"RLife: Roots that may not be":    {api.Rec{Kind: api.RLife, Life: 1, Roots: []int{17}}, api.ErrForm},
		"RLife: very many Roots":          {api.Rec{Kind: api.RLife, Life: 1, Roots: make([]int, 100000)}, api.ErrForm},
		"RLife: O, ahead of range":        {api.Rec{Kind: api.RLife, Who: 3, Life: 51, O: good}, api.ErrForm},
		"RLife: Roots, ahead of range":    {api.Rec{Kind: api.RLife, Who: 3, Life: 51, Roots: []int{1}}, api.ErrForm},
		"RRoots: O":                       {api.Rec{Kind: api.RRoots, Roots: []int{1}, O: good}, api.ErrForm},
		"RRoots: O, no Roots":             {api.Rec{Kind: api.RRoots, O: op(0, 0, 0, 0, 0, 0, -1)}, api.ErrForm},
		"RRoots: Life":                    {api.Rec{Kind: api.RRoots, Life: 1, Roots: []int{1}}, api.ErrForm},
		"RRoots: Life, no Roots":          {api.Rec{Kind: api.RRoots, Life: 1}, api.ErrForm},
		"RRoots: Life below 0":            {api.Rec{Kind: api.RRoots, Life: -1}, api.ErrForm},
		"RRoots: O, ahead of range":       {api.Rec{Kind: api.RRoots, Who: 3, O: good}, api.ErrForm},
		"RRoots: Life, ahead of range":    {api.Rec{Kind: api.RRoots, Who: -1, Life: 51}, api.ErrForm},
		"RRoots: Life, ahead of many":     {api.Rec{Kind: api.RRoots, Life: 1, Roots: []int{0, 1, 2, 3, 4}}, api.ErrForm},
		"RRoots: O, ahead of who":         {api.Rec{Kind: api.RRoots, Roots: []int{17}, O: good}, api.ErrForm},
		"RRoots: very many, none rising":  {api.Rec{Kind: api.RRoots, Roots: make([]int, 100000)}, api.ErrMany},
		"RRoots: range, ahead of so many": {api.Rec{Kind: api.RRoots, Who: 3, Roots: make([]int, 100000)}, api.ErrRange},
	}
}

// refused are all records that Check refuses.
func refused() map[string]wrongRec {
	all := readable()
	maps.Copy(all, unwritten())
	return all
}

// misspelt are texts that are not written as a record is.
func misspelt() []string {
	return []string{
		"", " ", "\n", "\x00", "op", "life", "roots", "op ", "life ", "roots ", "1", " 1", "1 2", " 1 2",
		// another word
		"o 3 1 4 2 7 5 6", "ops 3 1 4 2 7 5 6", "Op 3 1 4 2 7 5 6", "OP 3 1 4 2 7 5 6", "live 1 2", "lif 1 2", "Life 1 2", "root 1", "Roots 1", "rootss 1", "mail 1 2",
		"3 1 4 2 7 5 6", "1 3 1 4 2 7 5 6", "2 1 2", "3 1", "op op", "life roots 1", "\ufeffroots 1", "r\u00f6ots 1",
		// too few numbers, and too many
		"op 3", "op 3 1", "op 3 1 4 2 7 5", "op 3 1 4 2 7 5 6 1", "op 3 1 4 2 7 5 6 0", "life 1", "life 1 2 3", "life 1 2 0", "life 3", "op 0", "life 1 51 0",
		// the numbers of another word
		"op 1 2", "op 1", "life 3 1 4 2 7 5 6",
		// a blank too many, or too few, or another one
		" op 3 1 4 2 7 5 6", "op  3 1 4 2 7 5 6", "op 3 1 4  2 7 5 6", "op 3 1 4 2 7 5 6 ", "op3 1 4 2 7 5 6", "op 3 1 42 7 5 6", " life 1 2", "life  1 2", "life 1  2", "life 1 2 ", "life1 2", "life 12",
		" roots 1", "roots  1", "roots 1 ", "roots 1  5", "roots 1 5 ", "roots1", "roots1 5", "roots 1 5  ", "life\t1 2", "life 1\t2", "life 1\u00a02", "life\n1 2", "life 1 2\n", "roots 1\n", "roots 1\r", "\nroots 1", "roots 1 5\x00",
		// numbers that strconv.Itoa does not write
		"life 1 02", "life 01 2", "life +1 2", "life 1 +2", "life -0 2", "life 1 -0", "life 00 1", "life 1 2.0", "life 1 2.", "life 1 2e0", "life 1 0x2", "life 1 0b1", "life 1 0o2", "life 1 1_0", "life 1 --2", "life 1 -", "life 1 +", "life - 1",
		"life 1 two", "life 1 2a", "life 1 a", "life 1 \u0662", "life 1 \uff12", "life 1 2,", "life 1,2", "roots 1 05", "roots 1 5,6", "roots 1 [5]", "roots 1 +5", "roots 1 -0", "roots x", "roots 1 x", "roots 1 0 x 17", "roots 01",
		"op 03 1 4 2 7 5 6", "op 3 01 4 2 7 5 6", "op 3 1 04 2 7 5 6", "op 3 1 4 02 7 5 6", "op 3 1 4 2 07 5 6", "op 3 1 4 2 7 05 6", "op 3 1 4 2 7 5 06", "op 3 1 4 2 -0 5 6", "op a b c d e f g",
		// numbers that no int is
		"life 1 9223372036854775808", "life 1 -9223372036854775809", "life 18446744073709551617 1", "life 36893488147419103233 1", "roots 0 99999999999999999999999999999999999999", "op 3 1 4 2 7 5 18446744073709551622",
		// wrong in two ways: the text is, ahead of the record
		"life 3 051", "roots 0 17 017", "roots 3 0 1 2 3 4 5 x", "op 0 0 0 0 0 0", "roots 0 2 2 ",
		// two texts
		"life 1 2\nlife 1 3", "life 1 2 life 1 3", "roots 1 roots 1",
		// no text at all
		"life 1 2\xff", "\xff\xfe", "life \xc3 2",
	}
}

func TestCheckTakes(t *testing.T) {
	for s, r := range written() {
		if e := note.Check(r); e != api.OK {
			t.Errorf("%s: %v, want OK", s, e)
		}
		if len(r.Roots) == 0 {
			r.Roots = []int{}
			if e := note.Check(r); e != api.OK {
				t.Errorf("%s, its Roots empty: %v, want OK", s, e)
			}
		}
	}
}

func TestCheckRefusesTheRest(t *testing.T) {
	for name, x := range refused() {
		if e := note.Check(x.r); e != x.e {
			t.Errorf("%s: %v, want %v", name, e, x.e)
		}
	}
}

// TestCheckOfAllClients: Who and Life around both of their ends.
func TestCheckOfAllClients(t *testing.T) {
	for who := -2; who <= api.MaxClients+1; who++ {
		is := who >= 0 && who < api.MaxClients
		if e := note.Check(rootsRec(who, 1)); (e == api.OK) != is || !is && e != api.ErrRange {
			t.Errorf("roots of %d: %v", who, e)
		}
		for life := -2; life <= api.MaxLife+2; life++ {
			may := is && life >= 1 && life <= api.MaxLife
			if e := note.Check(lifeRec(who, life)); (e == api.OK) != may || !may && e != api.ErrRange {
				t.Errorf("life %d of %d: %v", life, who, e)
			}
		}
	}
}

func TestSame(t *testing.T) {
	some := func() api.Rec {
		return api.Rec{Kind: api.RRoots, Who: 1, Life: 2, Roots: []int{3, 4}, O: op(1, 2, 3, 4, 5, 6, 7)}
	}
	if !note.Same(some(), some()) || !note.Same(api.Rec{}, api.Rec{Roots: []int{}}) || !note.Same(api.Rec{Roots: []int{}}, api.Rec{}) {
		t.Errorf("like ones are not the same")
	}
	for name, change := range map[string]func(r *api.Rec){
		"Kind":             func(r *api.Rec) { r.Kind = api.RLife },
		"Kind: none":       func(r *api.Rec) { r.Kind = math.MinInt },
		"Who":              func(r *api.Rec) { r.Who = -1 },
		"Life":             func(r *api.Rec) { r.Life = math.MaxInt },
		"Who and Life":     func(r *api.Rec) { r.Who, r.Life = r.Life, r.Who },
		"Roots: first":     func(r *api.Rec) { r.Roots[0] = 99 },
		"Roots: last":      func(r *api.Rec) { r.Roots[1] = -4 },
		"Roots: order":     func(r *api.Rec) { slices.Reverse(r.Roots) },
		"Roots: one less":  func(r *api.Rec) { r.Roots = r.Roots[:1] },
		"Roots: one more":  func(r *api.Rec) { r.Roots = append(r.Roots, 0) },
		"Roots: none":      func(r *api.Rec) { r.Roots = nil },
		"O: Time":          func(r *api.Rec) { r.O.S.Time = 0 },
		"O: Who":           func(r *api.Rec) { r.O.S.Who = -3 },
		"O: Time and Who":  func(r *api.Rec) { r.O.S = api.Stamp{Time: r.O.S.Who, Who: r.O.S.Time} },
		"O: Node":          func(r *api.Rec) { r.O.Node++ },
		"O: Parent":        func(r *api.Rec) { r.O.Parent-- },
		"O: Name":          func(r *api.Rec) { r.O.Name = math.MinInt },
		"O: Life":          func(r *api.Rec) { r.O.Life = 0 },
		"O: Seq":           func(r *api.Rec) { r.O.Seq = 0 },
		"O: none":          func(r *api.Rec) { r.O = api.Op{} },
		"none but of Kind": func(r *api.Rec) { *r = api.Rec{Kind: r.Kind} },
	} {
		a, b := some(), some()
		change(&a)
		if note.Same(a, some()) || note.Same(some(), a) {
			t.Errorf("%s: the same, though it changed", name)
		}
		// Two that are no records may be the same all the same.
		change(&b)
		if !note.Same(a, b) {
			t.Errorf("%s: not the same, though both changed alike", name)
		}
	}
	for s, a := range written() {
		for other, b := range written() {
			if note.Same(a, b) != (s == other) {
				t.Errorf("%s and %s: %v", s, other, s != other)
			}
		}
	}
}

func TestPrint(t *testing.T) {
	for s, r := range written() {
		if got, e := note.Print(r); got != s || e != api.OK {
			t.Errorf("%q, %v, want %q, OK", got, e, s)
		}
	}
	for _, r := range []api.Rec{{Kind: api.RRoots, Who: 1, Roots: []int{}}, {Kind: api.RLife, Who: 1, Life: 1, Roots: []int{}}, {Kind: api.ROp, Roots: []int{}, O: op(1, 0, 1, 0, 0, 1, 1)}} {
		want := map[int]string{api.RRoots: "roots 1", api.RLife: "life 1 1", api.ROp: "op 1 0 1 0 0 1 1"}[r.Kind]
		if got, e := note.Print(r); got != want || e != api.OK {
			t.Errorf("%q, %v, want %q, OK", got, e, want)
		}
	}
}

func TestPrintRefusesTheRest(t *testing.T) {
	for name, x := range refused() {
		if s, e := note.Print(x.r); s != "" || e != x.e {
			t.Errorf("%s: %q, %v, want %v alone", name, s, e, x.e)
		}
	}
}

func TestParse(t *testing.T) {
	for s, want := range written() {
		if r, e := note.Parse(s); !alike(r, want) || e != api.OK {
			t.Errorf("%q: %v, %v, want %v, OK", s, r, e, want)
		}
	}
}

func TestParseRefusesOtherTexts(t *testing.T) {
	for _, s := range misspelt() {
		if r, e := note.Parse(s); !noRec(r) || e != api.ErrText {
			t.Errorf("%q: %v, %v, want ErrText alone", s, r, e)
		}
	}
}

func TestParseRefusesOtherRecords(t *testing.T) {
	for s, x := range readable() {
		if r, e := note.Parse(s); !noRec(r) || e != x.e {
			t.Errorf("%q: %v, %v, want %v alone", s, r, e, x.e)
		}
	}
}

// long answers a text of so many bytes: begin, and then more again and again.
func long(begin, more string, bytes int) string {
	return (begin + strings.Repeat(more, bytes))[:bytes]
}

// TestParseOfLongTexts: as many bytes as may be are read; of one more nothing is but how many they are.
func TestParseOfLongTexts(t *testing.T) {
	for name, x := range map[string]struct {
		begin, more string
		e           api.Errno // of as many bytes as may be
	}{
		"no word":                {"x", "x", api.ErrText},
		"blanks":                 {" ", " ", api.ErrText},
		"zeros":                  {"life 1 2", "0", api.ErrText},
		"zeros ahead":            {"life 1 0", "0", api.ErrText},
		"an end of blanks":       {"life 1 2", " ", api.ErrText},
		"an end of line feeds":   {"life 1 2", "\n", api.ErrText},
		"many numbers of a life": {"life 1 1", " 1", api.ErrText},
		"many roots":             {"roots 12", " 1", api.ErrRange},
		"many roots, of one":     {"roots 1 10", " 1", api.ErrMany},
		"many words":             {"roots 0 ", "roots 0 ", api.ErrText},
		"bytes that are no text": {"\xff", "\xff", api.ErrText},
	} {
		for _, bytes := range []int{api.MaxText - 2, api.MaxText} {
			if r, e := note.Parse(long(x.begin, x.more, bytes)); !noRec(r) || e != x.e {
				t.Errorf("%s: %d bytes: %v, %v, want %v alone", name, bytes, r, e, x.e)
			}
		}
		for _, bytes := range []int{api.MaxText + 1, api.MaxText + 2, 10 * api.MaxText} {
			if r, e := note.Parse(long(x.begin, x.more, bytes)); !noRec(r) || e != api.ErrMany {
				t.Errorf("%s: %d bytes: %v, %v, want ErrMany alone", name, bytes, r, e)
			}
		}
	}
}

// TestParseOfPrint: of all lives and roots that may be, and of operations at all ends of their numbers, no two have one text, and Parse leads back.
func TestParseOfPrint(t *testing.T) {
	seen := map[string]int{}
	back := func(r api.Rec) {
		t.Helper()
		s, e := note.Print(r)
		if e != api.OK {
			t.Fatalf("%v: %v", r, e)
		}
		got, e := note.Parse(s)
		if e != api.OK || !alike(got, r) || !note.Same(got, r) {
			t.Fatalf("%q: %v, %v, want %v", s, got, e, r)
		}
		seen[s]++
		if seen[s] > 1 {
			t.Fatalf("%q is of two records", s)
		}
	}
	for who := range api.MaxClients {
		for life := 1; life <= api.MaxLife; life++ {
			back(lifeRec(who, life))
		}
		for set := range 1 << (api.MaxNode + 1) {
			var roots []int
			for n := range api.MaxNode + 1 {
				if set>>n&1 == 1 {
					roots = append(roots, n)
				}
			}
			if len(roots) <= api.MaxRoots {
				back(rootsRec(who, roots...))
			}
		}
	}
	for k := range 1 << 7 {
		end := func(n, least, greatest int) int {
			if k>>n&1 == 1 {
				return greatest
			}
			return least
		}
		back(opRec(op(end(0, 1, api.MaxTime), end(1, 0, api.MaxClients-1), end(2, 1, api.MaxNode-1), end(3, 0, api.MaxNode), end(4, 0, api.MaxName), end(5, 1, api.MaxLife), end(6, 1, api.MaxOps))))
	}
}

// TestParseOfOneByteOff: of all texts one byte away from a good one Parse takes those alone that Print writes.
func TestParseOfOneByteOff(t *testing.T) {
	taken := 0
	try := func(s string) {
		t.Helper()
		r, e := note.Parse(s)
		if e != api.OK {
			if !noRec(r) {
				t.Fatalf("%q: %v beside %v", s, r, e)
			}
			return
		}
		taken++
		if back, e := note.Print(r); back != s || e != api.OK {
			t.Fatalf("%q: taken for %v, which is written %q, %v", s, r, back, e)
		}
	}
	for s := range written() {
		for k := range len(s) + 1 {
			for b := range 256 {
				try(s[:k] + string([]byte{byte(b)}) + s[k:])
				if k < len(s) {
					try(s[:k] + string([]byte{byte(b)}) + s[k+1:])
				}
			}
			if k < len(s) {
				try(s[:k] + s[k+1:])
			}
		}
	}
	if taken == 0 {
		t.Errorf("none was taken")
	}
}

// TestParseOfAllCounts: each word with ever more numbers, from 1 on rising, which any record may have as far as it has so many.
func TestParseOfAllCounts(t *testing.T) {
	takes := func(word string, n int) api.Errno {
		switch {
		case word == "op" && n == 7, word == "life" && n == 2, word == "roots" && n >= 1 && n <= 1+api.MaxRoots:
			return api.OK
		case word == "roots" && n > 1+api.MaxRoots:
			return api.ErrMany
		}
		return api.ErrText
	}
	for _, word := range []string{"op", "life", "roots", "rec", ""} {
		s := word
		for n := range 12 {
			if n > 0 {
				s += " " + strconv.Itoa(n)
			}
			if _, e := note.Parse(s); e != takes(word, n) {
				t.Errorf("%q: %v, want %v", s, e, takes(word, n))
			}
		}
	}
}

// TestOnlyReads: neither a list that is handed in nor the room behind it changes, and what is answered is not of that memory.
func TestOnlyReads(t *testing.T) {
	for _, n := range []int{0, 1, 3, 4, 6} {
		room := []int{0, 5, 7, 9, 11, 16, 77, -5, 0}
		before := slices.Clone(room)
		for _, kind := range []int{0, api.ROp, api.RLife, api.RRoots} {
			r := api.Rec{Kind: kind, Who: 1, Roots: room[:n]}
			note.Check(r)
			note.Same(r, r)
			note.Print(r)
			if !slices.Equal(room, before) {
				t.Fatalf("kind %d, %d roots: left %v, want %v", kind, n, room, before)
			}
		}
	}
	// What Parse answers twice are two lists.
	a, _ := note.Parse("roots 1 2 5")
	b, _ := note.Parse("roots 1 2 5")
	whole := a.Roots[:cap(a.Roots)]
	for k := range whole {
		whole[k] = 99
	}
	if c, e := note.Parse("roots 1 2 5"); e != api.OK || !alike(b, rootsRec(1, 2, 5)) || !alike(c, b) {
		t.Fatalf("writing over an answer left %v, %v, %v", b, c, e)
	}
}

// TestAnswersAgain: what a call answers hangs on its arguments alone, whatever was called ahead of it.
func TestAnswersAgain(t *testing.T) {
	for s, r := range written() {
		for _, x := range refused() {
			note.Print(x.r)
		}
		for _, bad := range misspelt() {
			note.Parse(bad)
		}
		if got, e := note.Print(r); got != s || e != api.OK {
			t.Errorf("%q, %v, want %q, OK", got, e, s)
		}
		if got, e := note.Parse(s); !alike(got, r) || e != api.OK {
			t.Errorf("%q: %v, %v, want %v, OK", s, got, e, r)
		}
	}
}
